/-
  No cell of these rows narrows 'for every input' (looked for: loops, veiled, ifaces, maps, wideKeys, modest, calm, conditions, laid).
  DERIVED. THE GIVEN ROWS OF THIS SEAT. 8 by the template 'for every input the law returns true; each argument reads behind the call as it read before'; 0 by the template 'total and deterministic' (their statements: YticminoejikdfaaTotals.lean).
  GIVEN WITH THE SEED: the statements are not yours to turn. If you find one false, say at which input.
  Laid BY PROGRAM, IN A SANDBOX (cutbox-rows.mjs): the forced cells as the released guide's own fill.sh prints them over the translation e918e681b2a73525… (all of the seat's roots in one cut). By AI agents, Wed Nov 11 2026. No macro, syntax, notation, axiom, sorry.
-/
import Derived.Test.YticminoejikdfaaChecked
import GoSem.Claim
import GoSem.ClaimJoined
import GoSem.ClaimMapViews
import Derived.JoinedTies
import Derived.KernelRfl
namespace Go.Proofs.Yticminoejikdfaa
/- THE CELL 'sum', in the pinned program and in every row, IS THE sha256 OF THE DUMP (.gsa) THAT YticminoejikdfaaProg.lean LOADS. Nothing in Lean hashes anything: it is a label: what it is worth is what the hold of that sum in a sandbox is worth. -/
noncomputable def Try.pinned : Pinned := { name := "yticminoejikdfaa", sum := "e918e681b2a73525783b28c0a073e471bb1a42733dd4e1c60b688f0b883b5d8a", checked := Try.checked }
namespace Rows
def none {H : Type} : Left H := { results := [], args := [] }

/-- 'laws.FnLaid': WHATEVER THE INPUT: true; the input reads as it did. -/
def fnLaidSpec : ChangeSpec := { name := "fnLaid", fn := fun _ => fun
  | [d] => { results := [.lit (.bool true)], args := [d] }
  | _ => none }
def fnLaidRow : OpenClaim := { program := "yticminoejikdfaa", sum := "e918e681b2a73525783b28c0a073e471bb1a42733dd4e1c60b688f0b883b5d8a", func := "loop.example/g00059/laws.FnLaid", spec := "fnLaid", unfollowed := true, recurses := true, apart := false }
def FnLaidSaid : Prop := fnLaidRow.holds Try.pinned (OpenSpec.ofChange fnLaidSpec)

/-- ITS FALSE NEIGHBOUR: 'it returns false'. Refute it at one input. -/
def fnLaidWrong : ChangeSpec := { name := "fnLaid", fn := fun _ => fun
  | [d] => { results := [.lit (.bool false)], args := [d] }
  | _ => none }
def FnLaidWrongFalsely : Prop := fnLaidRow.holds Try.pinned (OpenSpec.ofChange fnLaidWrong)

/-- 'laws.FnAverage': WHATEVER THE INPUT: true; the input reads as it did. -/
def fnAverageSpec : ChangeSpec := { name := "fnAverage", fn := fun _ => fun
  | [d] => { results := [.lit (.bool true)], args := [d] }
  | _ => none }
def fnAverageRow : OpenClaim := { program := "yticminoejikdfaa", sum := "e918e681b2a73525783b28c0a073e471bb1a42733dd4e1c60b688f0b883b5d8a", func := "loop.example/g00059/laws.FnAverage", spec := "fnAverage", unfollowed := true, recurses := true, apart := false }
def FnAverageSaid : Prop := fnAverageRow.holds Try.pinned (OpenSpec.ofChange fnAverageSpec)

/-- ITS FALSE NEIGHBOUR: 'it returns false'. Refute it at one input. -/
def fnAverageWrong : ChangeSpec := { name := "fnAverage", fn := fun _ => fun
  | [d] => { results := [.lit (.bool false)], args := [d] }
  | _ => none }
def FnAverageWrongFalsely : Prop := fnAverageRow.holds Try.pinned (OpenSpec.ofChange fnAverageWrong)

/-- 'laws.FnExactCharterOk': WHATEVER THE INPUT: true; the input reads as it did. -/
def fnExactCharterOkSpec : ChangeSpec := { name := "fnExactCharterOk", fn := fun _ => fun
  | [d] => { results := [.lit (.bool true)], args := [d] }
  | _ => none }
def fnExactCharterOkRow : OpenClaim := { program := "yticminoejikdfaa", sum := "e918e681b2a73525783b28c0a073e471bb1a42733dd4e1c60b688f0b883b5d8a", func := "loop.example/g00059/laws.FnExactCharterOk", spec := "fnExactCharterOk", apart := false }
def FnExactCharterOkSaid : Prop := fnExactCharterOkRow.holds Try.pinned (OpenSpec.ofChange fnExactCharterOkSpec)

/-- ITS FALSE NEIGHBOUR: 'it returns false'. Refute it at one input. -/
def fnExactCharterOkWrong : ChangeSpec := { name := "fnExactCharterOk", fn := fun _ => fun
  | [d] => { results := [.lit (.bool false)], args := [d] }
  | _ => none }
def FnExactCharterOkWrongFalsely : Prop := fnExactCharterOkRow.holds Try.pinned (OpenSpec.ofChange fnExactCharterOkWrong)

/-- 'laws.FnExactStarts': WHATEVER THE INPUT: true; the input reads as it did. -/
def fnExactStartsSpec : ChangeSpec := { name := "fnExactStarts", fn := fun _ => fun
  | [d1, d2, d3] => { results := [.lit (.bool true)], args := [d1, d2, d3] }
  | _ => none }
def fnExactStartsRow : OpenClaim := { program := "yticminoejikdfaa", sum := "e918e681b2a73525783b28c0a073e471bb1a42733dd4e1c60b688f0b883b5d8a", func := "loop.example/g00059/laws.FnExactStarts", spec := "fnExactStarts", apart := false }
def FnExactStartsSaid : Prop := fnExactStartsRow.holds Try.pinned (OpenSpec.ofChange fnExactStartsSpec)

/-- ITS FALSE NEIGHBOUR: 'it returns false'. Refute it at one input. -/
def fnExactStartsWrong : ChangeSpec := { name := "fnExactStarts", fn := fun _ => fun
  | [d1, d2, d3] => { results := [.lit (.bool false)], args := [d1, d2, d3] }
  | _ => none }
def FnExactStartsWrongFalsely : Prop := fnExactStartsRow.holds Try.pinned (OpenSpec.ofChange fnExactStartsWrong)

/-- 'laws.FnExactCounted': WHATEVER THE INPUT: true; the input reads as it did. -/
def fnExactCountedSpec : ChangeSpec := { name := "fnExactCounted", fn := fun _ => fun
  | [d1, d2, d3, d4] => { results := [.lit (.bool true)], args := [d1, d2, d3, d4] }
  | _ => none }
def fnExactCountedRow : OpenClaim := { program := "yticminoejikdfaa", sum := "e918e681b2a73525783b28c0a073e471bb1a42733dd4e1c60b688f0b883b5d8a", func := "loop.example/g00059/laws.FnExactCounted", spec := "fnExactCounted", unfollowed := true, recurses := true, apart := false }
def FnExactCountedSaid : Prop := fnExactCountedRow.holds Try.pinned (OpenSpec.ofChange fnExactCountedSpec)

/-- ITS FALSE NEIGHBOUR: 'it returns false'. Refute it at one input. -/
def fnExactCountedWrong : ChangeSpec := { name := "fnExactCounted", fn := fun _ => fun
  | [d1, d2, d3, d4] => { results := [.lit (.bool false)], args := [d1, d2, d3, d4] }
  | _ => none }
def FnExactCountedWrongFalsely : Prop := fnExactCountedRow.holds Try.pinned (OpenSpec.ofChange fnExactCountedWrong)

/-- 'laws.FnExactOwed': WHATEVER THE INPUT: true; the input reads as it did. -/
def fnExactOwedSpec : ChangeSpec := { name := "fnExactOwed", fn := fun _ => fun
  | [d1, d2] => { results := [.lit (.bool true)], args := [d1, d2] }
  | _ => none }
def fnExactOwedRow : OpenClaim := { program := "yticminoejikdfaa", sum := "e918e681b2a73525783b28c0a073e471bb1a42733dd4e1c60b688f0b883b5d8a", func := "loop.example/g00059/laws.FnExactOwed", spec := "fnExactOwed", apart := false }
def FnExactOwedSaid : Prop := fnExactOwedRow.holds Try.pinned (OpenSpec.ofChange fnExactOwedSpec)

/-- ITS FALSE NEIGHBOUR: 'it returns false'. Refute it at one input. -/
def fnExactOwedWrong : ChangeSpec := { name := "fnExactOwed", fn := fun _ => fun
  | [d1, d2] => { results := [.lit (.bool false)], args := [d1, d2] }
  | _ => none }
def FnExactOwedWrongFalsely : Prop := fnExactOwedRow.holds Try.pinned (OpenSpec.ofChange fnExactOwedWrong)

/-- 'laws.FnExactLaid': WHATEVER THE INPUT: true; the input reads as it did. -/
def fnExactLaidSpec : ChangeSpec := { name := "fnExactLaid", fn := fun _ => fun
  | [d1, d2, d3] => { results := [.lit (.bool true)], args := [d1, d2, d3] }
  | _ => none }
def fnExactLaidRow : OpenClaim := { program := "yticminoejikdfaa", sum := "e918e681b2a73525783b28c0a073e471bb1a42733dd4e1c60b688f0b883b5d8a", func := "loop.example/g00059/laws.FnExactLaid", spec := "fnExactLaid", unfollowed := true, recurses := true, apart := false }
def FnExactLaidSaid : Prop := fnExactLaidRow.holds Try.pinned (OpenSpec.ofChange fnExactLaidSpec)

/-- ITS FALSE NEIGHBOUR: 'it returns false'. Refute it at one input. -/
def fnExactLaidWrong : ChangeSpec := { name := "fnExactLaid", fn := fun _ => fun
  | [d1, d2, d3] => { results := [.lit (.bool false)], args := [d1, d2, d3] }
  | _ => none }
def FnExactLaidWrongFalsely : Prop := fnExactLaidRow.holds Try.pinned (OpenSpec.ofChange fnExactLaidWrong)

/-- 'laws.FnExactAverage': WHATEVER THE INPUT: true; the input reads as it did. -/
def fnExactAverageSpec : ChangeSpec := { name := "fnExactAverage", fn := fun _ => fun
  | [d1, d2] => { results := [.lit (.bool true)], args := [d1, d2] }
  | _ => none }
def fnExactAverageRow : OpenClaim := { program := "yticminoejikdfaa", sum := "e918e681b2a73525783b28c0a073e471bb1a42733dd4e1c60b688f0b883b5d8a", func := "loop.example/g00059/laws.FnExactAverage", spec := "fnExactAverage", unfollowed := true, recurses := true, apart := false }
def FnExactAverageSaid : Prop := fnExactAverageRow.holds Try.pinned (OpenSpec.ofChange fnExactAverageSpec)

/-- ITS FALSE NEIGHBOUR: 'it returns false'. Refute it at one input. -/
def fnExactAverageWrong : ChangeSpec := { name := "fnExactAverage", fn := fun _ => fun
  | [d1, d2] => { results := [.lit (.bool false)], args := [d1, d2] }
  | _ => none }
def FnExactAverageWrongFalsely : Prop := fnExactAverageRow.holds Try.pinned (OpenSpec.ofChange fnExactAverageWrong)

/- THE SECOND FORM. 'bulk': how many values and letters a reading holds, each counted each time it is reached (what is shared counts as often as it is met; a slice's spare places count too). A statement '..UptoSaid' is the law's where the arguments, and the package variables that the reading takes, are together of bulk at most 1048576: NARROWER than '..Said'. Prove '..Said' where nothing that the law and all that it calls make is longer than what came in: it says more and counts as full. Else prove '..UptoSaid'. A law counts once. -/
mutual
def uptoBulk {H : Type} : DataW H → Nat
  | .lit (.string bytes) => bytes.length + 1
  | .lit _ => 1
  | .nil => 1
  | .ptr d => uptoBulk d + 1
  | .slice elems spare => uptoBulkAll elems + uptoBulkAll spare + 1
  | .agg parts => uptoBulkAll parts + 1
  | .iface _ d => uptoBulk d + 1
  | .map entries => uptoBulkEntries entries + 1
  | .held _ => 1
def uptoBulkAll {H : Type} : List (DataW H) → Nat
  | [] => 0
  | d :: r => uptoBulk d + uptoBulkAll r
def uptoBulkEntries {H : Type} : List (Lit × DataW H) → Nat
  | [] => 0
  | x :: r => uptoBulkEntry x + uptoBulkEntries r
def uptoBulkEntry {H : Type} : Lit × DataW H → Nat
  | (.string bytes, d) => bytes.length + uptoBulk d + 1
  | (_, d) => uptoBulk d + 1
 end
def uptoSmall : (H : Type) → List (DataW H) → Bool := fun _ ds => decide (uptoBulkAll ds ≤ 1048576)
def OpenSpec.upto (s : _root_.Go.ChangeSpec) : _root_.Go.OpenSpec := { _root_.Go.OpenSpec.ofChange s with cond := some uptoSmall }

/-- 'laws.FnLaid', WHERE WHAT IT READS IS OF BULK AT MOST 1048576: true; the input reads as it did. -/
def fnLaidUptoRow : OpenClaim := { program := "yticminoejikdfaa", sum := "e918e681b2a73525783b28c0a073e471bb1a42733dd4e1c60b688f0b883b5d8a", func := "loop.example/g00059/laws.FnLaid", spec := "fnLaid", unfollowed := true, recurses := true, apart := false, narrowed := true }
def FnLaidUptoSaid : Prop := fnLaidUptoRow.holds Try.pinned (OpenSpec.upto fnLaidSpec)

/-- 'laws.FnAverage', WHERE WHAT IT READS IS OF BULK AT MOST 1048576: true; the input reads as it did. -/
def fnAverageUptoRow : OpenClaim := { program := "yticminoejikdfaa", sum := "e918e681b2a73525783b28c0a073e471bb1a42733dd4e1c60b688f0b883b5d8a", func := "loop.example/g00059/laws.FnAverage", spec := "fnAverage", unfollowed := true, recurses := true, apart := false, narrowed := true }
def FnAverageUptoSaid : Prop := fnAverageUptoRow.holds Try.pinned (OpenSpec.upto fnAverageSpec)

/-- 'laws.FnExactCharterOk', WHERE WHAT IT READS IS OF BULK AT MOST 1048576: true; the input reads as it did. -/
def fnExactCharterOkUptoRow : OpenClaim := { program := "yticminoejikdfaa", sum := "e918e681b2a73525783b28c0a073e471bb1a42733dd4e1c60b688f0b883b5d8a", func := "loop.example/g00059/laws.FnExactCharterOk", spec := "fnExactCharterOk", apart := false, narrowed := true }
def FnExactCharterOkUptoSaid : Prop := fnExactCharterOkUptoRow.holds Try.pinned (OpenSpec.upto fnExactCharterOkSpec)

/-- 'laws.FnExactStarts', WHERE WHAT IT READS IS OF BULK AT MOST 1048576: true; the input reads as it did. -/
def fnExactStartsUptoRow : OpenClaim := { program := "yticminoejikdfaa", sum := "e918e681b2a73525783b28c0a073e471bb1a42733dd4e1c60b688f0b883b5d8a", func := "loop.example/g00059/laws.FnExactStarts", spec := "fnExactStarts", apart := false, narrowed := true }
def FnExactStartsUptoSaid : Prop := fnExactStartsUptoRow.holds Try.pinned (OpenSpec.upto fnExactStartsSpec)

/-- 'laws.FnExactCounted', WHERE WHAT IT READS IS OF BULK AT MOST 1048576: true; the input reads as it did. -/
def fnExactCountedUptoRow : OpenClaim := { program := "yticminoejikdfaa", sum := "e918e681b2a73525783b28c0a073e471bb1a42733dd4e1c60b688f0b883b5d8a", func := "loop.example/g00059/laws.FnExactCounted", spec := "fnExactCounted", unfollowed := true, recurses := true, apart := false, narrowed := true }
def FnExactCountedUptoSaid : Prop := fnExactCountedUptoRow.holds Try.pinned (OpenSpec.upto fnExactCountedSpec)

/-- 'laws.FnExactOwed', WHERE WHAT IT READS IS OF BULK AT MOST 1048576: true; the input reads as it did. -/
def fnExactOwedUptoRow : OpenClaim := { program := "yticminoejikdfaa", sum := "e918e681b2a73525783b28c0a073e471bb1a42733dd4e1c60b688f0b883b5d8a", func := "loop.example/g00059/laws.FnExactOwed", spec := "fnExactOwed", apart := false, narrowed := true }
def FnExactOwedUptoSaid : Prop := fnExactOwedUptoRow.holds Try.pinned (OpenSpec.upto fnExactOwedSpec)

/-- 'laws.FnExactLaid', WHERE WHAT IT READS IS OF BULK AT MOST 1048576: true; the input reads as it did. -/
def fnExactLaidUptoRow : OpenClaim := { program := "yticminoejikdfaa", sum := "e918e681b2a73525783b28c0a073e471bb1a42733dd4e1c60b688f0b883b5d8a", func := "loop.example/g00059/laws.FnExactLaid", spec := "fnExactLaid", unfollowed := true, recurses := true, apart := false, narrowed := true }
def FnExactLaidUptoSaid : Prop := fnExactLaidUptoRow.holds Try.pinned (OpenSpec.upto fnExactLaidSpec)

/-- 'laws.FnExactAverage', WHERE WHAT IT READS IS OF BULK AT MOST 1048576: true; the input reads as it did. -/
def fnExactAverageUptoRow : OpenClaim := { program := "yticminoejikdfaa", sum := "e918e681b2a73525783b28c0a073e471bb1a42733dd4e1c60b688f0b883b5d8a", func := "loop.example/g00059/laws.FnExactAverage", spec := "fnExactAverage", unfollowed := true, recurses := true, apart := false, narrowed := true }
def FnExactAverageUptoSaid : Prop := fnExactAverageUptoRow.holds Try.pinned (OpenSpec.upto fnExactAverageSpec)

end Rows
end Go.Proofs.Yticminoejikdfaa

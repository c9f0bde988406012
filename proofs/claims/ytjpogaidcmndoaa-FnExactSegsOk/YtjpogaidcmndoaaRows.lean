/-
  No cell of these rows narrows 'for every input' (looked for: loops, veiled, ifaces, maps, wideKeys, modest, calm, conditions, laid).
  DERIVED. THE GIVEN ROWS OF THIS SEAT. 5 by the template 'for every input the law returns true; each argument reads behind the call as it read before'; 0 by the template 'total and deterministic' (their statements: YtjpogaidcmndoaaTotals.lean).
  GIVEN WITH THE SEED: the statements are not yours to turn. If you find one false, say at which input.
  Laid BY PROGRAM, IN A SANDBOX (cutbox-rows.mjs): the forced cells as the released guide's own fill.sh prints them over the translation 450dc629923d3c63… (all of the seat's roots in one cut). By AI agents, Wed Nov 11 2026. No macro, syntax, notation, axiom, sorry.
-/
import Derived.Test.YtjpogaidcmndoaaChecked
import GoSem.Claim
import GoSem.ClaimJoined
import GoSem.ClaimMapViews
import Derived.JoinedTies
import Derived.KernelRfl
namespace Go.Proofs.Ytjpogaidcmndoaa
/- THE CELL 'sum', in the pinned program and in every row, IS THE sha256 OF THE DUMP (.gsa) THAT YtjpogaidcmndoaaProg.lean LOADS. Nothing in Lean hashes anything: it is a label: what it is worth is what the hold of that sum in a sandbox is worth. -/
noncomputable def Try.pinned : Pinned := { name := "ytjpogaidcmndoaa", sum := "450dc629923d3c63a9971aeceea25f1f20be6e27d20bb3639ad959384af7f75d", checked := Try.checked }
namespace Rows
def none {H : Type} : Left H := { results := [], args := [] }

/-- 'laws.FnSegments': WHATEVER THE INPUT: true; the input reads as it did. -/
def fnSegmentsSpec : ChangeSpec := { name := "fnSegments", fn := fun _ => fun
  | [d] => { results := [.lit (.bool true)], args := [d] }
  | _ => none }
def fnSegmentsRow : OpenClaim := { program := "ytjpogaidcmndoaa", sum := "450dc629923d3c63a9971aeceea25f1f20be6e27d20bb3639ad959384af7f75d", func := "loop.example/g00059/laws.FnSegments", spec := "fnSegments", inPlace := ["internal/abi.NoEscape"], unfollowed := true, recurses := true, apart := false }
def FnSegmentsSaid : Prop := fnSegmentsRow.holds Try.pinned (OpenSpec.ofChange fnSegmentsSpec)

/-- ITS FALSE NEIGHBOUR: 'it returns false'. Refute it at one input. -/
def fnSegmentsWrong : ChangeSpec := { name := "fnSegments", fn := fun _ => fun
  | [d] => { results := [.lit (.bool false)], args := [d] }
  | _ => none }
def FnSegmentsWrongFalsely : Prop := fnSegmentsRow.holds Try.pinned (OpenSpec.ofChange fnSegmentsWrong)

/-- 'laws.FnExactSegsOk': WHATEVER THE INPUT: true; the input reads as it did. -/
def fnExactSegsOkSpec : ChangeSpec := { name := "fnExactSegsOk", fn := fun _ => fun
  | [d] => { results := [.lit (.bool true)], args := [d] }
  | _ => none }
def fnExactSegsOkRow : OpenClaim := { program := "ytjpogaidcmndoaa", sum := "450dc629923d3c63a9971aeceea25f1f20be6e27d20bb3639ad959384af7f75d", func := "loop.example/g00059/laws.FnExactSegsOk", spec := "fnExactSegsOk", inPlace := ["internal/abi.NoEscape"], unfollowed := true, recurses := true, apart := false }
def FnExactSegsOkSaid : Prop := fnExactSegsOkRow.holds Try.pinned (OpenSpec.ofChange fnExactSegsOkSpec)

/-- ITS FALSE NEIGHBOUR: 'it returns false'. Refute it at one input. -/
def fnExactSegsOkWrong : ChangeSpec := { name := "fnExactSegsOk", fn := fun _ => fun
  | [d] => { results := [.lit (.bool false)], args := [d] }
  | _ => none }
def FnExactSegsOkWrongFalsely : Prop := fnExactSegsOkRow.holds Try.pinned (OpenSpec.ofChange fnExactSegsOkWrong)

/-- 'laws.FnExactWriteSegs': WHATEVER THE INPUT: true; the input reads as it did. -/
def fnExactWriteSegsSpec : ChangeSpec := { name := "fnExactWriteSegs", fn := fun _ => fun
  | [d] => { results := [.lit (.bool true)], args := [d] }
  | _ => none }
def fnExactWriteSegsRow : OpenClaim := { program := "ytjpogaidcmndoaa", sum := "450dc629923d3c63a9971aeceea25f1f20be6e27d20bb3639ad959384af7f75d", func := "loop.example/g00059/laws.FnExactWriteSegs", spec := "fnExactWriteSegs", inPlace := ["internal/abi.NoEscape"], unfollowed := true, recurses := true, apart := false }
def FnExactWriteSegsSaid : Prop := fnExactWriteSegsRow.holds Try.pinned (OpenSpec.ofChange fnExactWriteSegsSpec)

/-- ITS FALSE NEIGHBOUR: 'it returns false'. Refute it at one input. -/
def fnExactWriteSegsWrong : ChangeSpec := { name := "fnExactWriteSegs", fn := fun _ => fun
  | [d] => { results := [.lit (.bool false)], args := [d] }
  | _ => none }
def FnExactWriteSegsWrongFalsely : Prop := fnExactWriteSegsRow.holds Try.pinned (OpenSpec.ofChange fnExactWriteSegsWrong)

/-- 'laws.FnExactReadSegs': WHATEVER THE INPUT: true; the input reads as it did. -/
def fnExactReadSegsSpec : ChangeSpec := { name := "fnExactReadSegs", fn := fun _ => fun
  | [d] => { results := [.lit (.bool true)], args := [d] }
  | _ => none }
def fnExactReadSegsRow : OpenClaim := { program := "ytjpogaidcmndoaa", sum := "450dc629923d3c63a9971aeceea25f1f20be6e27d20bb3639ad959384af7f75d", func := "loop.example/g00059/laws.FnExactReadSegs", spec := "fnExactReadSegs", apart := false }
def FnExactReadSegsSaid : Prop := fnExactReadSegsRow.holds Try.pinned (OpenSpec.ofChange fnExactReadSegsSpec)

/-- ITS FALSE NEIGHBOUR: 'it returns false'. Refute it at one input. -/
def fnExactReadSegsWrong : ChangeSpec := { name := "fnExactReadSegs", fn := fun _ => fun
  | [d] => { results := [.lit (.bool false)], args := [d] }
  | _ => none }
def FnExactReadSegsWrongFalsely : Prop := fnExactReadSegsRow.holds Try.pinned (OpenSpec.ofChange fnExactReadSegsWrong)

/-- 'laws.FnExactPartyOk': WHATEVER THE INPUT: true; the input reads as it did. -/
def fnExactPartyOkSpec : ChangeSpec := { name := "fnExactPartyOk", fn := fun _ => fun
  | [d] => { results := [.lit (.bool true)], args := [d] }
  | _ => none }
def fnExactPartyOkRow : OpenClaim := { program := "ytjpogaidcmndoaa", sum := "450dc629923d3c63a9971aeceea25f1f20be6e27d20bb3639ad959384af7f75d", func := "loop.example/g00059/laws.FnExactPartyOk", spec := "fnExactPartyOk", unfollowed := true, recurses := true, apart := false }
def FnExactPartyOkSaid : Prop := fnExactPartyOkRow.holds Try.pinned (OpenSpec.ofChange fnExactPartyOkSpec)

/-- ITS FALSE NEIGHBOUR: 'it returns false'. Refute it at one input. -/
def fnExactPartyOkWrong : ChangeSpec := { name := "fnExactPartyOk", fn := fun _ => fun
  | [d] => { results := [.lit (.bool false)], args := [d] }
  | _ => none }
def FnExactPartyOkWrongFalsely : Prop := fnExactPartyOkRow.holds Try.pinned (OpenSpec.ofChange fnExactPartyOkWrong)

/- THE SECOND FORM. 'bulk': how many values and letters a reading holds, each counted each time it is reached (what is shared counts as often as it is met; a slice's spare places count too). A statement '..UptoSaid' is the law's where the arguments, and the package variables that the reading takes, are together of bulk at most 1048576: NARROWER than '..Said'. Prove '..Said' where nothing that the law and all that it calls make is longer than what came in: it says more and counts as full. Else prove '..UptoSaid'. A law counts once. -/
mutual
def uptoBulk {H : Type} : DataW H → Nat
  | .lit (.string bytes) => bytes.length + 1
  | .lit _ => 1
  | .nil => 1
  | .ptr d => uptoBulk d + 1
  | .slice elems spare => uptoBulkAll elems + uptoBulkAll spare + 1
  | .agg parts => uptoBulkAll parts + 1
  | .iface _ d => uptoBulk d + 1
  | .map entries => uptoBulkEntries entries + 1
  | .held _ => 1
def uptoBulkAll {H : Type} : List (DataW H) → Nat
  | [] => 0
  | d :: r => uptoBulk d + uptoBulkAll r
def uptoBulkEntries {H : Type} : List (Lit × DataW H) → Nat
  | [] => 0
  | x :: r => uptoBulkEntry x + uptoBulkEntries r
def uptoBulkEntry {H : Type} : Lit × DataW H → Nat
  | (.string bytes, d) => bytes.length + uptoBulk d + 1
  | (_, d) => uptoBulk d + 1
 end
def uptoSmall : (H : Type) → List (DataW H) → Bool := fun _ ds => decide (uptoBulkAll ds ≤ 1048576)
def OpenSpec.upto (s : _root_.Go.ChangeSpec) : _root_.Go.OpenSpec := { _root_.Go.OpenSpec.ofChange s with cond := some uptoSmall }

/-- 'laws.FnSegments', WHERE WHAT IT READS IS OF BULK AT MOST 1048576: true; the input reads as it did. -/
def fnSegmentsUptoRow : OpenClaim := { program := "ytjpogaidcmndoaa", sum := "450dc629923d3c63a9971aeceea25f1f20be6e27d20bb3639ad959384af7f75d", func := "loop.example/g00059/laws.FnSegments", spec := "fnSegments", inPlace := ["internal/abi.NoEscape"], unfollowed := true, recurses := true, apart := false, narrowed := true }
def FnSegmentsUptoSaid : Prop := fnSegmentsUptoRow.holds Try.pinned (OpenSpec.upto fnSegmentsSpec)

/-- 'laws.FnExactSegsOk', WHERE WHAT IT READS IS OF BULK AT MOST 1048576: true; the input reads as it did. -/
def fnExactSegsOkUptoRow : OpenClaim := { program := "ytjpogaidcmndoaa", sum := "450dc629923d3c63a9971aeceea25f1f20be6e27d20bb3639ad959384af7f75d", func := "loop.example/g00059/laws.FnExactSegsOk", spec := "fnExactSegsOk", inPlace := ["internal/abi.NoEscape"], unfollowed := true, recurses := true, apart := false, narrowed := true }
def FnExactSegsOkUptoSaid : Prop := fnExactSegsOkUptoRow.holds Try.pinned (OpenSpec.upto fnExactSegsOkSpec)

/-- 'laws.FnExactWriteSegs', WHERE WHAT IT READS IS OF BULK AT MOST 1048576: true; the input reads as it did. -/
def fnExactWriteSegsUptoRow : OpenClaim := { program := "ytjpogaidcmndoaa", sum := "450dc629923d3c63a9971aeceea25f1f20be6e27d20bb3639ad959384af7f75d", func := "loop.example/g00059/laws.FnExactWriteSegs", spec := "fnExactWriteSegs", inPlace := ["internal/abi.NoEscape"], unfollowed := true, recurses := true, apart := false, narrowed := true }
def FnExactWriteSegsUptoSaid : Prop := fnExactWriteSegsUptoRow.holds Try.pinned (OpenSpec.upto fnExactWriteSegsSpec)

/-- 'laws.FnExactReadSegs', WHERE WHAT IT READS IS OF BULK AT MOST 1048576: true; the input reads as it did. -/
def fnExactReadSegsUptoRow : OpenClaim := { program := "ytjpogaidcmndoaa", sum := "450dc629923d3c63a9971aeceea25f1f20be6e27d20bb3639ad959384af7f75d", func := "loop.example/g00059/laws.FnExactReadSegs", spec := "fnExactReadSegs", apart := false, narrowed := true }
def FnExactReadSegsUptoSaid : Prop := fnExactReadSegsUptoRow.holds Try.pinned (OpenSpec.upto fnExactReadSegsSpec)

/-- 'laws.FnExactPartyOk', WHERE WHAT IT READS IS OF BULK AT MOST 1048576: true; the input reads as it did. -/
def fnExactPartyOkUptoRow : OpenClaim := { program := "ytjpogaidcmndoaa", sum := "450dc629923d3c63a9971aeceea25f1f20be6e27d20bb3639ad959384af7f75d", func := "loop.example/g00059/laws.FnExactPartyOk", spec := "fnExactPartyOk", unfollowed := true, recurses := true, apart := false, narrowed := true }
def FnExactPartyOkUptoSaid : Prop := fnExactPartyOkUptoRow.holds Try.pinned (OpenSpec.upto fnExactPartyOkSpec)

end Rows
end Go.Proofs.Ytjpogaidcmndoaa

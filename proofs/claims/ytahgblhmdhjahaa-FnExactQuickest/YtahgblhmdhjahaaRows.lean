/-
  No cell of these rows narrows 'for every input' (looked for: loops, veiled, ifaces, maps, wideKeys, modest, calm, conditions, laid).
  DERIVED. THE GIVEN ROWS OF THIS SEAT. 8 by the template 'for every input the law returns true; each argument reads behind the call as it read before'; 0 by the template 'total and deterministic' (their statements: YtahgblhmdhjahaaTotals.lean).
  GIVEN WITH THE SEED: the statements are not yours to turn. If you find one false, say at which input.
  Laid BY PROGRAM, IN A SANDBOX (cutbox-rows.mjs): the forced cells as the released guide's own fill.sh prints them over the translation 0fb7f59ec2db6ec5… (all of the seat's roots in one cut). By AI agents, Wed Nov 11 2026. No macro, syntax, notation, axiom, sorry.
-/
import Derived.Test.YtahgblhmdhjahaaChecked
import GoSem.Claim
import GoSem.ClaimJoined
import GoSem.ClaimMapViews
import Derived.JoinedTies
import Derived.KernelRfl
namespace Go.Proofs.Ytahgblhmdhjahaa
/- THE CELL 'sum', in the pinned program and in every row, IS THE sha256 OF THE DUMP (.gsa) THAT YtahgblhmdhjahaaProg.lean LOADS. Nothing in Lean hashes anything: it is a label: what it is worth is what the hold of that sum in a sandbox is worth. -/
noncomputable def Try.pinned : Pinned := { name := "ytahgblhmdhjahaa", sum := "0fb7f59ec2db6ec56c8e28eaed98da88d07bd51fb5723be4219c0ac9e3ab97c2", checked := Try.checked }
namespace Rows
def none {H : Type} : Left H := { results := [], args := [] }

/-- 'laws.FnCheapest': WHATEVER THE INPUT: true; the input reads as it did. -/
def fnCheapestSpec : ChangeSpec := { name := "fnCheapest", fn := fun _ => fun
  | [d] => { results := [.lit (.bool true)], args := [d] }
  | _ => none }
def fnCheapestRow : OpenClaim := { program := "ytahgblhmdhjahaa", sum := "0fb7f59ec2db6ec56c8e28eaed98da88d07bd51fb5723be4219c0ac9e3ab97c2", func := "loop.example/g00059/laws.FnCheapest", spec := "fnCheapest", unfollowed := true, recurses := true, apart := false }
def FnCheapestSaid : Prop := fnCheapestRow.holds Try.pinned (OpenSpec.ofChange fnCheapestSpec)

/-- ITS FALSE NEIGHBOUR: 'it returns false'. Refute it at one input. -/
def fnCheapestWrong : ChangeSpec := { name := "fnCheapest", fn := fun _ => fun
  | [d] => { results := [.lit (.bool false)], args := [d] }
  | _ => none }
def FnCheapestWrongFalsely : Prop := fnCheapestRow.holds Try.pinned (OpenSpec.ofChange fnCheapestWrong)

/-- 'laws.FnExactSeaOk': WHATEVER THE INPUT: true; the input reads as it did. -/
def fnExactSeaOkSpec : ChangeSpec := { name := "fnExactSeaOk", fn := fun _ => fun
  | [d] => { results := [.lit (.bool true)], args := [d] }
  | _ => none }
def fnExactSeaOkRow : OpenClaim := { program := "ytahgblhmdhjahaa", sum := "0fb7f59ec2db6ec56c8e28eaed98da88d07bd51fb5723be4219c0ac9e3ab97c2", func := "loop.example/g00059/laws.FnExactSeaOk", spec := "fnExactSeaOk", apart := false }
def FnExactSeaOkSaid : Prop := fnExactSeaOkRow.holds Try.pinned (OpenSpec.ofChange fnExactSeaOkSpec)

/-- ITS FALSE NEIGHBOUR: 'it returns false'. Refute it at one input. -/
def fnExactSeaOkWrong : ChangeSpec := { name := "fnExactSeaOk", fn := fun _ => fun
  | [d] => { results := [.lit (.bool false)], args := [d] }
  | _ => none }
def FnExactSeaOkWrongFalsely : Prop := fnExactSeaOkRow.holds Try.pinned (OpenSpec.ofChange fnExactSeaOkWrong)

/-- 'laws.FnExactWayCost': WHATEVER THE INPUT: true; the input reads as it did. -/
def fnExactWayCostSpec : ChangeSpec := { name := "fnExactWayCost", fn := fun _ => fun
  | [d1, d2] => { results := [.lit (.bool true)], args := [d1, d2] }
  | _ => none }
def fnExactWayCostRow : OpenClaim := { program := "ytahgblhmdhjahaa", sum := "0fb7f59ec2db6ec56c8e28eaed98da88d07bd51fb5723be4219c0ac9e3ab97c2", func := "loop.example/g00059/laws.FnExactWayCost", spec := "fnExactWayCost", apart := false }
def FnExactWayCostSaid : Prop := fnExactWayCostRow.holds Try.pinned (OpenSpec.ofChange fnExactWayCostSpec)

/-- ITS FALSE NEIGHBOUR: 'it returns false'. Refute it at one input. -/
def fnExactWayCostWrong : ChangeSpec := { name := "fnExactWayCost", fn := fun _ => fun
  | [d1, d2] => { results := [.lit (.bool false)], args := [d1, d2] }
  | _ => none }
def FnExactWayCostWrongFalsely : Prop := fnExactWayCostRow.holds Try.pinned (OpenSpec.ofChange fnExactWayCostWrong)

/-- 'laws.FnExactWayShut': WHATEVER THE INPUT: true; the input reads as it did. -/
def fnExactWayShutSpec : ChangeSpec := { name := "fnExactWayShut", fn := fun _ => fun
  | [d1, d2] => { results := [.lit (.bool true)], args := [d1, d2] }
  | _ => none }
def fnExactWayShutRow : OpenClaim := { program := "ytahgblhmdhjahaa", sum := "0fb7f59ec2db6ec56c8e28eaed98da88d07bd51fb5723be4219c0ac9e3ab97c2", func := "loop.example/g00059/laws.FnExactWayShut", spec := "fnExactWayShut", apart := false }
def FnExactWayShutSaid : Prop := fnExactWayShutRow.holds Try.pinned (OpenSpec.ofChange fnExactWayShutSpec)

/-- ITS FALSE NEIGHBOUR: 'it returns false'. Refute it at one input. -/
def fnExactWayShutWrong : ChangeSpec := { name := "fnExactWayShut", fn := fun _ => fun
  | [d1, d2] => { results := [.lit (.bool false)], args := [d1, d2] }
  | _ => none }
def FnExactWayShutWrongFalsely : Prop := fnExactWayShutRow.holds Try.pinned (OpenSpec.ofChange fnExactWayShutWrong)

/-- 'laws.FnExactCheapest': WHATEVER THE INPUT: true; the input reads as it did. -/
def fnExactCheapestSpec : ChangeSpec := { name := "fnExactCheapest", fn := fun _ => fun
  | [d1, d2] => { results := [.lit (.bool true)], args := [d1, d2] }
  | _ => none }
def fnExactCheapestRow : OpenClaim := { program := "ytahgblhmdhjahaa", sum := "0fb7f59ec2db6ec56c8e28eaed98da88d07bd51fb5723be4219c0ac9e3ab97c2", func := "loop.example/g00059/laws.FnExactCheapest", spec := "fnExactCheapest", unfollowed := true, recurses := true, apart := false }
def FnExactCheapestSaid : Prop := fnExactCheapestRow.holds Try.pinned (OpenSpec.ofChange fnExactCheapestSpec)

/-- ITS FALSE NEIGHBOUR: 'it returns false'. Refute it at one input. -/
def fnExactCheapestWrong : ChangeSpec := { name := "fnExactCheapest", fn := fun _ => fun
  | [d1, d2] => { results := [.lit (.bool false)], args := [d1, d2] }
  | _ => none }
def FnExactCheapestWrongFalsely : Prop := fnExactCheapestRow.holds Try.pinned (OpenSpec.ofChange fnExactCheapestWrong)

/-- 'laws.FnExactProves': WHATEVER THE INPUT: true; the input reads as it did. -/
def fnExactProvesSpec : ChangeSpec := { name := "fnExactProves", fn := fun _ => fun
  | [d1, d2, d3] => { results := [.lit (.bool true)], args := [d1, d2, d3] }
  | _ => none }
def fnExactProvesRow : OpenClaim := { program := "ytahgblhmdhjahaa", sum := "0fb7f59ec2db6ec56c8e28eaed98da88d07bd51fb5723be4219c0ac9e3ab97c2", func := "loop.example/g00059/laws.FnExactProves", spec := "fnExactProves", apart := false }
def FnExactProvesSaid : Prop := fnExactProvesRow.holds Try.pinned (OpenSpec.ofChange fnExactProvesSpec)

/-- ITS FALSE NEIGHBOUR: 'it returns false'. Refute it at one input. -/
def fnExactProvesWrong : ChangeSpec := { name := "fnExactProves", fn := fun _ => fun
  | [d1, d2, d3] => { results := [.lit (.bool false)], args := [d1, d2, d3] }
  | _ => none }
def FnExactProvesWrongFalsely : Prop := fnExactProvesRow.holds Try.pinned (OpenSpec.ofChange fnExactProvesWrong)

/-- 'laws.FnExactWayOf': WHATEVER THE INPUT: true; the input reads as it did. -/
def fnExactWayOfSpec : ChangeSpec := { name := "fnExactWayOf", fn := fun _ => fun
  | [d1, d2, d3] => { results := [.lit (.bool true)], args := [d1, d2, d3] }
  | _ => none }
def fnExactWayOfRow : OpenClaim := { program := "ytahgblhmdhjahaa", sum := "0fb7f59ec2db6ec56c8e28eaed98da88d07bd51fb5723be4219c0ac9e3ab97c2", func := "loop.example/g00059/laws.FnExactWayOf", spec := "fnExactWayOf", unfollowed := true, recurses := true, apart := false }
def FnExactWayOfSaid : Prop := fnExactWayOfRow.holds Try.pinned (OpenSpec.ofChange fnExactWayOfSpec)

/-- ITS FALSE NEIGHBOUR: 'it returns false'. Refute it at one input. -/
def fnExactWayOfWrong : ChangeSpec := { name := "fnExactWayOf", fn := fun _ => fun
  | [d1, d2, d3] => { results := [.lit (.bool false)], args := [d1, d2, d3] }
  | _ => none }
def FnExactWayOfWrongFalsely : Prop := fnExactWayOfRow.holds Try.pinned (OpenSpec.ofChange fnExactWayOfWrong)

/-- 'laws.FnExactQuickest': WHATEVER THE INPUT: true; the input reads as it did. -/
def fnExactQuickestSpec : ChangeSpec := { name := "fnExactQuickest", fn := fun _ => fun
  | [d1, d2, d3, d4] => { results := [.lit (.bool true)], args := [d1, d2, d3, d4] }
  | _ => none }
def fnExactQuickestRow : OpenClaim := { program := "ytahgblhmdhjahaa", sum := "0fb7f59ec2db6ec56c8e28eaed98da88d07bd51fb5723be4219c0ac9e3ab97c2", func := "loop.example/g00059/laws.FnExactQuickest", spec := "fnExactQuickest", apart := false }
def FnExactQuickestSaid : Prop := fnExactQuickestRow.holds Try.pinned (OpenSpec.ofChange fnExactQuickestSpec)

/-- ITS FALSE NEIGHBOUR: 'it returns false'. Refute it at one input. -/
def fnExactQuickestWrong : ChangeSpec := { name := "fnExactQuickest", fn := fun _ => fun
  | [d1, d2, d3, d4] => { results := [.lit (.bool false)], args := [d1, d2, d3, d4] }
  | _ => none }
def FnExactQuickestWrongFalsely : Prop := fnExactQuickestRow.holds Try.pinned (OpenSpec.ofChange fnExactQuickestWrong)

/- THE SECOND FORM. 'bulk': how many values and letters a reading holds, each counted each time it is reached (what is shared counts as often as it is met; a slice's spare places count too). A statement '..UptoSaid' is the law's where the arguments, and the package variables that the reading takes, are together of bulk at most 1048576: NARROWER than '..Said'. Prove '..Said' where nothing that the law and all that it calls make is longer than what came in: it says more and counts as full. Else prove '..UptoSaid'. A law counts once. -/
mutual
def uptoBulk {H : Type} : DataW H → Nat
  | .lit (.string bytes) => bytes.length + 1
  | .lit _ => 1
  | .nil => 1
  | .ptr d => uptoBulk d + 1
  | .slice elems spare => uptoBulkAll elems + uptoBulkAll spare + 1
  | .agg parts => uptoBulkAll parts + 1
  | .iface _ d => uptoBulk d + 1
  | .map entries => uptoBulkEntries entries + 1
  | .held _ => 1
def uptoBulkAll {H : Type} : List (DataW H) → Nat
  | [] => 0
  | d :: r => uptoBulk d + uptoBulkAll r
def uptoBulkEntries {H : Type} : List (Lit × DataW H) → Nat
  | [] => 0
  | x :: r => uptoBulkEntry x + uptoBulkEntries r
def uptoBulkEntry {H : Type} : Lit × DataW H → Nat
  | (.string bytes, d) => bytes.length + uptoBulk d + 1
  | (_, d) => uptoBulk d + 1
 end
def uptoSmall : (H : Type) → List (DataW H) → Bool := fun _ ds => decide (uptoBulkAll ds ≤ 1048576)
def OpenSpec.upto (s : _root_.Go.ChangeSpec) : _root_.Go.OpenSpec := { _root_.Go.OpenSpec.ofChange s with cond := some uptoSmall }

/-- 'laws.FnCheapest', WHERE WHAT IT READS IS OF BULK AT MOST 1048576: true; the input reads as it did. -/
def fnCheapestUptoRow : OpenClaim := { program := "ytahgblhmdhjahaa", sum := "0fb7f59ec2db6ec56c8e28eaed98da88d07bd51fb5723be4219c0ac9e3ab97c2", func := "loop.example/g00059/laws.FnCheapest", spec := "fnCheapest", unfollowed := true, recurses := true, apart := false, narrowed := true }
def FnCheapestUptoSaid : Prop := fnCheapestUptoRow.holds Try.pinned (OpenSpec.upto fnCheapestSpec)

/-- 'laws.FnExactSeaOk', WHERE WHAT IT READS IS OF BULK AT MOST 1048576: true; the input reads as it did. -/
def fnExactSeaOkUptoRow : OpenClaim := { program := "ytahgblhmdhjahaa", sum := "0fb7f59ec2db6ec56c8e28eaed98da88d07bd51fb5723be4219c0ac9e3ab97c2", func := "loop.example/g00059/laws.FnExactSeaOk", spec := "fnExactSeaOk", apart := false, narrowed := true }
def FnExactSeaOkUptoSaid : Prop := fnExactSeaOkUptoRow.holds Try.pinned (OpenSpec.upto fnExactSeaOkSpec)

/-- 'laws.FnExactWayCost', WHERE WHAT IT READS IS OF BULK AT MOST 1048576: true; the input reads as it did. -/
def fnExactWayCostUptoRow : OpenClaim := { program := "ytahgblhmdhjahaa", sum := "0fb7f59ec2db6ec56c8e28eaed98da88d07bd51fb5723be4219c0ac9e3ab97c2", func := "loop.example/g00059/laws.FnExactWayCost", spec := "fnExactWayCost", apart := false, narrowed := true }
def FnExactWayCostUptoSaid : Prop := fnExactWayCostUptoRow.holds Try.pinned (OpenSpec.upto fnExactWayCostSpec)

/-- 'laws.FnExactWayShut', WHERE WHAT IT READS IS OF BULK AT MOST 1048576: true; the input reads as it did. -/
def fnExactWayShutUptoRow : OpenClaim := { program := "ytahgblhmdhjahaa", sum := "0fb7f59ec2db6ec56c8e28eaed98da88d07bd51fb5723be4219c0ac9e3ab97c2", func := "loop.example/g00059/laws.FnExactWayShut", spec := "fnExactWayShut", apart := false, narrowed := true }
def FnExactWayShutUptoSaid : Prop := fnExactWayShutUptoRow.holds Try.pinned (OpenSpec.upto fnExactWayShutSpec)

/-- 'laws.FnExactCheapest', WHERE WHAT IT READS IS OF BULK AT MOST 1048576: true; the input reads as it did. -/
def fnExactCheapestUptoRow : OpenClaim := { program := "ytahgblhmdhjahaa", sum := "0fb7f59ec2db6ec56c8e28eaed98da88d07bd51fb5723be4219c0ac9e3ab97c2", func := "loop.example/g00059/laws.FnExactCheapest", spec := "fnExactCheapest", unfollowed := true, recurses := true, apart := false, narrowed := true }
def FnExactCheapestUptoSaid : Prop := fnExactCheapestUptoRow.holds Try.pinned (OpenSpec.upto fnExactCheapestSpec)

/-- 'laws.FnExactProves', WHERE WHAT IT READS IS OF BULK AT MOST 1048576: true; the input reads as it did. -/
def fnExactProvesUptoRow : OpenClaim := { program := "ytahgblhmdhjahaa", sum := "0fb7f59ec2db6ec56c8e28eaed98da88d07bd51fb5723be4219c0ac9e3ab97c2", func := "loop.example/g00059/laws.FnExactProves", spec := "fnExactProves", apart := false, narrowed := true }
def FnExactProvesUptoSaid : Prop := fnExactProvesUptoRow.holds Try.pinned (OpenSpec.upto fnExactProvesSpec)

/-- 'laws.FnExactWayOf', WHERE WHAT IT READS IS OF BULK AT MOST 1048576: true; the input reads as it did. -/
def fnExactWayOfUptoRow : OpenClaim := { program := "ytahgblhmdhjahaa", sum := "0fb7f59ec2db6ec56c8e28eaed98da88d07bd51fb5723be4219c0ac9e3ab97c2", func := "loop.example/g00059/laws.FnExactWayOf", spec := "fnExactWayOf", unfollowed := true, recurses := true, apart := false, narrowed := true }
def FnExactWayOfUptoSaid : Prop := fnExactWayOfUptoRow.holds Try.pinned (OpenSpec.upto fnExactWayOfSpec)

/-- 'laws.FnExactQuickest', WHERE WHAT IT READS IS OF BULK AT MOST 1048576: true; the input reads as it did. -/
def fnExactQuickestUptoRow : OpenClaim := { program := "ytahgblhmdhjahaa", sum := "0fb7f59ec2db6ec56c8e28eaed98da88d07bd51fb5723be4219c0ac9e3ab97c2", func := "loop.example/g00059/laws.FnExactQuickest", spec := "fnExactQuickest", apart := false, narrowed := true }
def FnExactQuickestUptoSaid : Prop := fnExactQuickestUptoRow.holds Try.pinned (OpenSpec.upto fnExactQuickestSpec)

end Rows
end Go.Proofs.Ytahgblhmdhjahaa

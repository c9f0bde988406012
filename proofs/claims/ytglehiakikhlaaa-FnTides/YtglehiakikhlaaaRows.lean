/-
  No cell of these rows narrows 'for every input' (looked for: loops, veiled, ifaces, maps, wideKeys, modest, calm, conditions, laid).
  DERIVED. THE GIVEN ROWS OF THIS SEAT. 8 by the template 'for every input the law returns true; each argument reads behind the call as it read before'; 0 by the template 'total and deterministic' (their statements: YtglehiakikhlaaaTotals.lean).
  GIVEN WITH THE SEED: the statements are not yours to turn. If you find one false, say at which input.
  Laid BY PROGRAM, IN A SANDBOX (cutbox-rows.mjs): the forced cells as the released guide's own fill.sh prints them over the translation 408465b92b56580e… (all of the seat's roots in one cut). By AI agents, Wed Nov 11 2026. No macro, syntax, notation, axiom, sorry.
-/
import Derived.Test.YtglehiakikhlaaaChecked
import GoSem.Claim
import GoSem.ClaimJoined
import GoSem.ClaimMapViews
import Derived.JoinedTies
import Derived.KernelRfl
namespace Go.Proofs.Ytglehiakikhlaaa
/- THE CELL 'sum', in the pinned program and in every row, IS THE sha256 OF THE DUMP (.gsa) THAT YtglehiakikhlaaaProg.lean LOADS. Nothing in Lean hashes anything: it is a label: what it is worth is what the hold of that sum in a sandbox is worth. -/
noncomputable def Try.pinned : Pinned := { name := "ytglehiakikhlaaa", sum := "408465b92b56580e9d57b862cadfed9663e2c687b91d7516a9c7c2aec1ce64b2", checked := Try.checked }
namespace Rows
def none {H : Type} : Left H := { results := [], args := [] }

/-- 'laws.FnWindows': WHATEVER THE INPUT: true; the input reads as it did. -/
def fnWindowsSpec : ChangeSpec := { name := "fnWindows", fn := fun _ => fun
  | [d] => { results := [.lit (.bool true)], args := [d] }
  | _ => none }
def fnWindowsRow : OpenClaim := { program := "ytglehiakikhlaaa", sum := "408465b92b56580e9d57b862cadfed9663e2c687b91d7516a9c7c2aec1ce64b2", func := "loop.example/g00059/laws.FnWindows", spec := "fnWindows", apart := false }
def FnWindowsSaid : Prop := fnWindowsRow.holds Try.pinned (OpenSpec.ofChange fnWindowsSpec)

/-- ITS FALSE NEIGHBOUR: 'it returns false'. Refute it at one input. -/
def fnWindowsWrong : ChangeSpec := { name := "fnWindows", fn := fun _ => fun
  | [d] => { results := [.lit (.bool false)], args := [d] }
  | _ => none }
def FnWindowsWrongFalsely : Prop := fnWindowsRow.holds Try.pinned (OpenSpec.ofChange fnWindowsWrong)

/-- 'laws.FnTides': WHATEVER THE INPUT: true; the input reads as it did. -/
def fnTidesSpec : ChangeSpec := { name := "fnTides", fn := fun _ => fun
  | [d] => { results := [.lit (.bool true)], args := [d] }
  | _ => none }
def fnTidesRow : OpenClaim := { program := "ytglehiakikhlaaa", sum := "408465b92b56580e9d57b862cadfed9663e2c687b91d7516a9c7c2aec1ce64b2", func := "loop.example/g00059/laws.FnTides", spec := "fnTides", inPlace := ["math.Float64bits"], apart := false }
def FnTidesSaid : Prop := fnTidesRow.holds Try.pinned (OpenSpec.ofChange fnTidesSpec)

/-- ITS FALSE NEIGHBOUR: 'it returns false'. Refute it at one input. -/
def fnTidesWrong : ChangeSpec := { name := "fnTides", fn := fun _ => fun
  | [d] => { results := [.lit (.bool false)], args := [d] }
  | _ => none }
def FnTidesWrongFalsely : Prop := fnTidesRow.holds Try.pinned (OpenSpec.ofChange fnTidesWrong)

/-- 'laws.FnExactTideDay': WHATEVER THE INPUT: true; the input reads as it did. -/
def fnExactTideDaySpec : ChangeSpec := { name := "fnExactTideDay", fn := fun _ => fun
  | [d1, d2, d3] => { results := [.lit (.bool true)], args := [d1, d2, d3] }
  | _ => none }
def fnExactTideDayRow : OpenClaim := { program := "ytglehiakikhlaaa", sum := "408465b92b56580e9d57b862cadfed9663e2c687b91d7516a9c7c2aec1ce64b2", func := "loop.example/g00059/laws.FnExactTideDay", spec := "fnExactTideDay", apart := false }
def FnExactTideDaySaid : Prop := fnExactTideDayRow.holds Try.pinned (OpenSpec.ofChange fnExactTideDaySpec)

/-- ITS FALSE NEIGHBOUR: 'it returns false'. Refute it at one input. -/
def fnExactTideDayWrong : ChangeSpec := { name := "fnExactTideDay", fn := fun _ => fun
  | [d1, d2, d3] => { results := [.lit (.bool false)], args := [d1, d2, d3] }
  | _ => none }
def FnExactTideDayWrongFalsely : Prop := fnExactTideDayRow.holds Try.pinned (OpenSpec.ofChange fnExactTideDayWrong)

/-- 'laws.FnExactDepths': WHATEVER THE INPUT: true; the input reads as it did. -/
def fnExactDepthsSpec : ChangeSpec := { name := "fnExactDepths", fn := fun _ => fun
  | [d1, d2] => { results := [.lit (.bool true)], args := [d1, d2] }
  | _ => none }
def fnExactDepthsRow : OpenClaim := { program := "ytglehiakikhlaaa", sum := "408465b92b56580e9d57b862cadfed9663e2c687b91d7516a9c7c2aec1ce64b2", func := "loop.example/g00059/laws.FnExactDepths", spec := "fnExactDepths", apart := false }
def FnExactDepthsSaid : Prop := fnExactDepthsRow.holds Try.pinned (OpenSpec.ofChange fnExactDepthsSpec)

/-- ITS FALSE NEIGHBOUR: 'it returns false'. Refute it at one input. -/
def fnExactDepthsWrong : ChangeSpec := { name := "fnExactDepths", fn := fun _ => fun
  | [d1, d2] => { results := [.lit (.bool false)], args := [d1, d2] }
  | _ => none }
def FnExactDepthsWrongFalsely : Prop := fnExactDepthsRow.holds Try.pinned (OpenSpec.ofChange fnExactDepthsWrong)

/-- 'laws.FnExactWindowsOf': WHATEVER THE INPUT: true; the input reads as it did. -/
def fnExactWindowsOfSpec : ChangeSpec := { name := "fnExactWindowsOf", fn := fun _ => fun
  | [d1, d2] => { results := [.lit (.bool true)], args := [d1, d2] }
  | _ => none }
def fnExactWindowsOfRow : OpenClaim := { program := "ytglehiakikhlaaa", sum := "408465b92b56580e9d57b862cadfed9663e2c687b91d7516a9c7c2aec1ce64b2", func := "loop.example/g00059/laws.FnExactWindowsOf", spec := "fnExactWindowsOf", apart := false }
def FnExactWindowsOfSaid : Prop := fnExactWindowsOfRow.holds Try.pinned (OpenSpec.ofChange fnExactWindowsOfSpec)

/-- ITS FALSE NEIGHBOUR: 'it returns false'. Refute it at one input. -/
def fnExactWindowsOfWrong : ChangeSpec := { name := "fnExactWindowsOf", fn := fun _ => fun
  | [d1, d2] => { results := [.lit (.bool false)], args := [d1, d2] }
  | _ => none }
def FnExactWindowsOfWrongFalsely : Prop := fnExactWindowsOfRow.holds Try.pinned (OpenSpec.ofChange fnExactWindowsOfWrong)

/-- 'laws.FnExactWindowFor': WHATEVER THE INPUT: true; the input reads as it did. -/
def fnExactWindowForSpec : ChangeSpec := { name := "fnExactWindowFor", fn := fun _ => fun
  | [d1, d2, d3] => { results := [.lit (.bool true)], args := [d1, d2, d3] }
  | _ => none }
def fnExactWindowForRow : OpenClaim := { program := "ytglehiakikhlaaa", sum := "408465b92b56580e9d57b862cadfed9663e2c687b91d7516a9c7c2aec1ce64b2", func := "loop.example/g00059/laws.FnExactWindowFor", spec := "fnExactWindowFor", apart := false }
def FnExactWindowForSaid : Prop := fnExactWindowForRow.holds Try.pinned (OpenSpec.ofChange fnExactWindowForSpec)

/-- ITS FALSE NEIGHBOUR: 'it returns false'. Refute it at one input. -/
def fnExactWindowForWrong : ChangeSpec := { name := "fnExactWindowFor", fn := fun _ => fun
  | [d1, d2, d3] => { results := [.lit (.bool false)], args := [d1, d2, d3] }
  | _ => none }
def FnExactWindowForWrongFalsely : Prop := fnExactWindowForRow.holds Try.pinned (OpenSpec.ofChange fnExactWindowForWrong)

/-- 'laws.FnExactSquat': WHATEVER THE INPUT: true; the input reads as it did. -/
def fnExactSquatSpec : ChangeSpec := { name := "fnExactSquat", fn := fun _ => fun
  | [d1, d2, d3, d4] => { results := [.lit (.bool true)], args := [d1, d2, d3, d4] }
  | _ => none }
def fnExactSquatRow : OpenClaim := { program := "ytglehiakikhlaaa", sum := "408465b92b56580e9d57b862cadfed9663e2c687b91d7516a9c7c2aec1ce64b2", func := "loop.example/g00059/laws.FnExactSquat", spec := "fnExactSquat", inPlace := ["math.Float64bits"], apart := false }
def FnExactSquatSaid : Prop := fnExactSquatRow.holds Try.pinned (OpenSpec.ofChange fnExactSquatSpec)

/-- ITS FALSE NEIGHBOUR: 'it returns false'. Refute it at one input. -/
def fnExactSquatWrong : ChangeSpec := { name := "fnExactSquat", fn := fun _ => fun
  | [d1, d2, d3, d4] => { results := [.lit (.bool false)], args := [d1, d2, d3, d4] }
  | _ => none }
def FnExactSquatWrongFalsely : Prop := fnExactSquatRow.holds Try.pinned (OpenSpec.ofChange fnExactSquatWrong)

/-- 'laws.FnExactUnderKeel': WHATEVER THE INPUT: true; the input reads as it did. -/
def fnExactUnderKeelSpec : ChangeSpec := { name := "fnExactUnderKeel", fn := fun _ => fun
  | [d1, d2, d3, d4] => { results := [.lit (.bool true)], args := [d1, d2, d3, d4] }
  | _ => none }
def fnExactUnderKeelRow : OpenClaim := { program := "ytglehiakikhlaaa", sum := "408465b92b56580e9d57b862cadfed9663e2c687b91d7516a9c7c2aec1ce64b2", func := "loop.example/g00059/laws.FnExactUnderKeel", spec := "fnExactUnderKeel", apart := false }
def FnExactUnderKeelSaid : Prop := fnExactUnderKeelRow.holds Try.pinned (OpenSpec.ofChange fnExactUnderKeelSpec)

/-- ITS FALSE NEIGHBOUR: 'it returns false'. Refute it at one input. -/
def fnExactUnderKeelWrong : ChangeSpec := { name := "fnExactUnderKeel", fn := fun _ => fun
  | [d1, d2, d3, d4] => { results := [.lit (.bool false)], args := [d1, d2, d3, d4] }
  | _ => none }
def FnExactUnderKeelWrongFalsely : Prop := fnExactUnderKeelRow.holds Try.pinned (OpenSpec.ofChange fnExactUnderKeelWrong)

/- THE SECOND FORM. 'bulk': how many values and letters a reading holds, each counted each time it is reached (what is shared counts as often as it is met; a slice's spare places count too). A statement '..UptoSaid' is the law's where the arguments, and the package variables that the reading takes, are together of bulk at most 1048576: NARROWER than '..Said'. Prove '..Said' where nothing that the law and all that it calls make is longer than what came in: it says more and counts as full. Else prove '..UptoSaid'. A law counts once. -/
mutual
def uptoBulk {H : Type} : DataW H → Nat
  | .lit (.string bytes) => bytes.length + 1
  | .lit _ => 1
  | .nil => 1
  | .ptr d => uptoBulk d + 1
  | .slice elems spare => uptoBulkAll elems + uptoBulkAll spare + 1
  | .agg parts => uptoBulkAll parts + 1
  | .iface _ d => uptoBulk d + 1
  | .map entries => uptoBulkEntries entries + 1
  | .held _ => 1
def uptoBulkAll {H : Type} : List (DataW H) → Nat
  | [] => 0
  | d :: r => uptoBulk d + uptoBulkAll r
def uptoBulkEntries {H : Type} : List (Lit × DataW H) → Nat
  | [] => 0
  | x :: r => uptoBulkEntry x + uptoBulkEntries r
def uptoBulkEntry {H : Type} : Lit × DataW H → Nat
  | (.string bytes, d) => bytes.length + uptoBulk d + 1
  | (_, d) => uptoBulk d + 1
 end
def uptoSmall : (H : Type) → List (DataW H) → Bool := fun _ ds => decide (uptoBulkAll ds ≤ 1048576)
def OpenSpec.upto (s : _root_.Go.ChangeSpec) : _root_.Go.OpenSpec := { _root_.Go.OpenSpec.ofChange s with cond := some uptoSmall }

/-- 'laws.FnWindows', WHERE WHAT IT READS IS OF BULK AT MOST 1048576: true; the input reads as it did. -/
def fnWindowsUptoRow : OpenClaim := { program := "ytglehiakikhlaaa", sum := "408465b92b56580e9d57b862cadfed9663e2c687b91d7516a9c7c2aec1ce64b2", func := "loop.example/g00059/laws.FnWindows", spec := "fnWindows", apart := false, narrowed := true }
def FnWindowsUptoSaid : Prop := fnWindowsUptoRow.holds Try.pinned (OpenSpec.upto fnWindowsSpec)

/-- 'laws.FnTides', WHERE WHAT IT READS IS OF BULK AT MOST 1048576: true; the input reads as it did. -/
def fnTidesUptoRow : OpenClaim := { program := "ytglehiakikhlaaa", sum := "408465b92b56580e9d57b862cadfed9663e2c687b91d7516a9c7c2aec1ce64b2", func := "loop.example/g00059/laws.FnTides", spec := "fnTides", inPlace := ["math.Float64bits"], apart := false, narrowed := true }
def FnTidesUptoSaid : Prop := fnTidesUptoRow.holds Try.pinned (OpenSpec.upto fnTidesSpec)

/-- 'laws.FnExactTideDay', WHERE WHAT IT READS IS OF BULK AT MOST 1048576: true; the input reads as it did. -/
def fnExactTideDayUptoRow : OpenClaim := { program := "ytglehiakikhlaaa", sum := "408465b92b56580e9d57b862cadfed9663e2c687b91d7516a9c7c2aec1ce64b2", func := "loop.example/g00059/laws.FnExactTideDay", spec := "fnExactTideDay", apart := false, narrowed := true }
def FnExactTideDayUptoSaid : Prop := fnExactTideDayUptoRow.holds Try.pinned (OpenSpec.upto fnExactTideDaySpec)

/-- 'laws.FnExactDepths', WHERE WHAT IT READS IS OF BULK AT MOST 1048576: true; the input reads as it did. -/
def fnExactDepthsUptoRow : OpenClaim := { program := "ytglehiakikhlaaa", sum := "408465b92b56580e9d57b862cadfed9663e2c687b91d7516a9c7c2aec1ce64b2", func := "loop.example/g00059/laws.FnExactDepths", spec := "fnExactDepths", apart := false, narrowed := true }
def FnExactDepthsUptoSaid : Prop := fnExactDepthsUptoRow.holds Try.pinned (OpenSpec.upto fnExactDepthsSpec)

/-- 'laws.FnExactWindowsOf', WHERE WHAT IT READS IS OF BULK AT MOST 1048576: true; the input reads as it did. -/
def fnExactWindowsOfUptoRow : OpenClaim := { program := "ytglehiakikhlaaa", sum := "408465b92b56580e9d57b862cadfed9663e2c687b91d7516a9c7c2aec1ce64b2", func := "loop.example/g00059/laws.FnExactWindowsOf", spec := "fnExactWindowsOf", apart := false, narrowed := true }
def FnExactWindowsOfUptoSaid : Prop := fnExactWindowsOfUptoRow.holds Try.pinned (OpenSpec.upto fnExactWindowsOfSpec)

/-- 'laws.FnExactWindowFor', WHERE WHAT IT READS IS OF BULK AT MOST 1048576: true; the input reads as it did. -/
def fnExactWindowForUptoRow : OpenClaim := { program := "ytglehiakikhlaaa", sum := "408465b92b56580e9d57b862cadfed9663e2c687b91d7516a9c7c2aec1ce64b2", func := "loop.example/g00059/laws.FnExactWindowFor", spec := "fnExactWindowFor", apart := false, narrowed := true }
def FnExactWindowForUptoSaid : Prop := fnExactWindowForUptoRow.holds Try.pinned (OpenSpec.upto fnExactWindowForSpec)

/-- 'laws.FnExactSquat', WHERE WHAT IT READS IS OF BULK AT MOST 1048576: true; the input reads as it did. -/
def fnExactSquatUptoRow : OpenClaim := { program := "ytglehiakikhlaaa", sum := "408465b92b56580e9d57b862cadfed9663e2c687b91d7516a9c7c2aec1ce64b2", func := "loop.example/g00059/laws.FnExactSquat", spec := "fnExactSquat", inPlace := ["math.Float64bits"], apart := false, narrowed := true }
def FnExactSquatUptoSaid : Prop := fnExactSquatUptoRow.holds Try.pinned (OpenSpec.upto fnExactSquatSpec)

/-- 'laws.FnExactUnderKeel', WHERE WHAT IT READS IS OF BULK AT MOST 1048576: true; the input reads as it did. -/
def fnExactUnderKeelUptoRow : OpenClaim := { program := "ytglehiakikhlaaa", sum := "408465b92b56580e9d57b862cadfed9663e2c687b91d7516a9c7c2aec1ce64b2", func := "loop.example/g00059/laws.FnExactUnderKeel", spec := "fnExactUnderKeel", apart := false, narrowed := true }
def FnExactUnderKeelUptoSaid : Prop := fnExactUnderKeelUptoRow.holds Try.pinned (OpenSpec.upto fnExactUnderKeelSpec)

end Rows
end Go.Proofs.Ytglehiakikhlaaa

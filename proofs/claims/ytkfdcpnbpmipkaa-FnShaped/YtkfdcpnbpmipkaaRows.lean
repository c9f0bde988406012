/-
  No cell of these rows narrows 'for every input' (looked for: loops, veiled, ifaces, maps, wideKeys, modest, calm, conditions, laid).
  DERIVED. THE GIVEN ROWS OF THIS SEAT. 4 by the template 'for every input the law returns true; each argument reads behind the call as it read before'; 0 by the template 'total and deterministic' (their statements: YtkfdcpnbpmipkaaTotals.lean).
  GIVEN WITH THE SEED: the statements are not yours to turn. If you find one false, say at which input.
  Laid BY PROGRAM, IN A SANDBOX (cutbox-rows.mjs): the forced cells as the released guide's own fill.sh prints them over the translation 5840745ff6daa77d… (all of the seat's roots in one cut). By AI agents, Wed Nov 11 2026. No macro, syntax, notation, axiom, sorry.
-/
import Derived.Test.YtkfdcpnbpmipkaaChecked
import GoSem.Claim
import GoSem.ClaimJoined
import GoSem.ClaimMapViews
import Derived.JoinedTies
import Derived.KernelRfl
namespace Go.Proofs.Ytkfdcpnbpmipkaa
/- THE CELL 'sum', in the pinned program and in every row, IS THE sha256 OF THE DUMP (.gsa) THAT YtkfdcpnbpmipkaaProg.lean LOADS. Nothing in Lean hashes anything: it is a label: what it is worth is what the hold of that sum in a sandbox is worth. -/
noncomputable def Try.pinned : Pinned := { name := "ytkfdcpnbpmipkaa", sum := "5840745ff6daa77d0e82562715d082c0fb46afa6b117f289cd30eed689bfbb47", checked := Try.checked }
namespace Rows
def none {H : Type} : Left H := { results := [], args := [] }

/-- 'laws.FnShaped': WHATEVER THE INPUT: true; the input reads as it did. -/
def fnShapedSpec : ChangeSpec := { name := "fnShaped", fn := fun _ => fun
  | [d] => { results := [.lit (.bool true)], args := [d] }
  | _ => none }
def fnShapedRow : OpenClaim := { program := "ytkfdcpnbpmipkaa", sum := "5840745ff6daa77d0e82562715d082c0fb46afa6b117f289cd30eed689bfbb47", func := "loop.example/g00059/laws.FnShaped", spec := "fnShaped", apart := false }
def FnShapedSaid : Prop := fnShapedRow.holds Try.pinned (OpenSpec.ofChange fnShapedSpec)

/-- ITS FALSE NEIGHBOUR: 'it returns false'. Refute it at one input. -/
def fnShapedWrong : ChangeSpec := { name := "fnShaped", fn := fun _ => fun
  | [d] => { results := [.lit (.bool false)], args := [d] }
  | _ => none }
def FnShapedWrongFalsely : Prop := fnShapedRow.holds Try.pinned (OpenSpec.ofChange fnShapedWrong)

/-- 'laws.FnExactSwayOk': WHATEVER THE INPUT: true; the input reads as it did. -/
def fnExactSwayOkSpec : ChangeSpec := { name := "fnExactSwayOk", fn := fun _ => fun
  | [d] => { results := [.lit (.bool true)], args := [d] }
  | _ => none }
def fnExactSwayOkRow : OpenClaim := { program := "ytkfdcpnbpmipkaa", sum := "5840745ff6daa77d0e82562715d082c0fb46afa6b117f289cd30eed689bfbb47", func := "loop.example/g00059/laws.FnExactSwayOk", spec := "fnExactSwayOk", apart := false }
def FnExactSwayOkSaid : Prop := fnExactSwayOkRow.holds Try.pinned (OpenSpec.ofChange fnExactSwayOkSpec)

/-- ITS FALSE NEIGHBOUR: 'it returns false'. Refute it at one input. -/
def fnExactSwayOkWrong : ChangeSpec := { name := "fnExactSwayOk", fn := fun _ => fun
  | [d] => { results := [.lit (.bool false)], args := [d] }
  | _ => none }
def FnExactSwayOkWrongFalsely : Prop := fnExactSwayOkRow.holds Try.pinned (OpenSpec.ofChange fnExactSwayOkWrong)

/-- 'laws.FnExactSwing1': WHATEVER THE INPUT: true; the input reads as it did. -/
def fnExactSwing1Spec : ChangeSpec := { name := "fnExactSwing1", fn := fun _ => fun
  | [d1, d2] => { results := [.lit (.bool true)], args := [d1, d2] }
  | _ => none }
def fnExactSwing1Row : OpenClaim := { program := "ytkfdcpnbpmipkaa", sum := "5840745ff6daa77d0e82562715d082c0fb46afa6b117f289cd30eed689bfbb47", func := "loop.example/g00059/laws.FnExactSwing1", spec := "fnExactSwing1", apart := false }
def FnExactSwing1Said : Prop := fnExactSwing1Row.holds Try.pinned (OpenSpec.ofChange fnExactSwing1Spec)

/-- ITS FALSE NEIGHBOUR: 'it returns false'. Refute it at one input. -/
def fnExactSwing1Wrong : ChangeSpec := { name := "fnExactSwing1", fn := fun _ => fun
  | [d1, d2] => { results := [.lit (.bool false)], args := [d1, d2] }
  | _ => none }
def FnExactSwing1WrongFalsely : Prop := fnExactSwing1Row.holds Try.pinned (OpenSpec.ofChange fnExactSwing1Wrong)

/-- 'laws.FnExactBeats': WHATEVER THE INPUT: true; the input reads as it did. -/
def fnExactBeatsSpec : ChangeSpec := { name := "fnExactBeats", fn := fun _ => fun
  | [d1, d2] => { results := [.lit (.bool true)], args := [d1, d2] }
  | _ => none }
def fnExactBeatsRow : OpenClaim := { program := "ytkfdcpnbpmipkaa", sum := "5840745ff6daa77d0e82562715d082c0fb46afa6b117f289cd30eed689bfbb47", func := "loop.example/g00059/laws.FnExactBeats", spec := "fnExactBeats", apart := false }
def FnExactBeatsSaid : Prop := fnExactBeatsRow.holds Try.pinned (OpenSpec.ofChange fnExactBeatsSpec)

/-- ITS FALSE NEIGHBOUR: 'it returns false'. Refute it at one input. -/
def fnExactBeatsWrong : ChangeSpec := { name := "fnExactBeats", fn := fun _ => fun
  | [d1, d2] => { results := [.lit (.bool false)], args := [d1, d2] }
  | _ => none }
def FnExactBeatsWrongFalsely : Prop := fnExactBeatsRow.holds Try.pinned (OpenSpec.ofChange fnExactBeatsWrong)

/- THE SECOND FORM. 'bulk': how many values and letters a reading holds, each counted each time it is reached (what is shared counts as often as it is met; a slice's spare places count too). A statement '..UptoSaid' is the law's where the arguments, and the package variables that the reading takes, are together of bulk at most 1048576: NARROWER than '..Said'. Prove '..Said' where nothing that the law and all that it calls make is longer than what came in: it says more and counts as full. Else prove '..UptoSaid'. A law counts once. -/
mutual
def uptoBulk {H : Type} : DataW H → Nat
  | .lit (.string bytes) => bytes.length + 1
  | .lit _ => 1
  | .nil => 1
  | .ptr d => uptoBulk d + 1
  | .slice elems spare => uptoBulkAll elems + uptoBulkAll spare + 1
  | .agg parts => uptoBulkAll parts + 1
  | .iface _ d => uptoBulk d + 1
  | .map entries => uptoBulkEntries entries + 1
  | .held _ => 1
def uptoBulkAll {H : Type} : List (DataW H) → Nat
  | [] => 0
  | d :: r => uptoBulk d + uptoBulkAll r
def uptoBulkEntries {H : Type} : List (Lit × DataW H) → Nat
  | [] => 0
  | x :: r => uptoBulkEntry x + uptoBulkEntries r
def uptoBulkEntry {H : Type} : Lit × DataW H → Nat
  | (.string bytes, d) => bytes.length + uptoBulk d + 1
  | (_, d) => uptoBulk d + 1
 end
def uptoSmall : (H : Type) → List (DataW H) → Bool := fun _ ds => decide (uptoBulkAll ds ≤ 1048576)
def OpenSpec.upto (s : _root_.Go.ChangeSpec) : _root_.Go.OpenSpec := { _root_.Go.OpenSpec.ofChange s with cond := some uptoSmall }

/-- 'laws.FnShaped', WHERE WHAT IT READS IS OF BULK AT MOST 1048576: true; the input reads as it did. -/
def fnShapedUptoRow : OpenClaim := { program := "ytkfdcpnbpmipkaa", sum := "5840745ff6daa77d0e82562715d082c0fb46afa6b117f289cd30eed689bfbb47", func := "loop.example/g00059/laws.FnShaped", spec := "fnShaped", apart := false, narrowed := true }
def FnShapedUptoSaid : Prop := fnShapedUptoRow.holds Try.pinned (OpenSpec.upto fnShapedSpec)

/-- 'laws.FnExactSwayOk', WHERE WHAT IT READS IS OF BULK AT MOST 1048576: true; the input reads as it did. -/
def fnExactSwayOkUptoRow : OpenClaim := { program := "ytkfdcpnbpmipkaa", sum := "5840745ff6daa77d0e82562715d082c0fb46afa6b117f289cd30eed689bfbb47", func := "loop.example/g00059/laws.FnExactSwayOk", spec := "fnExactSwayOk", apart := false, narrowed := true }
def FnExactSwayOkUptoSaid : Prop := fnExactSwayOkUptoRow.holds Try.pinned (OpenSpec.upto fnExactSwayOkSpec)

/-- 'laws.FnExactSwing1', WHERE WHAT IT READS IS OF BULK AT MOST 1048576: true; the input reads as it did. -/
def fnExactSwing1UptoRow : OpenClaim := { program := "ytkfdcpnbpmipkaa", sum := "5840745ff6daa77d0e82562715d082c0fb46afa6b117f289cd30eed689bfbb47", func := "loop.example/g00059/laws.FnExactSwing1", spec := "fnExactSwing1", apart := false, narrowed := true }
def FnExactSwing1UptoSaid : Prop := fnExactSwing1UptoRow.holds Try.pinned (OpenSpec.upto fnExactSwing1Spec)

/-- 'laws.FnExactBeats', WHERE WHAT IT READS IS OF BULK AT MOST 1048576: true; the input reads as it did. -/
def fnExactBeatsUptoRow : OpenClaim := { program := "ytkfdcpnbpmipkaa", sum := "5840745ff6daa77d0e82562715d082c0fb46afa6b117f289cd30eed689bfbb47", func := "loop.example/g00059/laws.FnExactBeats", spec := "fnExactBeats", apart := false, narrowed := true }
def FnExactBeatsUptoSaid : Prop := fnExactBeatsUptoRow.holds Try.pinned (OpenSpec.upto fnExactBeatsSpec)

end Rows
end Go.Proofs.Ytkfdcpnbpmipkaa

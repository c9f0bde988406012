/-
  No cell of these rows narrows 'for every input' (looked for: loops, veiled, ifaces, maps, wideKeys, modest, calm, conditions, laid).
  DERIVED. THE GIVEN ROWS OF THIS SEAT. 10 by the template 'for every input the law returns true; each argument reads behind the call as it read before'; 0 by the template 'total and deterministic' (their statements: YtliodmahbdmcbaaTotals.lean).
  GIVEN WITH THE SEED: the statements are not yours to turn. If you find one false, say at which input.
  Laid BY PROGRAM, IN A SANDBOX (cutbox-rows.mjs): the forced cells as the released guide's own fill.sh prints them over the translation c77b428e2a4bcc7f… (all of the seat's roots in one cut). By AI agents, Wed Nov 11 2026. No macro, syntax, notation, axiom, sorry.
-/
import Derived.Test.YtliodmahbdmcbaaChecked
import GoSem.Claim
import GoSem.ClaimJoined
import GoSem.ClaimMapViews
import Derived.JoinedTies
import Derived.KernelRfl
namespace Go.Proofs.Ytliodmahbdmcbaa
/- THE CELL 'sum', in the pinned program and in every row, IS THE sha256 OF THE DUMP (.gsa) THAT YtliodmahbdmcbaaProg.lean LOADS. Nothing in Lean hashes anything: it is a label: what it is worth is what the hold of that sum in a sandbox is worth. -/
noncomputable def Try.pinned : Pinned := { name := "ytliodmahbdmcbaa", sum := "c77b428e2a4bcc7f9ea9c83c438ff13392b4cd9e35cb9ed87953240f0b29b868", checked := Try.checked }
namespace Rows
def none {H : Type} : Left H := { results := [], args := [] }

/-- 'laws.FnBalanced': WHATEVER THE INPUT: true; the input reads as it did. -/
def fnBalancedSpec : ChangeSpec := { name := "fnBalanced", fn := fun _ => fun
  | [d] => { results := [.lit (.bool true)], args := [d] }
  | _ => none }
def fnBalancedRow : OpenClaim := { program := "ytliodmahbdmcbaa", sum := "c77b428e2a4bcc7f9ea9c83c438ff13392b4cd9e35cb9ed87953240f0b29b868", func := "loop.example/g00059/laws.FnBalanced", spec := "fnBalanced", apart := false }
def FnBalancedSaid : Prop := fnBalancedRow.holds Try.pinned (OpenSpec.ofChange fnBalancedSpec)

/-- ITS FALSE NEIGHBOUR: 'it returns false'. Refute it at one input. -/
def fnBalancedWrong : ChangeSpec := { name := "fnBalanced", fn := fun _ => fun
  | [d] => { results := [.lit (.bool false)], args := [d] }
  | _ => none }
def FnBalancedWrongFalsely : Prop := fnBalancedRow.holds Try.pinned (OpenSpec.ofChange fnBalancedWrong)

/-- 'laws.FnSwings': WHATEVER THE INPUT: true; the input reads as it did. -/
def fnSwingsSpec : ChangeSpec := { name := "fnSwings", fn := fun _ => fun
  | [d] => { results := [.lit (.bool true)], args := [d] }
  | _ => none }
def fnSwingsRow : OpenClaim := { program := "ytliodmahbdmcbaa", sum := "c77b428e2a4bcc7f9ea9c83c438ff13392b4cd9e35cb9ed87953240f0b29b868", func := "loop.example/g00059/laws.FnSwings", spec := "fnSwings", unfollowed := true, recurses := true, apart := false }
def FnSwingsSaid : Prop := fnSwingsRow.holds Try.pinned (OpenSpec.ofChange fnSwingsSpec)

/-- ITS FALSE NEIGHBOUR: 'it returns false'. Refute it at one input. -/
def fnSwingsWrong : ChangeSpec := { name := "fnSwings", fn := fun _ => fun
  | [d] => { results := [.lit (.bool false)], args := [d] }
  | _ => none }
def FnSwingsWrongFalsely : Prop := fnSwingsRow.holds Try.pinned (OpenSpec.ofChange fnSwingsWrong)

/-- 'laws.FnSection': WHATEVER THE INPUT: true; the input reads as it did. -/
def fnSectionSpec : ChangeSpec := { name := "fnSection", fn := fun _ => fun
  | [d] => { results := [.lit (.bool true)], args := [d] }
  | _ => none }
def fnSectionRow : OpenClaim := { program := "ytliodmahbdmcbaa", sum := "c77b428e2a4bcc7f9ea9c83c438ff13392b4cd9e35cb9ed87953240f0b29b868", func := "loop.example/g00059/laws.FnSection", spec := "fnSection", apart := false }
def FnSectionSaid : Prop := fnSectionRow.holds Try.pinned (OpenSpec.ofChange fnSectionSpec)

/-- ITS FALSE NEIGHBOUR: 'it returns false'. Refute it at one input. -/
def fnSectionWrong : ChangeSpec := { name := "fnSection", fn := fun _ => fun
  | [d] => { results := [.lit (.bool false)], args := [d] }
  | _ => none }
def FnSectionWrongFalsely : Prop := fnSectionRow.holds Try.pinned (OpenSpec.ofChange fnSectionWrong)

/-- 'laws.FnExactShear2': WHATEVER THE INPUT: true; the input reads as it did. -/
def fnExactShear2Spec : ChangeSpec := { name := "fnExactShear2", fn := fun _ => fun
  | [d1, d2] => { results := [.lit (.bool true)], args := [d1, d2] }
  | _ => none }
def fnExactShear2Row : OpenClaim := { program := "ytliodmahbdmcbaa", sum := "c77b428e2a4bcc7f9ea9c83c438ff13392b4cd9e35cb9ed87953240f0b29b868", func := "loop.example/g00059/laws.FnExactShear2", spec := "fnExactShear2", apart := false }
def FnExactShear2Said : Prop := fnExactShear2Row.holds Try.pinned (OpenSpec.ofChange fnExactShear2Spec)

/-- ITS FALSE NEIGHBOUR: 'it returns false'. Refute it at one input. -/
def fnExactShear2Wrong : ChangeSpec := { name := "fnExactShear2", fn := fun _ => fun
  | [d1, d2] => { results := [.lit (.bool false)], args := [d1, d2] }
  | _ => none }
def FnExactShear2WrongFalsely : Prop := fnExactShear2Row.holds Try.pinned (OpenSpec.ofChange fnExactShear2Wrong)

/-- 'laws.FnExactBending4': WHATEVER THE INPUT: true; the input reads as it did. -/
def fnExactBending4Spec : ChangeSpec := { name := "fnExactBending4", fn := fun _ => fun
  | [d1, d2, d3] => { results := [.lit (.bool true)], args := [d1, d2, d3] }
  | _ => none }
def fnExactBending4Row : OpenClaim := { program := "ytliodmahbdmcbaa", sum := "c77b428e2a4bcc7f9ea9c83c438ff13392b4cd9e35cb9ed87953240f0b29b868", func := "loop.example/g00059/laws.FnExactBending4", spec := "fnExactBending4", apart := false }
def FnExactBending4Said : Prop := fnExactBending4Row.holds Try.pinned (OpenSpec.ofChange fnExactBending4Spec)

/-- ITS FALSE NEIGHBOUR: 'it returns false'. Refute it at one input. -/
def fnExactBending4Wrong : ChangeSpec := { name := "fnExactBending4", fn := fun _ => fun
  | [d1, d2, d3] => { results := [.lit (.bool false)], args := [d1, d2, d3] }
  | _ => none }
def FnExactBending4WrongFalsely : Prop := fnExactBending4Row.holds Try.pinned (OpenSpec.ofChange fnExactBending4Wrong)

/-- 'laws.FnExactBalanced': WHATEVER THE INPUT: true; the input reads as it did. -/
def fnExactBalancedSpec : ChangeSpec := { name := "fnExactBalanced", fn := fun _ => fun
  | [d1, d2, d3] => { results := [.lit (.bool true)], args := [d1, d2, d3] }
  | _ => none }
def fnExactBalancedRow : OpenClaim := { program := "ytliodmahbdmcbaa", sum := "c77b428e2a4bcc7f9ea9c83c438ff13392b4cd9e35cb9ed87953240f0b29b868", func := "loop.example/g00059/laws.FnExactBalanced", spec := "fnExactBalanced", apart := false }
def FnExactBalancedSaid : Prop := fnExactBalancedRow.holds Try.pinned (OpenSpec.ofChange fnExactBalancedSpec)

/-- ITS FALSE NEIGHBOUR: 'it returns false'. Refute it at one input. -/
def fnExactBalancedWrong : ChangeSpec := { name := "fnExactBalanced", fn := fun _ => fun
  | [d1, d2, d3] => { results := [.lit (.bool false)], args := [d1, d2, d3] }
  | _ => none }
def FnExactBalancedWrongFalsely : Prop := fnExactBalancedRow.holds Try.pinned (OpenSpec.ofChange fnExactBalancedWrong)

/-- 'laws.FnExactGreatest': WHATEVER THE INPUT: true; the input reads as it did. -/
def fnExactGreatestSpec : ChangeSpec := { name := "fnExactGreatest", fn := fun _ => fun
  | [d] => { results := [.lit (.bool true)], args := [d] }
  | _ => none }
def fnExactGreatestRow : OpenClaim := { program := "ytliodmahbdmcbaa", sum := "c77b428e2a4bcc7f9ea9c83c438ff13392b4cd9e35cb9ed87953240f0b29b868", func := "loop.example/g00059/laws.FnExactGreatest", spec := "fnExactGreatest", apart := false }
def FnExactGreatestSaid : Prop := fnExactGreatestRow.holds Try.pinned (OpenSpec.ofChange fnExactGreatestSpec)

/-- ITS FALSE NEIGHBOUR: 'it returns false'. Refute it at one input. -/
def fnExactGreatestWrong : ChangeSpec := { name := "fnExactGreatest", fn := fun _ => fun
  | [d] => { results := [.lit (.bool false)], args := [d] }
  | _ => none }
def FnExactGreatestWrongFalsely : Prop := fnExactGreatestRow.holds Try.pinned (OpenSpec.ofChange fnExactGreatestWrong)

/-- 'laws.FnExactSection': WHATEVER THE INPUT: true; the input reads as it did. -/
def fnExactSectionSpec : ChangeSpec := { name := "fnExactSection", fn := fun _ => fun
  | [d] => { results := [.lit (.bool true)], args := [d] }
  | _ => none }
def fnExactSectionRow : OpenClaim := { program := "ytliodmahbdmcbaa", sum := "c77b428e2a4bcc7f9ea9c83c438ff13392b4cd9e35cb9ed87953240f0b29b868", func := "loop.example/g00059/laws.FnExactSection", spec := "fnExactSection", apart := false }
def FnExactSectionSaid : Prop := fnExactSectionRow.holds Try.pinned (OpenSpec.ofChange fnExactSectionSpec)

/-- ITS FALSE NEIGHBOUR: 'it returns false'. Refute it at one input. -/
def fnExactSectionWrong : ChangeSpec := { name := "fnExactSection", fn := fun _ => fun
  | [d] => { results := [.lit (.bool false)], args := [d] }
  | _ => none }
def FnExactSectionWrongFalsely : Prop := fnExactSectionRow.holds Try.pinned (OpenSpec.ofChange fnExactSectionWrong)

/-- 'laws.FnExactTurns': WHATEVER THE INPUT: true; the input reads as it did. -/
def fnExactTurnsSpec : ChangeSpec := { name := "fnExactTurns", fn := fun _ => fun
  | [d] => { results := [.lit (.bool true)], args := [d] }
  | _ => none }
def fnExactTurnsRow : OpenClaim := { program := "ytliodmahbdmcbaa", sum := "c77b428e2a4bcc7f9ea9c83c438ff13392b4cd9e35cb9ed87953240f0b29b868", func := "loop.example/g00059/laws.FnExactTurns", spec := "fnExactTurns", unfollowed := true, recurses := true, apart := false }
def FnExactTurnsSaid : Prop := fnExactTurnsRow.holds Try.pinned (OpenSpec.ofChange fnExactTurnsSpec)

/-- ITS FALSE NEIGHBOUR: 'it returns false'. Refute it at one input. -/
def fnExactTurnsWrong : ChangeSpec := { name := "fnExactTurns", fn := fun _ => fun
  | [d] => { results := [.lit (.bool false)], args := [d] }
  | _ => none }
def FnExactTurnsWrongFalsely : Prop := fnExactTurnsRow.holds Try.pinned (OpenSpec.ofChange fnExactTurnsWrong)

/-- 'laws.FnExactSwings': WHATEVER THE INPUT: true; the input reads as it did. -/
def fnExactSwingsSpec : ChangeSpec := { name := "fnExactSwings", fn := fun _ => fun
  | [d] => { results := [.lit (.bool true)], args := [d] }
  | _ => none }
def fnExactSwingsRow : OpenClaim := { program := "ytliodmahbdmcbaa", sum := "c77b428e2a4bcc7f9ea9c83c438ff13392b4cd9e35cb9ed87953240f0b29b868", func := "loop.example/g00059/laws.FnExactSwings", spec := "fnExactSwings", unfollowed := true, recurses := true, apart := false }
def FnExactSwingsSaid : Prop := fnExactSwingsRow.holds Try.pinned (OpenSpec.ofChange fnExactSwingsSpec)

/-- ITS FALSE NEIGHBOUR: 'it returns false'. Refute it at one input. -/
def fnExactSwingsWrong : ChangeSpec := { name := "fnExactSwings", fn := fun _ => fun
  | [d] => { results := [.lit (.bool false)], args := [d] }
  | _ => none }
def FnExactSwingsWrongFalsely : Prop := fnExactSwingsRow.holds Try.pinned (OpenSpec.ofChange fnExactSwingsWrong)

/- THE SECOND FORM. 'bulk': how many values and letters a reading holds, each counted each time it is reached (what is shared counts as often as it is met; a slice's spare places count too). A statement '..UptoSaid' is the law's where the arguments, and the package variables that the reading takes, are together of bulk at most 1048576: NARROWER than '..Said'. Prove '..Said' where nothing that the law and all that it calls make is longer than what came in: it says more and counts as full. Else prove '..UptoSaid'. A law counts once. -/
mutual
def uptoBulk {H : Type} : DataW H → Nat
  | .lit (.string bytes) => bytes.length + 1
  | .lit _ => 1
  | .nil => 1
  | .ptr d => uptoBulk d + 1
  | .slice elems spare => uptoBulkAll elems + uptoBulkAll spare + 1
  | .agg parts => uptoBulkAll parts + 1
  | .iface _ d => uptoBulk d + 1
  | .map entries => uptoBulkEntries entries + 1
  | .held _ => 1
def uptoBulkAll {H : Type} : List (DataW H) → Nat
  | [] => 0
  | d :: r => uptoBulk d + uptoBulkAll r
def uptoBulkEntries {H : Type} : List (Lit × DataW H) → Nat
  | [] => 0
  | x :: r => uptoBulkEntry x + uptoBulkEntries r
def uptoBulkEntry {H : Type} : Lit × DataW H → Nat
  | (.string bytes, d) => bytes.length + uptoBulk d + 1
  | (_, d) => uptoBulk d + 1
 end
def uptoSmall : (H : Type) → List (DataW H) → Bool := fun _ ds => decide (uptoBulkAll ds ≤ 1048576)
def OpenSpec.upto (s : _root_.Go.ChangeSpec) : _root_.Go.OpenSpec := { _root_.Go.OpenSpec.ofChange s with cond := some uptoSmall }

/-- 'laws.FnBalanced', WHERE WHAT IT READS IS OF BULK AT MOST 1048576: true; the input reads as it did. -/
def fnBalancedUptoRow : OpenClaim := { program := "ytliodmahbdmcbaa", sum := "c77b428e2a4bcc7f9ea9c83c438ff13392b4cd9e35cb9ed87953240f0b29b868", func := "loop.example/g00059/laws.FnBalanced", spec := "fnBalanced", apart := false, narrowed := true }
def FnBalancedUptoSaid : Prop := fnBalancedUptoRow.holds Try.pinned (OpenSpec.upto fnBalancedSpec)

/-- 'laws.FnSwings', WHERE WHAT IT READS IS OF BULK AT MOST 1048576: true; the input reads as it did. -/
def fnSwingsUptoRow : OpenClaim := { program := "ytliodmahbdmcbaa", sum := "c77b428e2a4bcc7f9ea9c83c438ff13392b4cd9e35cb9ed87953240f0b29b868", func := "loop.example/g00059/laws.FnSwings", spec := "fnSwings", unfollowed := true, recurses := true, apart := false, narrowed := true }
def FnSwingsUptoSaid : Prop := fnSwingsUptoRow.holds Try.pinned (OpenSpec.upto fnSwingsSpec)

/-- 'laws.FnSection', WHERE WHAT IT READS IS OF BULK AT MOST 1048576: true; the input reads as it did. -/
def fnSectionUptoRow : OpenClaim := { program := "ytliodmahbdmcbaa", sum := "c77b428e2a4bcc7f9ea9c83c438ff13392b4cd9e35cb9ed87953240f0b29b868", func := "loop.example/g00059/laws.FnSection", spec := "fnSection", apart := false, narrowed := true }
def FnSectionUptoSaid : Prop := fnSectionUptoRow.holds Try.pinned (OpenSpec.upto fnSectionSpec)

/-- 'laws.FnExactShear2', WHERE WHAT IT READS IS OF BULK AT MOST 1048576: true; the input reads as it did. -/
def fnExactShear2UptoRow : OpenClaim := { program := "ytliodmahbdmcbaa", sum := "c77b428e2a4bcc7f9ea9c83c438ff13392b4cd9e35cb9ed87953240f0b29b868", func := "loop.example/g00059/laws.FnExactShear2", spec := "fnExactShear2", apart := false, narrowed := true }
def FnExactShear2UptoSaid : Prop := fnExactShear2UptoRow.holds Try.pinned (OpenSpec.upto fnExactShear2Spec)

/-- 'laws.FnExactBending4', WHERE WHAT IT READS IS OF BULK AT MOST 1048576: true; the input reads as it did. -/
def fnExactBending4UptoRow : OpenClaim := { program := "ytliodmahbdmcbaa", sum := "c77b428e2a4bcc7f9ea9c83c438ff13392b4cd9e35cb9ed87953240f0b29b868", func := "loop.example/g00059/laws.FnExactBending4", spec := "fnExactBending4", apart := false, narrowed := true }
def FnExactBending4UptoSaid : Prop := fnExactBending4UptoRow.holds Try.pinned (OpenSpec.upto fnExactBending4Spec)

/-- 'laws.FnExactBalanced', WHERE WHAT IT READS IS OF BULK AT MOST 1048576: true; the input reads as it did. -/
def fnExactBalancedUptoRow : OpenClaim := { program := "ytliodmahbdmcbaa", sum := "c77b428e2a4bcc7f9ea9c83c438ff13392b4cd9e35cb9ed87953240f0b29b868", func := "loop.example/g00059/laws.FnExactBalanced", spec := "fnExactBalanced", apart := false, narrowed := true }
def FnExactBalancedUptoSaid : Prop := fnExactBalancedUptoRow.holds Try.pinned (OpenSpec.upto fnExactBalancedSpec)

/-- 'laws.FnExactGreatest', WHERE WHAT IT READS IS OF BULK AT MOST 1048576: true; the input reads as it did. -/
def fnExactGreatestUptoRow : OpenClaim := { program := "ytliodmahbdmcbaa", sum := "c77b428e2a4bcc7f9ea9c83c438ff13392b4cd9e35cb9ed87953240f0b29b868", func := "loop.example/g00059/laws.FnExactGreatest", spec := "fnExactGreatest", apart := false, narrowed := true }
def FnExactGreatestUptoSaid : Prop := fnExactGreatestUptoRow.holds Try.pinned (OpenSpec.upto fnExactGreatestSpec)

/-- 'laws.FnExactSection', WHERE WHAT IT READS IS OF BULK AT MOST 1048576: true; the input reads as it did. -/
def fnExactSectionUptoRow : OpenClaim := { program := "ytliodmahbdmcbaa", sum := "c77b428e2a4bcc7f9ea9c83c438ff13392b4cd9e35cb9ed87953240f0b29b868", func := "loop.example/g00059/laws.FnExactSection", spec := "fnExactSection", apart := false, narrowed := true }
def FnExactSectionUptoSaid : Prop := fnExactSectionUptoRow.holds Try.pinned (OpenSpec.upto fnExactSectionSpec)

/-- 'laws.FnExactTurns', WHERE WHAT IT READS IS OF BULK AT MOST 1048576: true; the input reads as it did. -/
def fnExactTurnsUptoRow : OpenClaim := { program := "ytliodmahbdmcbaa", sum := "c77b428e2a4bcc7f9ea9c83c438ff13392b4cd9e35cb9ed87953240f0b29b868", func := "loop.example/g00059/laws.FnExactTurns", spec := "fnExactTurns", unfollowed := true, recurses := true, apart := false, narrowed := true }
def FnExactTurnsUptoSaid : Prop := fnExactTurnsUptoRow.holds Try.pinned (OpenSpec.upto fnExactTurnsSpec)

/-- 'laws.FnExactSwings', WHERE WHAT IT READS IS OF BULK AT MOST 1048576: true; the input reads as it did. -/
def fnExactSwingsUptoRow : OpenClaim := { program := "ytliodmahbdmcbaa", sum := "c77b428e2a4bcc7f9ea9c83c438ff13392b4cd9e35cb9ed87953240f0b29b868", func := "loop.example/g00059/laws.FnExactSwings", spec := "fnExactSwings", unfollowed := true, recurses := true, apart := false, narrowed := true }
def FnExactSwingsUptoSaid : Prop := fnExactSwingsUptoRow.holds Try.pinned (OpenSpec.upto fnExactSwingsSpec)

end Rows
end Go.Proofs.Ytliodmahbdmcbaa

/-
  No cell of these rows narrows 'for every input' (looked for: loops, veiled, ifaces, maps, wideKeys, modest, calm, conditions, laid).
  DERIVED. THE GIVEN ROWS OF THIS SEAT. 11 by the template 'for every input the law returns true; each argument reads behind the call as it read before'; 0 by the template 'total and deterministic' (their statements: YtogoknldhimgfaaTotals.lean).
  GIVEN WITH THE SEED: the statements are not yours to turn. If you find one false, say at which input.
  Laid BY PROGRAM, IN A SANDBOX (cutbox-rows.mjs): the forced cells as the released guide's own fill.sh prints them over the translation 1b922a9ecad7c6dd… (all of the seat's roots in one cut). By AI agents, Wed Nov 11 2026. No macro, syntax, notation, axiom, sorry.
-/
import Derived.Test.YtogoknldhimgfaaChecked
import GoSem.Claim
import GoSem.ClaimJoined
import GoSem.ClaimMapViews
import Derived.JoinedTies
import Derived.KernelRfl
namespace Go.Proofs.Ytogoknldhimgfaa
/- THE CELL 'sum', in the pinned program and in every row, IS THE sha256 OF THE DUMP (.gsa) THAT YtogoknldhimgfaaProg.lean LOADS. Nothing in Lean hashes anything: it is a label: what it is worth is what the hold of that sum in a sandbox is worth. -/
noncomputable def Try.pinned : Pinned := { name := "ytogoknldhimgfaa", sum := "1b922a9ecad7c6dd6b48be04443bb85dd5a54fe1b346e3fadf78138f80bfe62e", checked := Try.checked }
namespace Rows
def none {H : Type} : Left H := { results := [], args := [] }

/-- 'laws.FnBerths': WHATEVER THE INPUT: true; the input reads as it did. -/
def fnBerthsSpec : ChangeSpec := { name := "fnBerths", fn := fun _ => fun
  | [d] => { results := [.lit (.bool true)], args := [d] }
  | _ => none }
def fnBerthsRow : OpenClaim := { program := "ytogoknldhimgfaa", sum := "1b922a9ecad7c6dd6b48be04443bb85dd5a54fe1b346e3fadf78138f80bfe62e", func := "loop.example/g00059/laws.FnBerths", spec := "fnBerths", unfollowed := true, recurses := true, apart := false }
def FnBerthsSaid : Prop := fnBerthsRow.holds Try.pinned (OpenSpec.ofChange fnBerthsSpec)

/-- ITS FALSE NEIGHBOUR: 'it returns false'. Refute it at one input. -/
def fnBerthsWrong : ChangeSpec := { name := "fnBerths", fn := fun _ => fun
  | [d] => { results := [.lit (.bool false)], args := [d] }
  | _ => none }
def FnBerthsWrongFalsely : Prop := fnBerthsRow.holds Try.pinned (OpenSpec.ofChange fnBerthsWrong)

/-- 'laws.FnCranes': WHATEVER THE INPUT: true; the input reads as it did. -/
def fnCranesSpec : ChangeSpec := { name := "fnCranes", fn := fun _ => fun
  | [d] => { results := [.lit (.bool true)], args := [d] }
  | _ => none }
def fnCranesRow : OpenClaim := { program := "ytogoknldhimgfaa", sum := "1b922a9ecad7c6dd6b48be04443bb85dd5a54fe1b346e3fadf78138f80bfe62e", func := "loop.example/g00059/laws.FnCranes", spec := "fnCranes", apart := false }
def FnCranesSaid : Prop := fnCranesRow.holds Try.pinned (OpenSpec.ofChange fnCranesSpec)

/-- ITS FALSE NEIGHBOUR: 'it returns false'. Refute it at one input. -/
def fnCranesWrong : ChangeSpec := { name := "fnCranes", fn := fun _ => fun
  | [d] => { results := [.lit (.bool false)], args := [d] }
  | _ => none }
def FnCranesWrongFalsely : Prop := fnCranesRow.holds Try.pinned (OpenSpec.ofChange fnCranesWrong)

/-- 'laws.FnExactCallsOk': WHATEVER THE INPUT: true; the input reads as it did. -/
def fnExactCallsOkSpec : ChangeSpec := { name := "fnExactCallsOk", fn := fun _ => fun
  | [d1, d2] => { results := [.lit (.bool true)], args := [d1, d2] }
  | _ => none }
def fnExactCallsOkRow : OpenClaim := { program := "ytogoknldhimgfaa", sum := "1b922a9ecad7c6dd6b48be04443bb85dd5a54fe1b346e3fadf78138f80bfe62e", func := "loop.example/g00059/laws.FnExactCallsOk", spec := "fnExactCallsOk", apart := false }
def FnExactCallsOkSaid : Prop := fnExactCallsOkRow.holds Try.pinned (OpenSpec.ofChange fnExactCallsOkSpec)

/-- ITS FALSE NEIGHBOUR: 'it returns false'. Refute it at one input. -/
def fnExactCallsOkWrong : ChangeSpec := { name := "fnExactCallsOk", fn := fun _ => fun
  | [d1, d2] => { results := [.lit (.bool false)], args := [d1, d2] }
  | _ => none }
def FnExactCallsOkWrongFalsely : Prop := fnExactCallsOkRow.holds Try.pinned (OpenSpec.ofChange fnExactCallsOkWrong)

/-- 'laws.FnExactClear17': WHATEVER THE INPUT: true; the input reads as it did. -/
def fnExactClear17Spec : ChangeSpec := { name := "fnExactClear17", fn := fun _ => fun
  | [d1, d2] => { results := [.lit (.bool true)], args := [d1, d2] }
  | _ => none }
def fnExactClear17Row : OpenClaim := { program := "ytogoknldhimgfaa", sum := "1b922a9ecad7c6dd6b48be04443bb85dd5a54fe1b346e3fadf78138f80bfe62e", func := "loop.example/g00059/laws.FnExactClear17", spec := "fnExactClear17", unfollowed := true, recurses := true, apart := false }
def FnExactClear17Said : Prop := fnExactClear17Row.holds Try.pinned (OpenSpec.ofChange fnExactClear17Spec)

/-- ITS FALSE NEIGHBOUR: 'it returns false'. Refute it at one input. -/
def fnExactClear17Wrong : ChangeSpec := { name := "fnExactClear17", fn := fun _ => fun
  | [d1, d2] => { results := [.lit (.bool false)], args := [d1, d2] }
  | _ => none }
def FnExactClear17WrongFalsely : Prop := fnExactClear17Row.holds Try.pinned (OpenSpec.ofChange fnExactClear17Wrong)

/-- 'laws.FnExactBerth': WHATEVER THE INPUT: true; the input reads as it did. -/
def fnExactBerthSpec : ChangeSpec := { name := "fnExactBerth", fn := fun _ => fun
  | [d1, d2, d3] => { results := [.lit (.bool true)], args := [d1, d2, d3] }
  | _ => none }
def fnExactBerthRow : OpenClaim := { program := "ytogoknldhimgfaa", sum := "1b922a9ecad7c6dd6b48be04443bb85dd5a54fe1b346e3fadf78138f80bfe62e", func := "loop.example/g00059/laws.FnExactBerth", spec := "fnExactBerth", unfollowed := true, recurses := true, apart := false }
def FnExactBerthSaid : Prop := fnExactBerthRow.holds Try.pinned (OpenSpec.ofChange fnExactBerthSpec)

/-- ITS FALSE NEIGHBOUR: 'it returns false'. Refute it at one input. -/
def fnExactBerthWrong : ChangeSpec := { name := "fnExactBerth", fn := fun _ => fun
  | [d1, d2, d3] => { results := [.lit (.bool false)], args := [d1, d2, d3] }
  | _ => none }
def FnExactBerthWrongFalsely : Prop := fnExactBerthRow.holds Try.pinned (OpenSpec.ofChange fnExactBerthWrong)

/-- 'laws.FnExactBerthAll': WHATEVER THE INPUT: true; the input reads as it did. -/
def fnExactBerthAllSpec : ChangeSpec := { name := "fnExactBerthAll", fn := fun _ => fun
  | [d1, d2] => { results := [.lit (.bool true)], args := [d1, d2] }
  | _ => none }
def fnExactBerthAllRow : OpenClaim := { program := "ytogoknldhimgfaa", sum := "1b922a9ecad7c6dd6b48be04443bb85dd5a54fe1b346e3fadf78138f80bfe62e", func := "loop.example/g00059/laws.FnExactBerthAll", spec := "fnExactBerthAll", unfollowed := true, recurses := true, apart := false }
def FnExactBerthAllSaid : Prop := fnExactBerthAllRow.holds Try.pinned (OpenSpec.ofChange fnExactBerthAllSpec)

/-- ITS FALSE NEIGHBOUR: 'it returns false'. Refute it at one input. -/
def fnExactBerthAllWrong : ChangeSpec := { name := "fnExactBerthAll", fn := fun _ => fun
  | [d1, d2] => { results := [.lit (.bool false)], args := [d1, d2] }
  | _ => none }
def FnExactBerthAllWrongFalsely : Prop := fnExactBerthAllRow.holds Try.pinned (OpenSpec.ofChange fnExactBerthAllWrong)

/-- 'laws.FnExactBound17': WHATEVER THE INPUT: true; the input reads as it did. -/
def fnExactBound17Spec : ChangeSpec := { name := "fnExactBound17", fn := fun _ => fun
  | [d1, d2] => { results := [.lit (.bool true)], args := [d1, d2] }
  | _ => none }
def fnExactBound17Row : OpenClaim := { program := "ytogoknldhimgfaa", sum := "1b922a9ecad7c6dd6b48be04443bb85dd5a54fe1b346e3fadf78138f80bfe62e", func := "loop.example/g00059/laws.FnExactBound17", spec := "fnExactBound17", apart := false }
def FnExactBound17Said : Prop := fnExactBound17Row.holds Try.pinned (OpenSpec.ofChange fnExactBound17Spec)

/-- ITS FALSE NEIGHBOUR: 'it returns false'. Refute it at one input. -/
def fnExactBound17Wrong : ChangeSpec := { name := "fnExactBound17", fn := fun _ => fun
  | [d1, d2] => { results := [.lit (.bool false)], args := [d1, d2] }
  | _ => none }
def FnExactBound17WrongFalsely : Prop := fnExactBound17Row.holds Try.pinned (OpenSpec.ofChange fnExactBound17Wrong)

/-- 'laws.FnExactCranesOk': WHATEVER THE INPUT: true; the input reads as it did. -/
def fnExactCranesOkSpec : ChangeSpec := { name := "fnExactCranesOk", fn := fun _ => fun
  | [d1, d2] => { results := [.lit (.bool true)], args := [d1, d2] }
  | _ => none }
def fnExactCranesOkRow : OpenClaim := { program := "ytogoknldhimgfaa", sum := "1b922a9ecad7c6dd6b48be04443bb85dd5a54fe1b346e3fadf78138f80bfe62e", func := "loop.example/g00059/laws.FnExactCranesOk", spec := "fnExactCranesOk", apart := false }
def FnExactCranesOkSaid : Prop := fnExactCranesOkRow.holds Try.pinned (OpenSpec.ofChange fnExactCranesOkSpec)

/-- ITS FALSE NEIGHBOUR: 'it returns false'. Refute it at one input. -/
def fnExactCranesOkWrong : ChangeSpec := { name := "fnExactCranesOk", fn := fun _ => fun
  | [d1, d2] => { results := [.lit (.bool false)], args := [d1, d2] }
  | _ => none }
def FnExactCranesOkWrongFalsely : Prop := fnExactCranesOkRow.holds Try.pinned (OpenSpec.ofChange fnExactCranesOkWrong)

/-- 'laws.FnExactDoMove': WHATEVER THE INPUT: true; the input reads as it did. -/
def fnExactDoMoveSpec : ChangeSpec := { name := "fnExactDoMove", fn := fun _ => fun
  | [d1, d2, d3] => { results := [.lit (.bool true)], args := [d1, d2, d3] }
  | _ => none }
def fnExactDoMoveRow : OpenClaim := { program := "ytogoknldhimgfaa", sum := "1b922a9ecad7c6dd6b48be04443bb85dd5a54fe1b346e3fadf78138f80bfe62e", func := "loop.example/g00059/laws.FnExactDoMove", spec := "fnExactDoMove", apart := false }
def FnExactDoMoveSaid : Prop := fnExactDoMoveRow.holds Try.pinned (OpenSpec.ofChange fnExactDoMoveSpec)

/-- ITS FALSE NEIGHBOUR: 'it returns false'. Refute it at one input. -/
def fnExactDoMoveWrong : ChangeSpec := { name := "fnExactDoMove", fn := fun _ => fun
  | [d1, d2, d3] => { results := [.lit (.bool false)], args := [d1, d2, d3] }
  | _ => none }
def FnExactDoMoveWrongFalsely : Prop := fnExactDoMoveRow.holds Try.pinned (OpenSpec.ofChange fnExactDoMoveWrong)

/-- 'laws.FnExactPushMove': WHATEVER THE INPUT: true; the input reads as it did. -/
def fnExactPushMoveSpec : ChangeSpec := { name := "fnExactPushMove", fn := fun _ => fun
  | [d1, d2, d3] => { results := [.lit (.bool true)], args := [d1, d2, d3] }
  | _ => none }
def fnExactPushMoveRow : OpenClaim := { program := "ytogoknldhimgfaa", sum := "1b922a9ecad7c6dd6b48be04443bb85dd5a54fe1b346e3fadf78138f80bfe62e", func := "loop.example/g00059/laws.FnExactPushMove", spec := "fnExactPushMove", apart := false }
def FnExactPushMoveSaid : Prop := fnExactPushMoveRow.holds Try.pinned (OpenSpec.ofChange fnExactPushMoveSpec)

/-- ITS FALSE NEIGHBOUR: 'it returns false'. Refute it at one input. -/
def fnExactPushMoveWrong : ChangeSpec := { name := "fnExactPushMove", fn := fun _ => fun
  | [d1, d2, d3] => { results := [.lit (.bool false)], args := [d1, d2, d3] }
  | _ => none }
def FnExactPushMoveWrongFalsely : Prop := fnExactPushMoveRow.holds Try.pinned (OpenSpec.ofChange fnExactPushMoveWrong)

/-- 'laws.FnExactRunMoves': WHATEVER THE INPUT: true; the input reads as it did. -/
def fnExactRunMovesSpec : ChangeSpec := { name := "fnExactRunMoves", fn := fun _ => fun
  | [d1, d2, d3] => { results := [.lit (.bool true)], args := [d1, d2, d3] }
  | _ => none }
def fnExactRunMovesRow : OpenClaim := { program := "ytogoknldhimgfaa", sum := "1b922a9ecad7c6dd6b48be04443bb85dd5a54fe1b346e3fadf78138f80bfe62e", func := "loop.example/g00059/laws.FnExactRunMoves", spec := "fnExactRunMoves", apart := false }
def FnExactRunMovesSaid : Prop := fnExactRunMovesRow.holds Try.pinned (OpenSpec.ofChange fnExactRunMovesSpec)

/-- ITS FALSE NEIGHBOUR: 'it returns false'. Refute it at one input. -/
def fnExactRunMovesWrong : ChangeSpec := { name := "fnExactRunMoves", fn := fun _ => fun
  | [d1, d2, d3] => { results := [.lit (.bool false)], args := [d1, d2, d3] }
  | _ => none }
def FnExactRunMovesWrongFalsely : Prop := fnExactRunMovesRow.holds Try.pinned (OpenSpec.ofChange fnExactRunMovesWrong)

/- THE SECOND FORM. 'bulk': how many values and letters a reading holds, each counted each time it is reached (what is shared counts as often as it is met; a slice's spare places count too). A statement '..UptoSaid' is the law's where the arguments, and the package variables that the reading takes, are together of bulk at most 1048576: NARROWER than '..Said'. Prove '..Said' where nothing that the law and all that it calls make is longer than what came in: it says more and counts as full. Else prove '..UptoSaid'. A law counts once. -/
mutual
def uptoBulk {H : Type} : DataW H → Nat
  | .lit (.string bytes) => bytes.length + 1
  | .lit _ => 1
  | .nil => 1
  | .ptr d => uptoBulk d + 1
  | .slice elems spare => uptoBulkAll elems + uptoBulkAll spare + 1
  | .agg parts => uptoBulkAll parts + 1
  | .iface _ d => uptoBulk d + 1
  | .map entries => uptoBulkEntries entries + 1
  | .held _ => 1
def uptoBulkAll {H : Type} : List (DataW H) → Nat
  | [] => 0
  | d :: r => uptoBulk d + uptoBulkAll r
def uptoBulkEntries {H : Type} : List (Lit × DataW H) → Nat
  | [] => 0
  | x :: r => uptoBulkEntry x + uptoBulkEntries r
def uptoBulkEntry {H : Type} : Lit × DataW H → Nat
  | (.string bytes, d) => bytes.length + uptoBulk d + 1
  | (_, d) => uptoBulk d + 1
 end
def uptoSmall : (H : Type) → List (DataW H) → Bool := fun _ ds => decide (uptoBulkAll ds ≤ 1048576)
def OpenSpec.upto (s : _root_.Go.ChangeSpec) : _root_.Go.OpenSpec := { _root_.Go.OpenSpec.ofChange s with cond := some uptoSmall }

/-- 'laws.FnBerths', WHERE WHAT IT READS IS OF BULK AT MOST 1048576: true; the input reads as it did. -/
def fnBerthsUptoRow : OpenClaim := { program := "ytogoknldhimgfaa", sum := "1b922a9ecad7c6dd6b48be04443bb85dd5a54fe1b346e3fadf78138f80bfe62e", func := "loop.example/g00059/laws.FnBerths", spec := "fnBerths", unfollowed := true, recurses := true, apart := false, narrowed := true }
def FnBerthsUptoSaid : Prop := fnBerthsUptoRow.holds Try.pinned (OpenSpec.upto fnBerthsSpec)

/-- 'laws.FnCranes', WHERE WHAT IT READS IS OF BULK AT MOST 1048576: true; the input reads as it did. -/
def fnCranesUptoRow : OpenClaim := { program := "ytogoknldhimgfaa", sum := "1b922a9ecad7c6dd6b48be04443bb85dd5a54fe1b346e3fadf78138f80bfe62e", func := "loop.example/g00059/laws.FnCranes", spec := "fnCranes", apart := false, narrowed := true }
def FnCranesUptoSaid : Prop := fnCranesUptoRow.holds Try.pinned (OpenSpec.upto fnCranesSpec)

/-- 'laws.FnExactCallsOk', WHERE WHAT IT READS IS OF BULK AT MOST 1048576: true; the input reads as it did. -/
def fnExactCallsOkUptoRow : OpenClaim := { program := "ytogoknldhimgfaa", sum := "1b922a9ecad7c6dd6b48be04443bb85dd5a54fe1b346e3fadf78138f80bfe62e", func := "loop.example/g00059/laws.FnExactCallsOk", spec := "fnExactCallsOk", apart := false, narrowed := true }
def FnExactCallsOkUptoSaid : Prop := fnExactCallsOkUptoRow.holds Try.pinned (OpenSpec.upto fnExactCallsOkSpec)

/-- 'laws.FnExactClear17', WHERE WHAT IT READS IS OF BULK AT MOST 1048576: true; the input reads as it did. -/
def fnExactClear17UptoRow : OpenClaim := { program := "ytogoknldhimgfaa", sum := "1b922a9ecad7c6dd6b48be04443bb85dd5a54fe1b346e3fadf78138f80bfe62e", func := "loop.example/g00059/laws.FnExactClear17", spec := "fnExactClear17", unfollowed := true, recurses := true, apart := false, narrowed := true }
def FnExactClear17UptoSaid : Prop := fnExactClear17UptoRow.holds Try.pinned (OpenSpec.upto fnExactClear17Spec)

/-- 'laws.FnExactBerth', WHERE WHAT IT READS IS OF BULK AT MOST 1048576: true; the input reads as it did. -/
def fnExactBerthUptoRow : OpenClaim := { program := "ytogoknldhimgfaa", sum := "1b922a9ecad7c6dd6b48be04443bb85dd5a54fe1b346e3fadf78138f80bfe62e", func := "loop.example/g00059/laws.FnExactBerth", spec := "fnExactBerth", unfollowed := true, recurses := true, apart := false, narrowed := true }
def FnExactBerthUptoSaid : Prop := fnExactBerthUptoRow.holds Try.pinned (OpenSpec.upto fnExactBerthSpec)

/-- 'laws.FnExactBerthAll', WHERE WHAT IT READS IS OF BULK AT MOST 1048576: true; the input reads as it did. -/
def fnExactBerthAllUptoRow : OpenClaim := { program := "ytogoknldhimgfaa", sum := "1b922a9ecad7c6dd6b48be04443bb85dd5a54fe1b346e3fadf78138f80bfe62e", func := "loop.example/g00059/laws.FnExactBerthAll", spec := "fnExactBerthAll", unfollowed := true, recurses := true, apart := false, narrowed := true }
def FnExactBerthAllUptoSaid : Prop := fnExactBerthAllUptoRow.holds Try.pinned (OpenSpec.upto fnExactBerthAllSpec)

/-- 'laws.FnExactBound17', WHERE WHAT IT READS IS OF BULK AT MOST 1048576: true; the input reads as it did. -/
def fnExactBound17UptoRow : OpenClaim := { program := "ytogoknldhimgfaa", sum := "1b922a9ecad7c6dd6b48be04443bb85dd5a54fe1b346e3fadf78138f80bfe62e", func := "loop.example/g00059/laws.FnExactBound17", spec := "fnExactBound17", apart := false, narrowed := true }
def FnExactBound17UptoSaid : Prop := fnExactBound17UptoRow.holds Try.pinned (OpenSpec.upto fnExactBound17Spec)

/-- 'laws.FnExactCranesOk', WHERE WHAT IT READS IS OF BULK AT MOST 1048576: true; the input reads as it did. -/
def fnExactCranesOkUptoRow : OpenClaim := { program := "ytogoknldhimgfaa", sum := "1b922a9ecad7c6dd6b48be04443bb85dd5a54fe1b346e3fadf78138f80bfe62e", func := "loop.example/g00059/laws.FnExactCranesOk", spec := "fnExactCranesOk", apart := false, narrowed := true }
def FnExactCranesOkUptoSaid : Prop := fnExactCranesOkUptoRow.holds Try.pinned (OpenSpec.upto fnExactCranesOkSpec)

/-- 'laws.FnExactDoMove', WHERE WHAT IT READS IS OF BULK AT MOST 1048576: true; the input reads as it did. -/
def fnExactDoMoveUptoRow : OpenClaim := { program := "ytogoknldhimgfaa", sum := "1b922a9ecad7c6dd6b48be04443bb85dd5a54fe1b346e3fadf78138f80bfe62e", func := "loop.example/g00059/laws.FnExactDoMove", spec := "fnExactDoMove", apart := false, narrowed := true }
def FnExactDoMoveUptoSaid : Prop := fnExactDoMoveUptoRow.holds Try.pinned (OpenSpec.upto fnExactDoMoveSpec)

/-- 'laws.FnExactPushMove', WHERE WHAT IT READS IS OF BULK AT MOST 1048576: true; the input reads as it did. -/
def fnExactPushMoveUptoRow : OpenClaim := { program := "ytogoknldhimgfaa", sum := "1b922a9ecad7c6dd6b48be04443bb85dd5a54fe1b346e3fadf78138f80bfe62e", func := "loop.example/g00059/laws.FnExactPushMove", spec := "fnExactPushMove", apart := false, narrowed := true }
def FnExactPushMoveUptoSaid : Prop := fnExactPushMoveUptoRow.holds Try.pinned (OpenSpec.upto fnExactPushMoveSpec)

/-- 'laws.FnExactRunMoves', WHERE WHAT IT READS IS OF BULK AT MOST 1048576: true; the input reads as it did. -/
def fnExactRunMovesUptoRow : OpenClaim := { program := "ytogoknldhimgfaa", sum := "1b922a9ecad7c6dd6b48be04443bb85dd5a54fe1b346e3fadf78138f80bfe62e", func := "loop.example/g00059/laws.FnExactRunMoves", spec := "fnExactRunMoves", apart := false, narrowed := true }
def FnExactRunMovesUptoSaid : Prop := fnExactRunMovesUptoRow.holds Try.pinned (OpenSpec.upto fnExactRunMovesSpec)

end Rows
end Go.Proofs.Ytogoknldhimgfaa

/-
  No cell of these rows narrows 'for every input' (looked for: loops, veiled, ifaces, maps, wideKeys, modest, calm, conditions, laid).
  DERIVED. THE GIVEN ROWS OF THIS SEAT. 7 by the template 'for every input the law returns true; each argument reads behind the call as it read before'; 0 by the template 'total and deterministic' (their statements: YtfokocpdngokfaaTotals.lean).
  GIVEN WITH THE SEED: the statements are not yours to turn. If you find one false, say at which input.
  Laid BY PROGRAM, IN A SANDBOX (cutbox-rows.mjs): the forced cells as the released guide's own fill.sh prints them over the translation ba851cde4217f97d… (all of the seat's roots in one cut). By AI agents, Wed Nov 11 2026. No macro, syntax, notation, axiom, sorry.
-/
import Derived.Test.YtfokocpdngokfaaChecked
import GoSem.Claim
import GoSem.ClaimJoined
import GoSem.ClaimMapViews
import Derived.JoinedTies
import Derived.KernelRfl
namespace Go.Proofs.Ytfokocpdngokfaa
/- THE CELL 'sum', in the pinned program and in every row, IS THE sha256 OF THE DUMP (.gsa) THAT YtfokocpdngokfaaProg.lean LOADS. Nothing in Lean hashes anything: it is a label: what it is worth is what the hold of that sum in a sandbox is worth. -/
noncomputable def Try.pinned : Pinned := { name := "ytfokocpdngokfaa", sum := "ba851cde4217f97da350e73ed6bba45d92fba272e790ed63593a92671bc8e6b0", checked := Try.checked }
namespace Rows
def none {H : Type} : Left H := { results := [], args := [] }

/-- 'laws.FnCargo': WHATEVER THE INPUT: true; the input reads as it did. -/
def fnCargoSpec : ChangeSpec := { name := "fnCargo", fn := fun _ => fun
  | [d] => { results := [.lit (.bool true)], args := [d] }
  | _ => none }
def fnCargoRow : OpenClaim := { program := "ytfokocpdngokfaa", sum := "ba851cde4217f97da350e73ed6bba45d92fba272e790ed63593a92671bc8e6b0", func := "loop.example/g00059/laws.FnCargo", spec := "fnCargo", unfollowed := true, recurses := true, apart := false }
def FnCargoSaid : Prop := fnCargoRow.holds Try.pinned (OpenSpec.ofChange fnCargoSpec)

/-- ITS FALSE NEIGHBOUR: 'it returns false'. Refute it at one input. -/
def fnCargoWrong : ChangeSpec := { name := "fnCargo", fn := fun _ => fun
  | [d] => { results := [.lit (.bool false)], args := [d] }
  | _ => none }
def FnCargoWrongFalsely : Prop := fnCargoRow.holds Try.pinned (OpenSpec.ofChange fnCargoWrong)

/-- 'laws.FnUllage': WHATEVER THE INPUT: true; the input reads as it did. -/
def fnUllageSpec : ChangeSpec := { name := "fnUllage", fn := fun _ => fun
  | [d] => { results := [.lit (.bool true)], args := [d] }
  | _ => none }
def fnUllageRow : OpenClaim := { program := "ytfokocpdngokfaa", sum := "ba851cde4217f97da350e73ed6bba45d92fba272e790ed63593a92671bc8e6b0", func := "loop.example/g00059/laws.FnUllage", spec := "fnUllage", apart := false }
def FnUllageSaid : Prop := fnUllageRow.holds Try.pinned (OpenSpec.ofChange fnUllageSpec)

/-- ITS FALSE NEIGHBOUR: 'it returns false'. Refute it at one input. -/
def fnUllageWrong : ChangeSpec := { name := "fnUllage", fn := fun _ => fun
  | [d] => { results := [.lit (.bool false)], args := [d] }
  | _ => none }
def FnUllageWrongFalsely : Prop := fnUllageRow.holds Try.pinned (OpenSpec.ofChange fnUllageWrong)

/-- 'laws.FnExactTanksOk': WHATEVER THE INPUT: true; the input reads as it did. -/
def fnExactTanksOkSpec : ChangeSpec := { name := "fnExactTanksOk", fn := fun _ => fun
  | [d] => { results := [.lit (.bool true)], args := [d] }
  | _ => none }
def fnExactTanksOkRow : OpenClaim := { program := "ytfokocpdngokfaa", sum := "ba851cde4217f97da350e73ed6bba45d92fba272e790ed63593a92671bc8e6b0", func := "loop.example/g00059/laws.FnExactTanksOk", spec := "fnExactTanksOk", apart := false }
def FnExactTanksOkSaid : Prop := fnExactTanksOkRow.holds Try.pinned (OpenSpec.ofChange fnExactTanksOkSpec)

/-- ITS FALSE NEIGHBOUR: 'it returns false'. Refute it at one input. -/
def fnExactTanksOkWrong : ChangeSpec := { name := "fnExactTanksOk", fn := fun _ => fun
  | [d] => { results := [.lit (.bool false)], args := [d] }
  | _ => none }
def FnExactTanksOkWrongFalsely : Prop := fnExactTanksOkRow.holds Try.pinned (OpenSpec.ofChange fnExactTanksOkWrong)

/-- 'laws.FnExactCargoStep': WHATEVER THE INPUT: true; the input reads as it did. -/
def fnExactCargoStepSpec : ChangeSpec := { name := "fnExactCargoStep", fn := fun _ => fun
  | [d1, d2, d3] => { results := [.lit (.bool true)], args := [d1, d2, d3] }
  | _ => none }
def fnExactCargoStepRow : OpenClaim := { program := "ytfokocpdngokfaa", sum := "ba851cde4217f97da350e73ed6bba45d92fba272e790ed63593a92671bc8e6b0", func := "loop.example/g00059/laws.FnExactCargoStep", spec := "fnExactCargoStep", unfollowed := true, recurses := true, apart := false }
def FnExactCargoStepSaid : Prop := fnExactCargoStepRow.holds Try.pinned (OpenSpec.ofChange fnExactCargoStepSpec)

/-- ITS FALSE NEIGHBOUR: 'it returns false'. Refute it at one input. -/
def fnExactCargoStepWrong : ChangeSpec := { name := "fnExactCargoStep", fn := fun _ => fun
  | [d1, d2, d3] => { results := [.lit (.bool false)], args := [d1, d2, d3] }
  | _ => none }
def FnExactCargoStepWrongFalsely : Prop := fnExactCargoStepRow.holds Try.pinned (OpenSpec.ofChange fnExactCargoStepWrong)

/-- 'laws.FnExactCargoRun': WHATEVER THE INPUT: true; the input reads as it did. -/
def fnExactCargoRunSpec : ChangeSpec := { name := "fnExactCargoRun", fn := fun _ => fun
  | [d1, d2, d3] => { results := [.lit (.bool true)], args := [d1, d2, d3] }
  | _ => none }
def fnExactCargoRunRow : OpenClaim := { program := "ytfokocpdngokfaa", sum := "ba851cde4217f97da350e73ed6bba45d92fba272e790ed63593a92671bc8e6b0", func := "loop.example/g00059/laws.FnExactCargoRun", spec := "fnExactCargoRun", unfollowed := true, recurses := true, apart := false }
def FnExactCargoRunSaid : Prop := fnExactCargoRunRow.holds Try.pinned (OpenSpec.ofChange fnExactCargoRunSpec)

/-- ITS FALSE NEIGHBOUR: 'it returns false'. Refute it at one input. -/
def fnExactCargoRunWrong : ChangeSpec := { name := "fnExactCargoRun", fn := fun _ => fun
  | [d1, d2, d3] => { results := [.lit (.bool false)], args := [d1, d2, d3] }
  | _ => none }
def FnExactCargoRunWrongFalsely : Prop := fnExactCargoRunRow.holds Try.pinned (OpenSpec.ofChange fnExactCargoRunWrong)

/-- 'laws.FnExactUllage': WHATEVER THE INPUT: true; the input reads as it did. -/
def fnExactUllageSpec : ChangeSpec := { name := "fnExactUllage", fn := fun _ => fun
  | [d1, d2] => { results := [.lit (.bool true)], args := [d1, d2] }
  | _ => none }
def fnExactUllageRow : OpenClaim := { program := "ytfokocpdngokfaa", sum := "ba851cde4217f97da350e73ed6bba45d92fba272e790ed63593a92671bc8e6b0", func := "loop.example/g00059/laws.FnExactUllage", spec := "fnExactUllage", apart := false }
def FnExactUllageSaid : Prop := fnExactUllageRow.holds Try.pinned (OpenSpec.ofChange fnExactUllageSpec)

/-- ITS FALSE NEIGHBOUR: 'it returns false'. Refute it at one input. -/
def fnExactUllageWrong : ChangeSpec := { name := "fnExactUllage", fn := fun _ => fun
  | [d1, d2] => { results := [.lit (.bool false)], args := [d1, d2] }
  | _ => none }
def FnExactUllageWrongFalsely : Prop := fnExactUllageRow.holds Try.pinned (OpenSpec.ofChange fnExactUllageWrong)

/-- 'laws.FnExactDraftSurvey': WHATEVER THE INPUT: true; the input reads as it did. -/
def fnExactDraftSurveySpec : ChangeSpec := { name := "fnExactDraftSurvey", fn := fun _ => fun
  | [d1, d2, d3, d4] => { results := [.lit (.bool true)], args := [d1, d2, d3, d4] }
  | _ => none }
def fnExactDraftSurveyRow : OpenClaim := { program := "ytfokocpdngokfaa", sum := "ba851cde4217f97da350e73ed6bba45d92fba272e790ed63593a92671bc8e6b0", func := "loop.example/g00059/laws.FnExactDraftSurvey", spec := "fnExactDraftSurvey", apart := false }
def FnExactDraftSurveySaid : Prop := fnExactDraftSurveyRow.holds Try.pinned (OpenSpec.ofChange fnExactDraftSurveySpec)

/-- ITS FALSE NEIGHBOUR: 'it returns false'. Refute it at one input. -/
def fnExactDraftSurveyWrong : ChangeSpec := { name := "fnExactDraftSurvey", fn := fun _ => fun
  | [d1, d2, d3, d4] => { results := [.lit (.bool false)], args := [d1, d2, d3, d4] }
  | _ => none }
def FnExactDraftSurveyWrongFalsely : Prop := fnExactDraftSurveyRow.holds Try.pinned (OpenSpec.ofChange fnExactDraftSurveyWrong)

/- THE SECOND FORM. 'bulk': how many values and letters a reading holds, each counted each time it is reached (what is shared counts as often as it is met; a slice's spare places count too). A statement '..UptoSaid' is the law's where the arguments, and the package variables that the reading takes, are together of bulk at most 1048576: NARROWER than '..Said'. Prove '..Said' where nothing that the law and all that it calls make is longer than what came in: it says more and counts as full. Else prove '..UptoSaid'. A law counts once. -/
mutual
def uptoBulk {H : Type} : DataW H → Nat
  | .lit (.string bytes) => bytes.length + 1
  | .lit _ => 1
  | .nil => 1
  | .ptr d => uptoBulk d + 1
  | .slice elems spare => uptoBulkAll elems + uptoBulkAll spare + 1
  | .agg parts => uptoBulkAll parts + 1
  | .iface _ d => uptoBulk d + 1
  | .map entries => uptoBulkEntries entries + 1
  | .held _ => 1
def uptoBulkAll {H : Type} : List (DataW H) → Nat
  | [] => 0
  | d :: r => uptoBulk d + uptoBulkAll r
def uptoBulkEntries {H : Type} : List (Lit × DataW H) → Nat
  | [] => 0
  | x :: r => uptoBulkEntry x + uptoBulkEntries r
def uptoBulkEntry {H : Type} : Lit × DataW H → Nat
  | (.string bytes, d) => bytes.length + uptoBulk d + 1
  | (_, d) => uptoBulk d + 1
 end
def uptoSmall : (H : Type) → List (DataW H) → Bool := fun _ ds => decide (uptoBulkAll ds ≤ 1048576)
def OpenSpec.upto (s : _root_.Go.ChangeSpec) : _root_.Go.OpenSpec := { _root_.Go.OpenSpec.ofChange s with cond := some uptoSmall }

/-- 'laws.FnCargo', WHERE WHAT IT READS IS OF BULK AT MOST 1048576: true; the input reads as it did. -/
def fnCargoUptoRow : OpenClaim := { program := "ytfokocpdngokfaa", sum := "ba851cde4217f97da350e73ed6bba45d92fba272e790ed63593a92671bc8e6b0", func := "loop.example/g00059/laws.FnCargo", spec := "fnCargo", unfollowed := true, recurses := true, apart := false, narrowed := true }
def FnCargoUptoSaid : Prop := fnCargoUptoRow.holds Try.pinned (OpenSpec.upto fnCargoSpec)

/-- 'laws.FnUllage', WHERE WHAT IT READS IS OF BULK AT MOST 1048576: true; the input reads as it did. -/
def fnUllageUptoRow : OpenClaim := { program := "ytfokocpdngokfaa", sum := "ba851cde4217f97da350e73ed6bba45d92fba272e790ed63593a92671bc8e6b0", func := "loop.example/g00059/laws.FnUllage", spec := "fnUllage", apart := false, narrowed := true }
def FnUllageUptoSaid : Prop := fnUllageUptoRow.holds Try.pinned (OpenSpec.upto fnUllageSpec)

/-- 'laws.FnExactTanksOk', WHERE WHAT IT READS IS OF BULK AT MOST 1048576: true; the input reads as it did. -/
def fnExactTanksOkUptoRow : OpenClaim := { program := "ytfokocpdngokfaa", sum := "ba851cde4217f97da350e73ed6bba45d92fba272e790ed63593a92671bc8e6b0", func := "loop.example/g00059/laws.FnExactTanksOk", spec := "fnExactTanksOk", apart := false, narrowed := true }
def FnExactTanksOkUptoSaid : Prop := fnExactTanksOkUptoRow.holds Try.pinned (OpenSpec.upto fnExactTanksOkSpec)

/-- 'laws.FnExactCargoStep', WHERE WHAT IT READS IS OF BULK AT MOST 1048576: true; the input reads as it did. -/
def fnExactCargoStepUptoRow : OpenClaim := { program := "ytfokocpdngokfaa", sum := "ba851cde4217f97da350e73ed6bba45d92fba272e790ed63593a92671bc8e6b0", func := "loop.example/g00059/laws.FnExactCargoStep", spec := "fnExactCargoStep", unfollowed := true, recurses := true, apart := false, narrowed := true }
def FnExactCargoStepUptoSaid : Prop := fnExactCargoStepUptoRow.holds Try.pinned (OpenSpec.upto fnExactCargoStepSpec)

/-- 'laws.FnExactCargoRun', WHERE WHAT IT READS IS OF BULK AT MOST 1048576: true; the input reads as it did. -/
def fnExactCargoRunUptoRow : OpenClaim := { program := "ytfokocpdngokfaa", sum := "ba851cde4217f97da350e73ed6bba45d92fba272e790ed63593a92671bc8e6b0", func := "loop.example/g00059/laws.FnExactCargoRun", spec := "fnExactCargoRun", unfollowed := true, recurses := true, apart := false, narrowed := true }
def FnExactCargoRunUptoSaid : Prop := fnExactCargoRunUptoRow.holds Try.pinned (OpenSpec.upto fnExactCargoRunSpec)

/-- 'laws.FnExactUllage', WHERE WHAT IT READS IS OF BULK AT MOST 1048576: true; the input reads as it did. -/
def fnExactUllageUptoRow : OpenClaim := { program := "ytfokocpdngokfaa", sum := "ba851cde4217f97da350e73ed6bba45d92fba272e790ed63593a92671bc8e6b0", func := "loop.example/g00059/laws.FnExactUllage", spec := "fnExactUllage", apart := false, narrowed := true }
def FnExactUllageUptoSaid : Prop := fnExactUllageUptoRow.holds Try.pinned (OpenSpec.upto fnExactUllageSpec)

/-- 'laws.FnExactDraftSurvey', WHERE WHAT IT READS IS OF BULK AT MOST 1048576: true; the input reads as it did. -/
def fnExactDraftSurveyUptoRow : OpenClaim := { program := "ytfokocpdngokfaa", sum := "ba851cde4217f97da350e73ed6bba45d92fba272e790ed63593a92671bc8e6b0", func := "loop.example/g00059/laws.FnExactDraftSurvey", spec := "fnExactDraftSurvey", apart := false, narrowed := true }
def FnExactDraftSurveyUptoSaid : Prop := fnExactDraftSurveyUptoRow.holds Try.pinned (OpenSpec.upto fnExactDraftSurveySpec)

end Rows
end Go.Proofs.Ytfokocpdngokfaa

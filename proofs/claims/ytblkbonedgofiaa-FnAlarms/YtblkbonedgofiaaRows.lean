/-
  No cell of these rows narrows 'for every input' (looked for: loops, veiled, ifaces, maps, wideKeys, modest, calm, conditions, laid).
  DERIVED. THE GIVEN ROWS OF THIS SEAT. 8 by the template 'for every input the law returns true; each argument reads behind the call as it read before'; 0 by the template 'total and deterministic' (their statements: YtblkbonedgofiaaTotals.lean).
  GIVEN WITH THE SEED: the statements are not yours to turn. If you find one false, say at which input.
  Laid BY PROGRAM, IN A SANDBOX (cutbox-rows.mjs): the forced cells as the released guide's own fill.sh prints them over the translation 96d25b62c12b7244… (all of the seat's roots in one cut). By AI agents, Wed Nov 11 2026. No macro, syntax, notation, axiom, sorry.
-/
import Derived.Test.YtblkbonedgofiaaChecked
import GoSem.Claim
import GoSem.ClaimJoined
import GoSem.ClaimMapViews
import Derived.JoinedTies
import Derived.KernelRfl
namespace Go.Proofs.Ytblkbonedgofiaa
/- THE CELL 'sum', in the pinned program and in every row, IS THE sha256 OF THE DUMP (.gsa) THAT YtblkbonedgofiaaProg.lean LOADS. Nothing in Lean hashes anything: it is a label: what it is worth is what the hold of that sum in a sandbox is worth. -/
noncomputable def Try.pinned : Pinned := { name := "ytblkbonedgofiaa", sum := "96d25b62c12b724408f041d70a61969ae6c43872b406340deb4bef6d16fe73dc", checked := Try.checked }
namespace Rows
def none {H : Type} : Left H := { results := [], args := [] }

/-- 'laws.FnRested': WHATEVER THE INPUT: true; the input reads as it did. -/
def fnRestedSpec : ChangeSpec := { name := "fnRested", fn := fun _ => fun
  | [d] => { results := [.lit (.bool true)], args := [d] }
  | _ => none }
def fnRestedRow : OpenClaim := { program := "ytblkbonedgofiaa", sum := "96d25b62c12b724408f041d70a61969ae6c43872b406340deb4bef6d16fe73dc", func := "loop.example/g00059/laws.FnRested", spec := "fnRested", apart := false }
def FnRestedSaid : Prop := fnRestedRow.holds Try.pinned (OpenSpec.ofChange fnRestedSpec)

/-- ITS FALSE NEIGHBOUR: 'it returns false'. Refute it at one input. -/
def fnRestedWrong : ChangeSpec := { name := "fnRested", fn := fun _ => fun
  | [d] => { results := [.lit (.bool false)], args := [d] }
  | _ => none }
def FnRestedWrongFalsely : Prop := fnRestedRow.holds Try.pinned (OpenSpec.ofChange fnRestedWrong)

/-- 'laws.FnAlarms': WHATEVER THE INPUT: true; the input reads as it did. -/
def fnAlarmsSpec : ChangeSpec := { name := "fnAlarms", fn := fun _ => fun
  | [d] => { results := [.lit (.bool true)], args := [d] }
  | _ => none }
def fnAlarmsRow : OpenClaim := { program := "ytblkbonedgofiaa", sum := "96d25b62c12b724408f041d70a61969ae6c43872b406340deb4bef6d16fe73dc", func := "loop.example/g00059/laws.FnAlarms", spec := "fnAlarms", unfollowed := true, recurses := true, apart := false }
def FnAlarmsSaid : Prop := fnAlarmsRow.holds Try.pinned (OpenSpec.ofChange fnAlarmsSpec)

/-- ITS FALSE NEIGHBOUR: 'it returns false'. Refute it at one input. -/
def fnAlarmsWrong : ChangeSpec := { name := "fnAlarms", fn := fun _ => fun
  | [d] => { results := [.lit (.bool false)], args := [d] }
  | _ => none }
def FnAlarmsWrongFalsely : Prop := fnAlarmsRow.holds Try.pinned (OpenSpec.ofChange fnAlarmsWrong)

/-- 'laws.FnBurn': WHATEVER THE INPUT: true; the input reads as it did. -/
def fnBurnSpec : ChangeSpec := { name := "fnBurn", fn := fun _ => fun
  | [d] => { results := [.lit (.bool true)], args := [d] }
  | _ => none }
def fnBurnRow : OpenClaim := { program := "ytblkbonedgofiaa", sum := "96d25b62c12b724408f041d70a61969ae6c43872b406340deb4bef6d16fe73dc", func := "loop.example/g00059/laws.FnBurn", spec := "fnBurn", apart := false }
def FnBurnSaid : Prop := fnBurnRow.holds Try.pinned (OpenSpec.ofChange fnBurnSpec)

/-- ITS FALSE NEIGHBOUR: 'it returns false'. Refute it at one input. -/
def fnBurnWrong : ChangeSpec := { name := "fnBurn", fn := fun _ => fun
  | [d] => { results := [.lit (.bool false)], args := [d] }
  | _ => none }
def FnBurnWrongFalsely : Prop := fnBurnRow.holds Try.pinned (OpenSpec.ofChange fnBurnWrong)

/-- 'laws.FnExactBurn': WHATEVER THE INPUT: true; the input reads as it did. -/
def fnExactBurnSpec : ChangeSpec := { name := "fnExactBurn", fn := fun _ => fun
  | [d1, d2, d3] => { results := [.lit (.bool true)], args := [d1, d2, d3] }
  | _ => none }
def fnExactBurnRow : OpenClaim := { program := "ytblkbonedgofiaa", sum := "96d25b62c12b724408f041d70a61969ae6c43872b406340deb4bef6d16fe73dc", func := "loop.example/g00059/laws.FnExactBurn", spec := "fnExactBurn", apart := false }
def FnExactBurnSaid : Prop := fnExactBurnRow.holds Try.pinned (OpenSpec.ofChange fnExactBurnSpec)

/-- ITS FALSE NEIGHBOUR: 'it returns false'. Refute it at one input. -/
def fnExactBurnWrong : ChangeSpec := { name := "fnExactBurn", fn := fun _ => fun
  | [d1, d2, d3] => { results := [.lit (.bool false)], args := [d1, d2, d3] }
  | _ => none }
def FnExactBurnWrongFalsely : Prop := fnExactBurnRow.holds Try.pinned (OpenSpec.ofChange fnExactBurnWrong)

/-- 'laws.FnExactAlarms': WHATEVER THE INPUT: true; the input reads as it did. -/
def fnExactAlarmsSpec : ChangeSpec := { name := "fnExactAlarms", fn := fun _ => fun
  | [d1, d2] => { results := [.lit (.bool true)], args := [d1, d2] }
  | _ => none }
def fnExactAlarmsRow : OpenClaim := { program := "ytblkbonedgofiaa", sum := "96d25b62c12b724408f041d70a61969ae6c43872b406340deb4bef6d16fe73dc", func := "loop.example/g00059/laws.FnExactAlarms", spec := "fnExactAlarms", unfollowed := true, recurses := true, apart := false }
def FnExactAlarmsSaid : Prop := fnExactAlarmsRow.holds Try.pinned (OpenSpec.ofChange fnExactAlarmsSpec)

/-- ITS FALSE NEIGHBOUR: 'it returns false'. Refute it at one input. -/
def fnExactAlarmsWrong : ChangeSpec := { name := "fnExactAlarms", fn := fun _ => fun
  | [d1, d2] => { results := [.lit (.bool false)], args := [d1, d2] }
  | _ => none }
def FnExactAlarmsWrongFalsely : Prop := fnExactAlarmsRow.holds Try.pinned (OpenSpec.ofChange fnExactAlarmsWrong)

/-- 'laws.FnExactSpellsOk': WHATEVER THE INPUT: true; the input reads as it did. -/
def fnExactSpellsOkSpec : ChangeSpec := { name := "fnExactSpellsOk", fn := fun _ => fun
  | [d] => { results := [.lit (.bool true)], args := [d] }
  | _ => none }
def fnExactSpellsOkRow : OpenClaim := { program := "ytblkbonedgofiaa", sum := "96d25b62c12b724408f041d70a61969ae6c43872b406340deb4bef6d16fe73dc", func := "loop.example/g00059/laws.FnExactSpellsOk", spec := "fnExactSpellsOk", apart := false }
def FnExactSpellsOkSaid : Prop := fnExactSpellsOkRow.holds Try.pinned (OpenSpec.ofChange fnExactSpellsOkSpec)

/-- ITS FALSE NEIGHBOUR: 'it returns false'. Refute it at one input. -/
def fnExactSpellsOkWrong : ChangeSpec := { name := "fnExactSpellsOk", fn := fun _ => fun
  | [d] => { results := [.lit (.bool false)], args := [d] }
  | _ => none }
def FnExactSpellsOkWrongFalsely : Prop := fnExactSpellsOkRow.holds Try.pinned (OpenSpec.ofChange fnExactSpellsOkWrong)

/-- 'laws.FnExactWorkIn': WHATEVER THE INPUT: true; the input reads as it did. -/
def fnExactWorkInSpec : ChangeSpec := { name := "fnExactWorkIn", fn := fun _ => fun
  | [d1, d2, d3] => { results := [.lit (.bool true)], args := [d1, d2, d3] }
  | _ => none }
def fnExactWorkInRow : OpenClaim := { program := "ytblkbonedgofiaa", sum := "96d25b62c12b724408f041d70a61969ae6c43872b406340deb4bef6d16fe73dc", func := "loop.example/g00059/laws.FnExactWorkIn", spec := "fnExactWorkIn", apart := false }
def FnExactWorkInSaid : Prop := fnExactWorkInRow.holds Try.pinned (OpenSpec.ofChange fnExactWorkInSpec)

/-- ITS FALSE NEIGHBOUR: 'it returns false'. Refute it at one input. -/
def fnExactWorkInWrong : ChangeSpec := { name := "fnExactWorkIn", fn := fun _ => fun
  | [d1, d2, d3] => { results := [.lit (.bool false)], args := [d1, d2, d3] }
  | _ => none }
def FnExactWorkInWrongFalsely : Prop := fnExactWorkInRow.holds Try.pinned (OpenSpec.ofChange fnExactWorkInWrong)

/-- 'laws.FnExactRestCode': WHATEVER THE INPUT: true; the input reads as it did. -/
def fnExactRestCodeSpec : ChangeSpec := { name := "fnExactRestCode", fn := fun _ => fun
  | [d1, d2] => { results := [.lit (.bool true)], args := [d1, d2] }
  | _ => none }
def fnExactRestCodeRow : OpenClaim := { program := "ytblkbonedgofiaa", sum := "96d25b62c12b724408f041d70a61969ae6c43872b406340deb4bef6d16fe73dc", func := "loop.example/g00059/laws.FnExactRestCode", spec := "fnExactRestCode", apart := false }
def FnExactRestCodeSaid : Prop := fnExactRestCodeRow.holds Try.pinned (OpenSpec.ofChange fnExactRestCodeSpec)

/-- ITS FALSE NEIGHBOUR: 'it returns false'. Refute it at one input. -/
def fnExactRestCodeWrong : ChangeSpec := { name := "fnExactRestCode", fn := fun _ => fun
  | [d1, d2] => { results := [.lit (.bool false)], args := [d1, d2] }
  | _ => none }
def FnExactRestCodeWrongFalsely : Prop := fnExactRestCodeRow.holds Try.pinned (OpenSpec.ofChange fnExactRestCodeWrong)

/- THE SECOND FORM. 'bulk': how many values and letters a reading holds, each counted each time it is reached (what is shared counts as often as it is met; a slice's spare places count too). A statement '..UptoSaid' is the law's where the arguments, and the package variables that the reading takes, are together of bulk at most 1048576: NARROWER than '..Said'. Prove '..Said' where nothing that the law and all that it calls make is longer than what came in: it says more and counts as full. Else prove '..UptoSaid'. A law counts once. -/
mutual
def uptoBulk {H : Type} : DataW H → Nat
  | .lit (.string bytes) => bytes.length + 1
  | .lit _ => 1
  | .nil => 1
  | .ptr d => uptoBulk d + 1
  | .slice elems spare => uptoBulkAll elems + uptoBulkAll spare + 1
  | .agg parts => uptoBulkAll parts + 1
  | .iface _ d => uptoBulk d + 1
  | .map entries => uptoBulkEntries entries + 1
  | .held _ => 1
def uptoBulkAll {H : Type} : List (DataW H) → Nat
  | [] => 0
  | d :: r => uptoBulk d + uptoBulkAll r
def uptoBulkEntries {H : Type} : List (Lit × DataW H) → Nat
  | [] => 0
  | x :: r => uptoBulkEntry x + uptoBulkEntries r
def uptoBulkEntry {H : Type} : Lit × DataW H → Nat
  | (.string bytes, d) => bytes.length + uptoBulk d + 1
  | (_, d) => uptoBulk d + 1
 end
def uptoSmall : (H : Type) → List (DataW H) → Bool := fun _ ds => decide (uptoBulkAll ds ≤ 1048576)
def OpenSpec.upto (s : _root_.Go.ChangeSpec) : _root_.Go.OpenSpec := { _root_.Go.OpenSpec.ofChange s with cond := some uptoSmall }

/-- 'laws.FnRested', WHERE WHAT IT READS IS OF BULK AT MOST 1048576: true; the input reads as it did. -/
def fnRestedUptoRow : OpenClaim := { program := "ytblkbonedgofiaa", sum := "96d25b62c12b724408f041d70a61969ae6c43872b406340deb4bef6d16fe73dc", func := "loop.example/g00059/laws.FnRested", spec := "fnRested", apart := false, narrowed := true }
def FnRestedUptoSaid : Prop := fnRestedUptoRow.holds Try.pinned (OpenSpec.upto fnRestedSpec)

/-- 'laws.FnAlarms', WHERE WHAT IT READS IS OF BULK AT MOST 1048576: true; the input reads as it did. -/
def fnAlarmsUptoRow : OpenClaim := { program := "ytblkbonedgofiaa", sum := "96d25b62c12b724408f041d70a61969ae6c43872b406340deb4bef6d16fe73dc", func := "loop.example/g00059/laws.FnAlarms", spec := "fnAlarms", unfollowed := true, recurses := true, apart := false, narrowed := true }
def FnAlarmsUptoSaid : Prop := fnAlarmsUptoRow.holds Try.pinned (OpenSpec.upto fnAlarmsSpec)

/-- 'laws.FnBurn', WHERE WHAT IT READS IS OF BULK AT MOST 1048576: true; the input reads as it did. -/
def fnBurnUptoRow : OpenClaim := { program := "ytblkbonedgofiaa", sum := "96d25b62c12b724408f041d70a61969ae6c43872b406340deb4bef6d16fe73dc", func := "loop.example/g00059/laws.FnBurn", spec := "fnBurn", apart := false, narrowed := true }
def FnBurnUptoSaid : Prop := fnBurnUptoRow.holds Try.pinned (OpenSpec.upto fnBurnSpec)

/-- 'laws.FnExactBurn', WHERE WHAT IT READS IS OF BULK AT MOST 1048576: true; the input reads as it did. -/
def fnExactBurnUptoRow : OpenClaim := { program := "ytblkbonedgofiaa", sum := "96d25b62c12b724408f041d70a61969ae6c43872b406340deb4bef6d16fe73dc", func := "loop.example/g00059/laws.FnExactBurn", spec := "fnExactBurn", apart := false, narrowed := true }
def FnExactBurnUptoSaid : Prop := fnExactBurnUptoRow.holds Try.pinned (OpenSpec.upto fnExactBurnSpec)

/-- 'laws.FnExactAlarms', WHERE WHAT IT READS IS OF BULK AT MOST 1048576: true; the input reads as it did. -/
def fnExactAlarmsUptoRow : OpenClaim := { program := "ytblkbonedgofiaa", sum := "96d25b62c12b724408f041d70a61969ae6c43872b406340deb4bef6d16fe73dc", func := "loop.example/g00059/laws.FnExactAlarms", spec := "fnExactAlarms", unfollowed := true, recurses := true, apart := false, narrowed := true }
def FnExactAlarmsUptoSaid : Prop := fnExactAlarmsUptoRow.holds Try.pinned (OpenSpec.upto fnExactAlarmsSpec)

/-- 'laws.FnExactSpellsOk', WHERE WHAT IT READS IS OF BULK AT MOST 1048576: true; the input reads as it did. -/
def fnExactSpellsOkUptoRow : OpenClaim := { program := "ytblkbonedgofiaa", sum := "96d25b62c12b724408f041d70a61969ae6c43872b406340deb4bef6d16fe73dc", func := "loop.example/g00059/laws.FnExactSpellsOk", spec := "fnExactSpellsOk", apart := false, narrowed := true }
def FnExactSpellsOkUptoSaid : Prop := fnExactSpellsOkUptoRow.holds Try.pinned (OpenSpec.upto fnExactSpellsOkSpec)

/-- 'laws.FnExactWorkIn', WHERE WHAT IT READS IS OF BULK AT MOST 1048576: true; the input reads as it did. -/
def fnExactWorkInUptoRow : OpenClaim := { program := "ytblkbonedgofiaa", sum := "96d25b62c12b724408f041d70a61969ae6c43872b406340deb4bef6d16fe73dc", func := "loop.example/g00059/laws.FnExactWorkIn", spec := "fnExactWorkIn", apart := false, narrowed := true }
def FnExactWorkInUptoSaid : Prop := fnExactWorkInUptoRow.holds Try.pinned (OpenSpec.upto fnExactWorkInSpec)

/-- 'laws.FnExactRestCode', WHERE WHAT IT READS IS OF BULK AT MOST 1048576: true; the input reads as it did. -/
def fnExactRestCodeUptoRow : OpenClaim := { program := "ytblkbonedgofiaa", sum := "96d25b62c12b724408f041d70a61969ae6c43872b406340deb4bef6d16fe73dc", func := "loop.example/g00059/laws.FnExactRestCode", spec := "fnExactRestCode", apart := false, narrowed := true }
def FnExactRestCodeUptoSaid : Prop := fnExactRestCodeUptoRow.holds Try.pinned (OpenSpec.upto fnExactRestCodeSpec)

end Rows
end Go.Proofs.Ytblkbonedgofiaa

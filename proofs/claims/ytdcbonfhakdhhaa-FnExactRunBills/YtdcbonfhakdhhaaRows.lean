/-
  No cell of these rows narrows 'for every input' (looked for: loops, veiled, ifaces, maps, wideKeys, modest, calm, conditions, laid).
  DERIVED. THE GIVEN ROWS OF THIS SEAT. 3 by the template 'for every input the law returns true; each argument reads behind the call as it read before'; 0 by the template 'total and deterministic' (their statements: YtdcbonfhakdhhaaTotals.lean).
  GIVEN WITH THE SEED: the statements are not yours to turn. If you find one false, say at which input.
  Laid BY PROGRAM, IN A SANDBOX (cutbox-rows.mjs): the forced cells as the released guide's own fill.sh prints them over the translation 532e9ac384fe77f6… (all of the seat's roots in one cut). By AI agents, Wed Nov 11 2026. No macro, syntax, notation, axiom, sorry.
-/
import Derived.Test.YtdcbonfhakdhhaaChecked
import GoSem.Claim
import GoSem.ClaimJoined
import GoSem.ClaimMapViews
import Derived.JoinedTies
import Derived.KernelRfl
namespace Go.Proofs.Ytdcbonfhakdhhaa
/- THE CELL 'sum', in the pinned program and in every row, IS THE sha256 OF THE DUMP (.gsa) THAT YtdcbonfhakdhhaaProg.lean LOADS. Nothing in Lean hashes anything: it is a label: what it is worth is what the hold of that sum in a sandbox is worth. -/
noncomputable def Try.pinned : Pinned := { name := "ytdcbonfhakdhhaa", sum := "532e9ac384fe77f6f083f5457fdee10d9e8d3e0898f4defab1676806ebd58543", checked := Try.checked }
namespace Rows
def none {H : Type} : Left H := { results := [], args := [] }

/-- 'laws.FnTitle': WHATEVER THE INPUT: true; the input reads as it did. -/
def fnTitleSpec : ChangeSpec := { name := "fnTitle", fn := fun _ => fun
  | [d] => { results := [.lit (.bool true)], args := [d] }
  | _ => none }
def fnTitleRow : OpenClaim := { program := "ytdcbonfhakdhhaa", sum := "532e9ac384fe77f6f083f5457fdee10d9e8d3e0898f4defab1676806ebd58543", func := "loop.example/g00059/laws.FnTitle", spec := "fnTitle", inPlace := ["slices.overlaps[loop.example/g00059/impl.Bill]", "slices.overlaps[int]"], unfollowed := true, recurses := true, apart := false }
def FnTitleSaid : Prop := fnTitleRow.holds Try.pinned (OpenSpec.ofChange fnTitleSpec)

/-- ITS FALSE NEIGHBOUR: 'it returns false'. Refute it at one input. -/
def fnTitleWrong : ChangeSpec := { name := "fnTitle", fn := fun _ => fun
  | [d] => { results := [.lit (.bool false)], args := [d] }
  | _ => none }
def FnTitleWrongFalsely : Prop := fnTitleRow.holds Try.pinned (OpenSpec.ofChange fnTitleWrong)

/-- 'laws.FnExactDoBill': WHATEVER THE INPUT: true; the input reads as it did. -/
def fnExactDoBillSpec : ChangeSpec := { name := "fnExactDoBill", fn := fun _ => fun
  | [d1, d2] => { results := [.lit (.bool true)], args := [d1, d2] }
  | _ => none }
def fnExactDoBillRow : OpenClaim := { program := "ytdcbonfhakdhhaa", sum := "532e9ac384fe77f6f083f5457fdee10d9e8d3e0898f4defab1676806ebd58543", func := "loop.example/g00059/laws.FnExactDoBill", spec := "fnExactDoBill", inPlace := ["slices.overlaps[loop.example/g00059/impl.Bill]", "slices.overlaps[int]"], unfollowed := true, recurses := true, apart := false }
def FnExactDoBillSaid : Prop := fnExactDoBillRow.holds Try.pinned (OpenSpec.ofChange fnExactDoBillSpec)

/-- ITS FALSE NEIGHBOUR: 'it returns false'. Refute it at one input. -/
def fnExactDoBillWrong : ChangeSpec := { name := "fnExactDoBill", fn := fun _ => fun
  | [d1, d2] => { results := [.lit (.bool false)], args := [d1, d2] }
  | _ => none }
def FnExactDoBillWrongFalsely : Prop := fnExactDoBillRow.holds Try.pinned (OpenSpec.ofChange fnExactDoBillWrong)

/-- 'laws.FnExactRunBills': WHATEVER THE INPUT: true; the input reads as it did. -/
def fnExactRunBillsSpec : ChangeSpec := { name := "fnExactRunBills", fn := fun _ => fun
  | [d1, d2] => { results := [.lit (.bool true)], args := [d1, d2] }
  | _ => none }
def fnExactRunBillsRow : OpenClaim := { program := "ytdcbonfhakdhhaa", sum := "532e9ac384fe77f6f083f5457fdee10d9e8d3e0898f4defab1676806ebd58543", func := "loop.example/g00059/laws.FnExactRunBills", spec := "fnExactRunBills", inPlace := ["slices.overlaps[loop.example/g00059/impl.Bill]", "slices.overlaps[int]"], unfollowed := true, recurses := true, apart := false }
def FnExactRunBillsSaid : Prop := fnExactRunBillsRow.holds Try.pinned (OpenSpec.ofChange fnExactRunBillsSpec)

/-- ITS FALSE NEIGHBOUR: 'it returns false'. Refute it at one input. -/
def fnExactRunBillsWrong : ChangeSpec := { name := "fnExactRunBills", fn := fun _ => fun
  | [d1, d2] => { results := [.lit (.bool false)], args := [d1, d2] }
  | _ => none }
def FnExactRunBillsWrongFalsely : Prop := fnExactRunBillsRow.holds Try.pinned (OpenSpec.ofChange fnExactRunBillsWrong)

/- THE SECOND FORM. 'bulk': how many values and letters a reading holds, each counted each time it is reached (what is shared counts as often as it is met; a slice's spare places count too). A statement '..UptoSaid' is the law's where the arguments, and the package variables that the reading takes, are together of bulk at most 1048576: NARROWER than '..Said'. Prove '..Said' where nothing that the law and all that it calls make is longer than what came in: it says more and counts as full. Else prove '..UptoSaid'. A law counts once. -/
mutual
def uptoBulk {H : Type} : DataW H → Nat
  | .lit (.string bytes) => bytes.length + 1
  | .lit _ => 1
  | .nil => 1
  | .ptr d => uptoBulk d + 1
  | .slice elems spare => uptoBulkAll elems + uptoBulkAll spare + 1
  | .agg parts => uptoBulkAll parts + 1
  | .iface _ d => uptoBulk d + 1
  | .map entries => uptoBulkEntries entries + 1
  | .held _ => 1
def uptoBulkAll {H : Type} : List (DataW H) → Nat
  | [] => 0
  | d :: r => uptoBulk d + uptoBulkAll r
def uptoBulkEntries {H : Type} : List (Lit × DataW H) → Nat
  | [] => 0
  | x :: r => uptoBulkEntry x + uptoBulkEntries r
def uptoBulkEntry {H : Type} : Lit × DataW H → Nat
  | (.string bytes, d) => bytes.length + uptoBulk d + 1
  | (_, d) => uptoBulk d + 1
 end
def uptoSmall : (H : Type) → List (DataW H) → Bool := fun _ ds => decide (uptoBulkAll ds ≤ 1048576)
def OpenSpec.upto (s : _root_.Go.ChangeSpec) : _root_.Go.OpenSpec := { _root_.Go.OpenSpec.ofChange s with cond := some uptoSmall }

/-- 'laws.FnTitle', WHERE WHAT IT READS IS OF BULK AT MOST 1048576: true; the input reads as it did. -/
def fnTitleUptoRow : OpenClaim := { program := "ytdcbonfhakdhhaa", sum := "532e9ac384fe77f6f083f5457fdee10d9e8d3e0898f4defab1676806ebd58543", func := "loop.example/g00059/laws.FnTitle", spec := "fnTitle", inPlace := ["slices.overlaps[loop.example/g00059/impl.Bill]", "slices.overlaps[int]"], unfollowed := true, recurses := true, apart := false, narrowed := true }
def FnTitleUptoSaid : Prop := fnTitleUptoRow.holds Try.pinned (OpenSpec.upto fnTitleSpec)

/-- 'laws.FnExactDoBill', WHERE WHAT IT READS IS OF BULK AT MOST 1048576: true; the input reads as it did. -/
def fnExactDoBillUptoRow : OpenClaim := { program := "ytdcbonfhakdhhaa", sum := "532e9ac384fe77f6f083f5457fdee10d9e8d3e0898f4defab1676806ebd58543", func := "loop.example/g00059/laws.FnExactDoBill", spec := "fnExactDoBill", inPlace := ["slices.overlaps[loop.example/g00059/impl.Bill]", "slices.overlaps[int]"], unfollowed := true, recurses := true, apart := false, narrowed := true }
def FnExactDoBillUptoSaid : Prop := fnExactDoBillUptoRow.holds Try.pinned (OpenSpec.upto fnExactDoBillSpec)

/-- 'laws.FnExactRunBills', WHERE WHAT IT READS IS OF BULK AT MOST 1048576: true; the input reads as it did. -/
def fnExactRunBillsUptoRow : OpenClaim := { program := "ytdcbonfhakdhhaa", sum := "532e9ac384fe77f6f083f5457fdee10d9e8d3e0898f4defab1676806ebd58543", func := "loop.example/g00059/laws.FnExactRunBills", spec := "fnExactRunBills", inPlace := ["slices.overlaps[loop.example/g00059/impl.Bill]", "slices.overlaps[int]"], unfollowed := true, recurses := true, apart := false, narrowed := true }
def FnExactRunBillsUptoSaid : Prop := fnExactRunBillsUptoRow.holds Try.pinned (OpenSpec.upto fnExactRunBillsSpec)

end Rows
end Go.Proofs.Ytdcbonfhakdhhaa

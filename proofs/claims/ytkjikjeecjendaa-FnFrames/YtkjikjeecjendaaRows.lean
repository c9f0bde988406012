/-
  No cell of these rows narrows 'for every input' (looked for: loops, veiled, ifaces, maps, wideKeys, modest, calm, conditions, laid).
  DERIVED. THE GIVEN ROWS OF THIS SEAT. 10 by the template 'for every input the law returns true; each argument reads behind the call as it read before'; 0 by the template 'total and deterministic' (their statements: YtkjikjeecjendaaTotals.lean).
  GIVEN WITH THE SEED: the statements are not yours to turn. If you find one false, say at which input.
  Laid BY PROGRAM, IN A SANDBOX (cutbox-rows.mjs): the forced cells as the released guide's own fill.sh prints them over the translation b8e2b7b86f6d8c60… (all of the seat's roots in one cut). By AI agents, Wed Nov 11 2026. No macro, syntax, notation, axiom, sorry.
-/
import Derived.Test.YtkjikjeecjendaaChecked
import GoSem.Claim
import GoSem.ClaimJoined
import GoSem.ClaimMapViews
import Derived.JoinedTies
import Derived.KernelRfl
namespace Go.Proofs.Ytkjikjeecjendaa
/- THE CELL 'sum', in the pinned program and in every row, IS THE sha256 OF THE DUMP (.gsa) THAT YtkjikjeecjendaaProg.lean LOADS. Nothing in Lean hashes anything: it is a label: what it is worth is what the hold of that sum in a sandbox is worth. -/
noncomputable def Try.pinned : Pinned := { name := "ytkjikjeecjendaa", sum := "b8e2b7b86f6d8c60a49c4bdaa35382122148d59ecab8af33e10c2d4b8a8016b7", checked := Try.checked }
namespace Rows
def none {H : Type} : Left H := { results := [], args := [] }

/-- 'laws.FnFrames': WHATEVER THE INPUT: true; the input reads as it did. -/
def fnFramesSpec : ChangeSpec := { name := "fnFrames", fn := fun _ => fun
  | [d] => { results := [.lit (.bool true)], args := [d] }
  | _ => none }
def fnFramesRow : OpenClaim := { program := "ytkjikjeecjendaa", sum := "b8e2b7b86f6d8c60a49c4bdaa35382122148d59ecab8af33e10c2d4b8a8016b7", func := "loop.example/g00059/laws.FnFrames", spec := "fnFrames", apart := false }
def FnFramesSaid : Prop := fnFramesRow.holds Try.pinned (OpenSpec.ofChange fnFramesSpec)

/-- ITS FALSE NEIGHBOUR: 'it returns false'. Refute it at one input. -/
def fnFramesWrong : ChangeSpec := { name := "fnFrames", fn := fun _ => fun
  | [d] => { results := [.lit (.bool false)], args := [d] }
  | _ => none }
def FnFramesWrongFalsely : Prop := fnFramesRow.holds Try.pinned (OpenSpec.ofChange fnFramesWrong)

/-- 'laws.FnSettled': WHATEVER THE INPUT: true; the input reads as it did. -/
def fnSettledSpec : ChangeSpec := { name := "fnSettled", fn := fun _ => fun
  | [d] => { results := [.lit (.bool true)], args := [d] }
  | _ => none }
def fnSettledRow : OpenClaim := { program := "ytkjikjeecjendaa", sum := "b8e2b7b86f6d8c60a49c4bdaa35382122148d59ecab8af33e10c2d4b8a8016b7", func := "loop.example/g00059/laws.FnSettled", spec := "fnSettled", inPlace := ["sync/atomic.AddInt32", "sync/atomic.LoadInt32"], apart := false }
def FnSettledSaid : Prop := fnSettledRow.holds Try.pinned (OpenSpec.ofChange fnSettledSpec)

/-- ITS FALSE NEIGHBOUR: 'it returns false'. Refute it at one input. -/
def fnSettledWrong : ChangeSpec := { name := "fnSettled", fn := fun _ => fun
  | [d] => { results := [.lit (.bool false)], args := [d] }
  | _ => none }
def FnSettledWrongFalsely : Prop := fnSettledRow.holds Try.pinned (OpenSpec.ofChange fnSettledWrong)

/-- 'laws.FnExactReportOk': WHATEVER THE INPUT: true; the input reads as it did. -/
def fnExactReportOkSpec : ChangeSpec := { name := "fnExactReportOk", fn := fun _ => fun
  | [d] => { results := [.lit (.bool true)], args := [d] }
  | _ => none }
def fnExactReportOkRow : OpenClaim := { program := "ytkjikjeecjendaa", sum := "b8e2b7b86f6d8c60a49c4bdaa35382122148d59ecab8af33e10c2d4b8a8016b7", func := "loop.example/g00059/laws.FnExactReportOk", spec := "fnExactReportOk", apart := false }
def FnExactReportOkSaid : Prop := fnExactReportOkRow.holds Try.pinned (OpenSpec.ofChange fnExactReportOkSpec)

/-- ITS FALSE NEIGHBOUR: 'it returns false'. Refute it at one input. -/
def fnExactReportOkWrong : ChangeSpec := { name := "fnExactReportOk", fn := fun _ => fun
  | [d] => { results := [.lit (.bool false)], args := [d] }
  | _ => none }
def FnExactReportOkWrongFalsely : Prop := fnExactReportOkRow.holds Try.pinned (OpenSpec.ofChange fnExactReportOkWrong)

/-- 'laws.FnExactPackReport': WHATEVER THE INPUT: true; the input reads as it did. -/
def fnExactPackReportSpec : ChangeSpec := { name := "fnExactPackReport", fn := fun _ => fun
  | [d] => { results := [.lit (.bool true)], args := [d] }
  | _ => none }
def fnExactPackReportRow : OpenClaim := { program := "ytkjikjeecjendaa", sum := "b8e2b7b86f6d8c60a49c4bdaa35382122148d59ecab8af33e10c2d4b8a8016b7", func := "loop.example/g00059/laws.FnExactPackReport", spec := "fnExactPackReport", apart := false }
def FnExactPackReportSaid : Prop := fnExactPackReportRow.holds Try.pinned (OpenSpec.ofChange fnExactPackReportSpec)

/-- ITS FALSE NEIGHBOUR: 'it returns false'. Refute it at one input. -/
def fnExactPackReportWrong : ChangeSpec := { name := "fnExactPackReport", fn := fun _ => fun
  | [d] => { results := [.lit (.bool false)], args := [d] }
  | _ => none }
def FnExactPackReportWrongFalsely : Prop := fnExactPackReportRow.holds Try.pinned (OpenSpec.ofChange fnExactPackReportWrong)

/-- 'laws.FnExactReadReport': WHATEVER THE INPUT: true; the input reads as it did. -/
def fnExactReadReportSpec : ChangeSpec := { name := "fnExactReadReport", fn := fun _ => fun
  | [d] => { results := [.lit (.bool true)], args := [d] }
  | _ => none }
def fnExactReadReportRow : OpenClaim := { program := "ytkjikjeecjendaa", sum := "b8e2b7b86f6d8c60a49c4bdaa35382122148d59ecab8af33e10c2d4b8a8016b7", func := "loop.example/g00059/laws.FnExactReadReport", spec := "fnExactReadReport", apart := false }
def FnExactReadReportSaid : Prop := fnExactReadReportRow.holds Try.pinned (OpenSpec.ofChange fnExactReadReportSpec)

/-- ITS FALSE NEIGHBOUR: 'it returns false'. Refute it at one input. -/
def fnExactReadReportWrong : ChangeSpec := { name := "fnExactReadReport", fn := fun _ => fun
  | [d] => { results := [.lit (.bool false)], args := [d] }
  | _ => none }
def FnExactReadReportWrongFalsely : Prop := fnExactReadReportRow.holds Try.pinned (OpenSpec.ofChange fnExactReadReportWrong)

/-- 'laws.FnExactRadiosOk': WHATEVER THE INPUT: true; the input reads as it did. -/
def fnExactRadiosOkSpec : ChangeSpec := { name := "fnExactRadiosOk", fn := fun _ => fun
  | [d] => { results := [.lit (.bool true)], args := [d] }
  | _ => none }
def fnExactRadiosOkRow : OpenClaim := { program := "ytkjikjeecjendaa", sum := "b8e2b7b86f6d8c60a49c4bdaa35382122148d59ecab8af33e10c2d4b8a8016b7", func := "loop.example/g00059/laws.FnExactRadiosOk", spec := "fnExactRadiosOk", apart := false }
def FnExactRadiosOkSaid : Prop := fnExactRadiosOkRow.holds Try.pinned (OpenSpec.ofChange fnExactRadiosOkSpec)

/-- ITS FALSE NEIGHBOUR: 'it returns false'. Refute it at one input. -/
def fnExactRadiosOkWrong : ChangeSpec := { name := "fnExactRadiosOk", fn := fun _ => fun
  | [d] => { results := [.lit (.bool false)], args := [d] }
  | _ => none }
def FnExactRadiosOkWrongFalsely : Prop := fnExactRadiosOkRow.holds Try.pinned (OpenSpec.ofChange fnExactRadiosOkWrong)

/-- 'laws.FnExactClashes': WHATEVER THE INPUT: true; the input reads as it did. -/
def fnExactClashesSpec : ChangeSpec := { name := "fnExactClashes", fn := fun _ => fun
  | [d] => { results := [.lit (.bool true)], args := [d] }
  | _ => none }
def fnExactClashesRow : OpenClaim := { program := "ytkjikjeecjendaa", sum := "b8e2b7b86f6d8c60a49c4bdaa35382122148d59ecab8af33e10c2d4b8a8016b7", func := "loop.example/g00059/laws.FnExactClashes", spec := "fnExactClashes", inPlace := ["sync/atomic.AddInt32", "sync/atomic.LoadInt32"], apart := false }
def FnExactClashesSaid : Prop := fnExactClashesRow.holds Try.pinned (OpenSpec.ofChange fnExactClashesSpec)

/-- ITS FALSE NEIGHBOUR: 'it returns false'. Refute it at one input. -/
def fnExactClashesWrong : ChangeSpec := { name := "fnExactClashes", fn := fun _ => fun
  | [d] => { results := [.lit (.bool false)], args := [d] }
  | _ => none }
def FnExactClashesWrongFalsely : Prop := fnExactClashesRow.holds Try.pinned (OpenSpec.ofChange fnExactClashesWrong)

/-- 'laws.FnExactChoose': WHATEVER THE INPUT: true; the input reads as it did. -/
def fnExactChooseSpec : ChangeSpec := { name := "fnExactChoose", fn := fun _ => fun
  | [d1, d2, d3] => { results := [.lit (.bool true)], args := [d1, d2, d3] }
  | _ => none }
def fnExactChooseRow : OpenClaim := { program := "ytkjikjeecjendaa", sum := "b8e2b7b86f6d8c60a49c4bdaa35382122148d59ecab8af33e10c2d4b8a8016b7", func := "loop.example/g00059/laws.FnExactChoose", spec := "fnExactChoose", inPlace := ["sync/atomic.AddInt32", "sync/atomic.LoadInt32"], apart := false }
def FnExactChooseSaid : Prop := fnExactChooseRow.holds Try.pinned (OpenSpec.ofChange fnExactChooseSpec)

/-- ITS FALSE NEIGHBOUR: 'it returns false'. Refute it at one input. -/
def fnExactChooseWrong : ChangeSpec := { name := "fnExactChoose", fn := fun _ => fun
  | [d1, d2, d3] => { results := [.lit (.bool false)], args := [d1, d2, d3] }
  | _ => none }
def FnExactChooseWrongFalsely : Prop := fnExactChooseRow.holds Try.pinned (OpenSpec.ofChange fnExactChooseWrong)

/-- 'laws.FnExactSettle': WHATEVER THE INPUT: true; the input reads as it did. -/
def fnExactSettleSpec : ChangeSpec := { name := "fnExactSettle", fn := fun _ => fun
  | [d1, d2] => { results := [.lit (.bool true)], args := [d1, d2] }
  | _ => none }
def fnExactSettleRow : OpenClaim := { program := "ytkjikjeecjendaa", sum := "b8e2b7b86f6d8c60a49c4bdaa35382122148d59ecab8af33e10c2d4b8a8016b7", func := "loop.example/g00059/laws.FnExactSettle", spec := "fnExactSettle", inPlace := ["sync/atomic.AddInt32", "sync/atomic.LoadInt32"], apart := false }
def FnExactSettleSaid : Prop := fnExactSettleRow.holds Try.pinned (OpenSpec.ofChange fnExactSettleSpec)

/-- ITS FALSE NEIGHBOUR: 'it returns false'. Refute it at one input. -/
def fnExactSettleWrong : ChangeSpec := { name := "fnExactSettle", fn := fun _ => fun
  | [d1, d2] => { results := [.lit (.bool false)], args := [d1, d2] }
  | _ => none }
def FnExactSettleWrongFalsely : Prop := fnExactSettleRow.holds Try.pinned (OpenSpec.ofChange fnExactSettleWrong)

/-- 'laws.FnExactRelay': WHATEVER THE INPUT: true; the input reads as it did. -/
def fnExactRelaySpec : ChangeSpec := { name := "fnExactRelay", fn := fun _ => fun
  | [d1, d2] => { results := [.lit (.bool true)], args := [d1, d2] }
  | _ => none }
def fnExactRelayRow : OpenClaim := { program := "ytkjikjeecjendaa", sum := "b8e2b7b86f6d8c60a49c4bdaa35382122148d59ecab8af33e10c2d4b8a8016b7", func := "loop.example/g00059/laws.FnExactRelay", spec := "fnExactRelay", apart := false }
def FnExactRelaySaid : Prop := fnExactRelayRow.holds Try.pinned (OpenSpec.ofChange fnExactRelaySpec)

/-- ITS FALSE NEIGHBOUR: 'it returns false'. Refute it at one input. -/
def fnExactRelayWrong : ChangeSpec := { name := "fnExactRelay", fn := fun _ => fun
  | [d1, d2] => { results := [.lit (.bool false)], args := [d1, d2] }
  | _ => none }
def FnExactRelayWrongFalsely : Prop := fnExactRelayRow.holds Try.pinned (OpenSpec.ofChange fnExactRelayWrong)

/- THE SECOND FORM. 'bulk': how many values and letters a reading holds, each counted each time it is reached (what is shared counts as often as it is met; a slice's spare places count too). A statement '..UptoSaid' is the law's where the arguments, and the package variables that the reading takes, are together of bulk at most 1048576: NARROWER than '..Said'. Prove '..Said' where nothing that the law and all that it calls make is longer than what came in: it says more and counts as full. Else prove '..UptoSaid'. A law counts once. -/
mutual
def uptoBulk {H : Type} : DataW H → Nat
  | .lit (.string bytes) => bytes.length + 1
  | .lit _ => 1
  | .nil => 1
  | .ptr d => uptoBulk d + 1
  | .slice elems spare => uptoBulkAll elems + uptoBulkAll spare + 1
  | .agg parts => uptoBulkAll parts + 1
  | .iface _ d => uptoBulk d + 1
  | .map entries => uptoBulkEntries entries + 1
  | .held _ => 1
def uptoBulkAll {H : Type} : List (DataW H) → Nat
  | [] => 0
  | d :: r => uptoBulk d + uptoBulkAll r
def uptoBulkEntries {H : Type} : List (Lit × DataW H) → Nat
  | [] => 0
  | x :: r => uptoBulkEntry x + uptoBulkEntries r
def uptoBulkEntry {H : Type} : Lit × DataW H → Nat
  | (.string bytes, d) => bytes.length + uptoBulk d + 1
  | (_, d) => uptoBulk d + 1
 end
def uptoSmall : (H : Type) → List (DataW H) → Bool := fun _ ds => decide (uptoBulkAll ds ≤ 1048576)
def OpenSpec.upto (s : _root_.Go.ChangeSpec) : _root_.Go.OpenSpec := { _root_.Go.OpenSpec.ofChange s with cond := some uptoSmall }

/-- 'laws.FnFrames', WHERE WHAT IT READS IS OF BULK AT MOST 1048576: true; the input reads as it did. -/
def fnFramesUptoRow : OpenClaim := { program := "ytkjikjeecjendaa", sum := "b8e2b7b86f6d8c60a49c4bdaa35382122148d59ecab8af33e10c2d4b8a8016b7", func := "loop.example/g00059/laws.FnFrames", spec := "fnFrames", apart := false, narrowed := true }
def FnFramesUptoSaid : Prop := fnFramesUptoRow.holds Try.pinned (OpenSpec.upto fnFramesSpec)

/-- 'laws.FnSettled', WHERE WHAT IT READS IS OF BULK AT MOST 1048576: true; the input reads as it did. -/
def fnSettledUptoRow : OpenClaim := { program := "ytkjikjeecjendaa", sum := "b8e2b7b86f6d8c60a49c4bdaa35382122148d59ecab8af33e10c2d4b8a8016b7", func := "loop.example/g00059/laws.FnSettled", spec := "fnSettled", inPlace := ["sync/atomic.AddInt32", "sync/atomic.LoadInt32"], apart := false, narrowed := true }
def FnSettledUptoSaid : Prop := fnSettledUptoRow.holds Try.pinned (OpenSpec.upto fnSettledSpec)

/-- 'laws.FnExactReportOk', WHERE WHAT IT READS IS OF BULK AT MOST 1048576: true; the input reads as it did. -/
def fnExactReportOkUptoRow : OpenClaim := { program := "ytkjikjeecjendaa", sum := "b8e2b7b86f6d8c60a49c4bdaa35382122148d59ecab8af33e10c2d4b8a8016b7", func := "loop.example/g00059/laws.FnExactReportOk", spec := "fnExactReportOk", apart := false, narrowed := true }
def FnExactReportOkUptoSaid : Prop := fnExactReportOkUptoRow.holds Try.pinned (OpenSpec.upto fnExactReportOkSpec)

/-- 'laws.FnExactPackReport', WHERE WHAT IT READS IS OF BULK AT MOST 1048576: true; the input reads as it did. -/
def fnExactPackReportUptoRow : OpenClaim := { program := "ytkjikjeecjendaa", sum := "b8e2b7b86f6d8c60a49c4bdaa35382122148d59ecab8af33e10c2d4b8a8016b7", func := "loop.example/g00059/laws.FnExactPackReport", spec := "fnExactPackReport", apart := false, narrowed := true }
def FnExactPackReportUptoSaid : Prop := fnExactPackReportUptoRow.holds Try.pinned (OpenSpec.upto fnExactPackReportSpec)

/-- 'laws.FnExactReadReport', WHERE WHAT IT READS IS OF BULK AT MOST 1048576: true; the input reads as it did. -/
def fnExactReadReportUptoRow : OpenClaim := { program := "ytkjikjeecjendaa", sum := "b8e2b7b86f6d8c60a49c4bdaa35382122148d59ecab8af33e10c2d4b8a8016b7", func := "loop.example/g00059/laws.FnExactReadReport", spec := "fnExactReadReport", apart := false, narrowed := true }
def FnExactReadReportUptoSaid : Prop := fnExactReadReportUptoRow.holds Try.pinned (OpenSpec.upto fnExactReadReportSpec)

/-- 'laws.FnExactRadiosOk', WHERE WHAT IT READS IS OF BULK AT MOST 1048576: true; the input reads as it did. -/
def fnExactRadiosOkUptoRow : OpenClaim := { program := "ytkjikjeecjendaa", sum := "b8e2b7b86f6d8c60a49c4bdaa35382122148d59ecab8af33e10c2d4b8a8016b7", func := "loop.example/g00059/laws.FnExactRadiosOk", spec := "fnExactRadiosOk", apart := false, narrowed := true }
def FnExactRadiosOkUptoSaid : Prop := fnExactRadiosOkUptoRow.holds Try.pinned (OpenSpec.upto fnExactRadiosOkSpec)

/-- 'laws.FnExactClashes', WHERE WHAT IT READS IS OF BULK AT MOST 1048576: true; the input reads as it did. -/
def fnExactClashesUptoRow : OpenClaim := { program := "ytkjikjeecjendaa", sum := "b8e2b7b86f6d8c60a49c4bdaa35382122148d59ecab8af33e10c2d4b8a8016b7", func := "loop.example/g00059/laws.FnExactClashes", spec := "fnExactClashes", inPlace := ["sync/atomic.AddInt32", "sync/atomic.LoadInt32"], apart := false, narrowed := true }
def FnExactClashesUptoSaid : Prop := fnExactClashesUptoRow.holds Try.pinned (OpenSpec.upto fnExactClashesSpec)

/-- 'laws.FnExactChoose', WHERE WHAT IT READS IS OF BULK AT MOST 1048576: true; the input reads as it did. -/
def fnExactChooseUptoRow : OpenClaim := { program := "ytkjikjeecjendaa", sum := "b8e2b7b86f6d8c60a49c4bdaa35382122148d59ecab8af33e10c2d4b8a8016b7", func := "loop.example/g00059/laws.FnExactChoose", spec := "fnExactChoose", inPlace := ["sync/atomic.AddInt32", "sync/atomic.LoadInt32"], apart := false, narrowed := true }
def FnExactChooseUptoSaid : Prop := fnExactChooseUptoRow.holds Try.pinned (OpenSpec.upto fnExactChooseSpec)

/-- 'laws.FnExactSettle', WHERE WHAT IT READS IS OF BULK AT MOST 1048576: true; the input reads as it did. -/
def fnExactSettleUptoRow : OpenClaim := { program := "ytkjikjeecjendaa", sum := "b8e2b7b86f6d8c60a49c4bdaa35382122148d59ecab8af33e10c2d4b8a8016b7", func := "loop.example/g00059/laws.FnExactSettle", spec := "fnExactSettle", inPlace := ["sync/atomic.AddInt32", "sync/atomic.LoadInt32"], apart := false, narrowed := true }
def FnExactSettleUptoSaid : Prop := fnExactSettleUptoRow.holds Try.pinned (OpenSpec.upto fnExactSettleSpec)

/-- 'laws.FnExactRelay', WHERE WHAT IT READS IS OF BULK AT MOST 1048576: true; the input reads as it did. -/
def fnExactRelayUptoRow : OpenClaim := { program := "ytkjikjeecjendaa", sum := "b8e2b7b86f6d8c60a49c4bdaa35382122148d59ecab8af33e10c2d4b8a8016b7", func := "loop.example/g00059/laws.FnExactRelay", spec := "fnExactRelay", apart := false, narrowed := true }
def FnExactRelayUptoSaid : Prop := fnExactRelayUptoRow.holds Try.pinned (OpenSpec.upto fnExactRelaySpec)

end Rows
end Go.Proofs.Ytkjikjeecjendaa

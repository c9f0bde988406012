/- Records of Report (ints and texts): words; contracts of the laws' own szReport, szReportS, toReport, toReportS, eqReport, eqReportS, markReportS, heldReportS. Written by wip/mkrecm.py. -/
import Derived.Test.YtkjikjeecjendaaWalkF
import Derived.Test.YtkjikjeecjendaaMrA
import Derived.Test.YtkjikjeecjendaaMtA
import Derived.Test.YtkjikjeecjendaaExactKit
namespace Go.Proofs.Ytkjikjeecjendaa
open Go.RowKit

abbrev ReportT := Int × Int × Int × Int × Int × Int
def eReport (x : ReportT) : Nat → Value
  | 0 => .int .i64 x.1
  | 1 => .int .i64 x.2.1
  | 2 => .int .i64 x.2.2.1
  | 3 => .int .i64 x.2.2.2.1
  | 4 => .int .i64 x.2.2.2.2.1
  | _ => .int .i64 x.2.2.2.2.2
def vReport (x0 : Int) (x1 : Int) (x2 : Int) (x3 : Int) (x4 : Int) (x5 : Int) : Value := .agg #[.int .i64 x0, .int .i64 x1, .int .i64 x2, .int .i64 x3, .int .i64 x4, .int .i64 x5]
abbrev RReport := RecsIn 6 eReport
theorem recReportAt {w : World} {ao : Option Addr} {L : List ReportT} {k : Nat} (h : ∀ i, i < L.length → ∃ b o, ao = some ⟨b, o, none⟩ ∧ ∀ j, j < 6 → w.cell? ⟨b, o + (i * 6 + j), none⟩ = some (eReport (L.getD i default) j)) (hk : k < L.length) :
    ∃ b o x0 x1 x2 x3 x4 x5, ao = some ⟨b, o, none⟩ ∧ w.cell? ⟨b, o + k * 6, none⟩ = some (.int .i64 x0) ∧ w.cell? ⟨b, o + k * 6 + 1, none⟩ = some (.int .i64 x1) ∧ w.cell? ⟨b, o + k * 6 + 2, none⟩ = some (.int .i64 x2) ∧ w.cell? ⟨b, o + k * 6 + 3, none⟩ = some (.int .i64 x3) ∧ w.cell? ⟨b, o + k * 6 + 4, none⟩ = some (.int .i64 x4) ∧ w.cell? ⟨b, o + k * 6 + 5, none⟩ = some (.int .i64 x5) ∧ Hid (L.getD k default = (x0, x1, x2, x3, x4, x5)) := by
  obtain ⟨b, o, e, hc⟩ := h k hk
  exact ⟨b, o, _, _, _, _, _, _, e, hc 0 (by omega), hc 1 (by omega), hc 2 (by omega), hc 3 (by omega), hc 4 (by omega), hc 5 (by omega), rfl⟩
theorem Try.infoReport : (Try.prog.info? 25).map (fun i => (i.zero, i.size, i.bytes)) = some (some (vReport 0 0 0 0 0 0), 6, 48) := by kernel_rfl

set_option maxHeartbeats 800000 in
theorem toReport_any (x0 : Int) (x1 : Int) (x2 : Int) (x3 : Int) (x4 : Int) (x5 : Int) (w : World) :
    Calls Try.prog 28 #[vReport x0 x1 x2 x3 x4 x5] w fun e w' => e = .returned (vReport x0 x1 x2 x3 x4 x5) ∧ Below w.heap.size w w' := by
  unfold vReport
  go_enter Try.func28, Try.ntmps28
  go_wp2
  refine bodyPost_ret (v := vReport x0 x1 x2 x3 x4 x5) (by simp [results, Try.results28, go_sem, vReport]) rfl ⟨rfl, ?_⟩
  exact (((Below.refl _ _).alloc (Nat.le_refl _) _).alloc (by simp) _).alloc (by simp; omega) _

set_option maxHeartbeats 800000 in
theorem eqReport_any (x0 : Int) (x1 : Int) (x2 : Int) (x3 : Int) (x4 : Int) (x5 : Int) (w : World) :
    Calls Try.prog 35 #[vReport x0 x1 x2 x3 x4 x5, vReport x0 x1 x2 x3 x4 x5] w fun e w' => e = .returned (.bool true) ∧ Below w.heap.size w w' := by
  unfold vReport
  go_enter Try.func35, Try.ntmps35
  go_wp2
  go_ret
  exact ⟨rfl, ((Below.refl _ _).alloc (Nat.le_refl _) _).alloc (by simp) _⟩

/-- The marks of ReportS, from k on. -/
def mkReport (k : Int) (q : Nat) : Value := .int .i64 (k + (q : Int))

end Go.Proofs.Ytkjikjeecjendaa

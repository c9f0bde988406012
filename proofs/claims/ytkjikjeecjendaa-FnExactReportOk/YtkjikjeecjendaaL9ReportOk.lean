/- The law of ReportOk, walked. Written by wip/mk9.py. -/
import Derived.Test.YtkjikjeecjendaaFmA
import Derived.Test.YtkjikjeecjendaaRgI
namespace Go.Proofs.Ytkjikjeecjendaa
open Go.RowKit

set_option maxRecDepth 10000 in
set_option maxHeartbeats 3200000 in
theorem lawReportOk_any (ax ay au av ak ad : Int) (w : World) : Calls Try.prog 5 #[vReport ax ay au av ak ad] w fun e w' => e = .returned (.bool true) ∧ Below w.heap.size w w' := by
  have HB := hide (bk_one w #[.int .i64 ax, .int .i64 ay, .int .i64 au, .int .i64 av, .int .i64 ak, .int .i64 ad] 49)
  have HT := hide fun W => toReport_any ax ay au av ak ad W
  have HS := hide fun W => specReportOk_any ax ay au av ak ad W
  have HI := hide fun W => implReportOk_any ax ay au av ak ad W
  obtain ⟨V, eV⟩ : ∃ V, V = repB ax ay au av ak ad := ⟨_, rfl⟩
  rw [← eV] at HS HI
  clear eV
  unfold vReport at HT HS HI ⊢
  go_enter Try.func5, Try.ntmps5
  go_wp2_with fail
  refine (unhide HT _).mono ?_
  rintro e w1 ⟨rfl, hb⟩
  replace HB := hide ((unhide HB).step hb)
  clear hb
  go_wp2_with fail
  refine (unhide HS _).mono ?_
  rintro e w2 ⟨rfl, hb⟩
  replace HB := hide ((unhide HB).step hb)
  clear hb
  have hq := (unhide HB).ownV (k := 0) rfl
  have c0 := hq.cell (i := 0) rfl
  have c1 := hq.cell (i := 1) rfl
  have c2 := hq.cell (i := 2) rfl
  have c3 := hq.cell (i := 3) rfl
  have c4 := hq.cell (i := 4) rfl
  have c5 := hq.cell (i := 5) rfl
  clear hq
  go_wp2_with fail
  refine (unhide HT _).mono ?_
  rintro e w3 ⟨rfl, hb⟩
  replace HB := hide ((unhide HB).step hb)
  clear hb
  clear c0 c1 c2 c3 c4 c5
  go_wp2_with fail
  refine (unhide HI _).mono ?_
  rintro e w4 ⟨rfl, hb⟩
  replace HB := hide ((unhide HB).step hb)
  clear hb
  have HW := hide (unhide HB).below
  cases V <;> (go_wp2; go_ret; exact ⟨rfl, unhide HW⟩)

end Go.Proofs.Ytkjikjeecjendaa

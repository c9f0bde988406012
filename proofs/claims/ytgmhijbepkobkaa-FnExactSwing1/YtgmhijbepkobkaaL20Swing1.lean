/- The law of Swing1, walked. Written by wip/mk20.py. -/
import Derived.Test.YtgmhijbepkobkaaHoA
namespace Go.Proofs.Ytgmhijbepkobkaa
open Go.RowKit

set_option maxRecDepth 100000 in
set_option maxHeartbeats 8000000 in
theorem lawSwing1_any (a o s p : Int) (w : World) : Calls Try.prog 6 #[vSway a o s, .int .i64 p] w fun e w' => e = .returned (.bool true) ∧ Below w.heap.size w w' := by
  have HB := hide (bk_one w #[.int .i64 a, .int .i64 o, .int .i64 s] 49)
  have HT := hide fun W => toSway_any a o s W
  have HS := hide fun W => specSwing1_any a o s p W
  have HI := hide fun W => implSwing1_any a o s p W
  obtain ⟨y0, y1, y2, ey⟩ : ∃ y0 y1 y2, swgV a o s p = vSway y0 y1 y2 := by
    unfold swgV
    cases swgB a o s p
    · exact ⟨_, _, _, rfl⟩
    · exact ⟨_, _, _, rfl⟩
  rw [ey] at HS HI
  have HE := hide fun W => eqSway_any y0 y1 y2 W
  obtain ⟨b, eb⟩ : ∃ b, b = swgB a o s p := ⟨_, rfl⟩
  rw [← eb] at HS HI
  clear ey eb
  unfold vSway at HT HS HI HE ⊢
  go_enter Try.func6, Try.ntmps6
  go_wp2_with fail
  refine (unhide HT _).mono ?_
  rintro e w1 ⟨rfl, hb⟩
  replace HB := hide ((unhide HB).step hb)
  clear hb
  go_wp2_with fail
  refine (unhide HS _).mono ?_
  rintro e w2 ⟨rfl, hb⟩
  replace HB := hide ((unhide HB).step hb)
  clear hb
  have hq := (unhide HB).ownV (k := 0) rfl
  have c0 := hq.cell (i := 0) rfl
  have c1 := hq.cell (i := 1) rfl
  have c2 := hq.cell (i := 2) rfl
  have lt0 := hq.lt
  clear hq
  replace HB := hide ((unhide HB).made 1 #[.int .i64 y0, .int .i64 y1, .int .i64 y2] 31)
  go_wp2_with fail
  refine (unhide HT _).mono ?_
  rintro e w3 ⟨rfl, hb⟩
  replace HB := hide ((unhide HB).step hb)
  clear hb
  clear c0 c1 c2
  go_wp2_with fail
  refine (unhide HI _).mono ?_
  rintro e w4 ⟨rfl, hb⟩
  replace HB := hide ((unhide HB).step hb)
  clear hb
  have hq := (unhide HB).ownV (k := 1) rfl
  have c0 := hq.cell (i := 0) rfl
  have c1 := hq.cell (i := 1) rfl
  have c2 := hq.cell (i := 2) rfl
  have lt1 := hq.lt
  clear hq
  replace HB := hide ((unhide HB).made 2 #[.int .i64 y0, .int .i64 y1, .int .i64 y2] 31)
  go_wp2_with fail
  refine (unhide HE _).mono ?_
  rintro e w5 ⟨rfl, hb⟩
  replace HB := hide ((unhide HB).step hb)
  clear hb
  have HW := hide (unhide HB).below
  cases b <;> (go_wp2; go_ret; exact ⟨rfl, unhide HW⟩)

end Go.Proofs.Ytgmhijbepkobkaa

/- The law of ReadReport, walked. Written by wip/mk9.py. -/
import Derived.Test.YtkjikjeecjendaaFmJ
import Derived.Test.YtkjikjeecjendaaRgI
namespace Go.Proofs.Ytkjikjeecjendaa
open Go.RowKit

theorem readV_form (L : List Byte) : ∃ y0 y1 y2 y3 y4 y5, readV L = vReport y0 y1 y2 y3 y4 y5 := by
  unfold readV
  split
  · exact ⟨_, _, _, _, _, _, rfl⟩
  · exact ⟨_, _, _, _, _, _, rfl⟩

set_option maxRecDepth 10000 in
set_option maxHeartbeats 3200000 in
theorem lawReadReport_any (pv : Value) (L : List Byte) (w : World) (h : ByIn w pv L) : Calls Try.prog 7 #[pv] w fun e w' => e = .returned (.bool true) ∧ Below w.heap.size w w' := by
  have HV := hide h
  obtain ⟨ao, cap, rfl, hl, hm, hc⟩ := h
  unfold maxLen at hm
  clear hc
  have HW := hide (Below.refl w.heap.size w)
  have HT := hide fun W (hW : Below w.heap.size w W) hs => toByteS_o _ L W ((unhide HV).below hW) hs
  have HS := hide fun v W (hW : ByIn W v L) => specReadReport_any v L W hW
  have HI := hide fun v W (hW : ByIn W v L) => implReadReport_any v L W hW
  obtain ⟨y0, y1, y2, y3, y4, y5, ey⟩ := readV_form L
  rw [ey] at HS HI
  have HE := hide fun W => eqReport_any y0 y1 y2 y3 y4 y5 W
  generalize readC L = C at *
  unfold vReport at HS HI HE
  clear ey
  by_cases hbig : 1048576 < (L.length : Int)
  · go_enter Try.func7, Try.ntmps7
    go_wp2
    go_ret
    exact ⟨rfl, unhide HW⟩
  have hs : L.length ≤ 1048576 := by omega
  have hcc : (C != C) = false := by simp
  go_enter Try.func7, Try.ntmps7
  go_wp2_with fail
  refine (unhide HT _ (unhide HW) hs).mono ?_
  rintro e w1 ⟨g1, rfl, hg1, ho, hb⟩
  replace HW := hide (Below.step (unhide HW) hb)
  have HX := hide ho
  clear ho hb hg1
  go_wp2_with fail
  refine (unhide HS _ _ (OwnV.cIn (unhide HX) (Nat.le_refl _) (by unfold maxLen; omega))).mono ?_
  rintro e w2 ⟨rfl, hb⟩
  replace HW := hide (Below.step (unhide HW) hb)
  clear hb HX HS
  have HA := hide (ownV_alloc w2 #[.int .i64 y0, .int .i64 y1, .int .i64 y2, .int .i64 y3, .int .i64 y4, .int .i64 y5] 25)
  have hb := Below.alloc1 w2 (.cells #[.int .i64 y0, .int .i64 y1, .int .i64 y2, .int .i64 y3, .int .i64 y4, .int .i64 y5] 25)
  replace HW := hide (Below.step (unhide HW) hb)
  have hA := (unhide HA).lt
  clear hb
  go_wp2_with fail
  refine (unhide HT _ (unhide HW) hs).mono ?_
  rintro e w3 ⟨g3, rfl, hg3, ho, hb⟩
  replace HW := hide (Below.step (unhide HW) hb)
  replace HA := hide ((unhide HA).step hb)
  have HX := hide ho
  clear ho hb hg3 hA
  go_wp2_with fail
  refine (unhide HI _ _ (OwnV.cIn (unhide HX) (Nat.le_refl _) (by unfold maxLen; omega))).mono ?_
  rintro e w4 ⟨rfl, hb⟩
  replace HW := hide (Below.step (unhide HW) hb)
  replace HA := hide ((unhide HA).step hb)
  replace HX := hide ((unhide HX).step hb)
  clear hb HI
  have HC := hide (ownV_alloc w4 #[.int .i64 y0, .int .i64 y1, .int .i64 y2, .int .i64 y3, .int .i64 y4, .int .i64 y5] 25)
  have hb := Below.alloc1 w4 (.cells #[.int .i64 y0, .int .i64 y1, .int .i64 y2, .int .i64 y3, .int .i64 y4, .int .i64 y5] 25)
  replace HW := hide (Below.step (unhide HW) hb)
  replace HA := hide ((unhide HA).step hb)
  replace HX := hide ((unhide HX).step hb)
  clear hb
  have m0 := (unhide HA).cell (i := 0) rfl
  have n0 := (unhide HC).cell (i := 0) rfl
  have m1 := (unhide HA).cell (i := 1) rfl
  have n1 := (unhide HC).cell (i := 1) rfl
  have m2 := (unhide HA).cell (i := 2) rfl
  have n2 := (unhide HC).cell (i := 2) rfl
  have m3 := (unhide HA).cell (i := 3) rfl
  have n3 := (unhide HC).cell (i := 3) rfl
  have m4 := (unhide HA).cell (i := 4) rfl
  have n4 := (unhide HC).cell (i := 4) rfl
  have m5 := (unhide HA).cell (i := 5) rfl
  have n5 := (unhide HC).cell (i := 5) rfl
  go_wp2_with fail
  refine (unhide HE _).mono ?_
  rintro e w5 ⟨rfl, hb⟩
  replace HW := hide (Below.step (unhide HW) hb)
  replace HA := hide ((unhide HA).step hb)
  replace HX := hide ((unhide HX).step hb)
  replace HC := hide ((unhide HC).step hb)
  clear hb HE m0 n0 m1 n1 m2 n2 m3 n3 m4 n4 m5 n5
  go_wp2_with fail
  refine (unhide HT _ (unhide HW) hs).mono ?_
  rintro e w6 ⟨g6, rfl, hg6, ho, hb⟩
  replace HW := hide (Below.step (unhide HW) hb)
  replace HA := hide ((unhide HA).step hb)
  replace HX := hide ((unhide HX).step hb)
  replace HC := hide ((unhide HC).step hb)
  have HX2 := hide ho
  clear ho hb hg6 HT
  go_wp2_with fail
  refine (eqByteS_o _ _ L _ (OwnV.cIn (unhide HX) (Nat.le_refl _) (by unfold maxLen; omega)) (OwnV.cIn (unhide HX2) (Nat.le_refl _) (by unfold maxLen; omega))).mono ?_
  rintro e w7 ⟨rfl, hb⟩
  replace HW := hide (Below.step (unhide HW) hb)
  replace HA := hide ((unhide HA).step hb)
  replace HX := hide ((unhide HX).step hb)
  replace HC := hide ((unhide HC).step hb)
  clear hb
  go_wp2
  go_ret
  exact ⟨rfl, unhide HW⟩

end Go.Proofs.Ytkjikjeecjendaa

/- FnExactMirror: at every hull the program's Mirror answers as the specification's, in memory of its own; nothing of the argument's memory has turned. -/
import Derived.Test.YticcjdcglfiggaaWalkT
import Derived.Test.YticcjdcglfiggaaOwnHull
import Derived.Deep.RegionHeld3
namespace Go.Proofs.Yticcjdcglfiggaa
open Go.RowKit

theorem mRows_bd (step rise : Int) (R : List (List Int)) : (mRows step rise R).length ≤ 12 ∧ ∀ i, i < (mRows step rise R).length → ((mRows step rise R).getD i []).length ≤ 10 := by
  unfold mRows
  by_cases h : hullOk step rise R = true
  · rw [if_pos h]
    have hR := hullOk_right h
    rw [mirrorR_len]
    refine ⟨hR.len2, fun i hi => ?_⟩
    rw [mirrorR_get R hi, hR.even _ (by omega)]
    exact hR.wat2
  · rw [if_neg h]; simp

set_option maxHeartbeats 6400000 in
theorem lawMirror_any (step rise : Int) (v : Value) (R : List (List Int)) (w : World) (h : RowsIn w v R) :
    Calls Try.prog 5 #[hullV step rise v] w fun e w' => e = .returned (.bool true) ∧ Below w.heap.size w w' := by
  have HV := hide h
  obtain ⟨ao, cap, rfl, hl, hm, hc⟩ := h
  clear hc hl hm
  unfold hullV
  have HB0 := hide (box3_alloc w (.int .i64 step) (.int .i64 rise) (.slice ao R.length cap) 48)
  have HW0 := hide (Below.alloc1 w (.cells #[.int .i64 step, .int .i64 rise, .slice ao R.length cap] 48))
  obtain ⟨ms, ems⟩ : ∃ x, x = mStep step rise R := ⟨_, rfl⟩
  obtain ⟨mr, emr⟩ : ∃ x, x = mRise step rise R := ⟨_, rfl⟩
  obtain ⟨M, eM⟩ : ∃ x, x = mRows step rise R := ⟨_, rfl⟩
  have hMl : M.length ≤ 12 := by rw [eM]; exact (mRows_bd _ _ _).1
  have HMr : Hid (∀ i, i < M.length → (M.getD i []).length ≤ 10) := by rw [eM]; exact (mRows_bd _ _ _).2
  have HE1 := hide ems
  have HE2 := hide emr
  have HE3 := hide eM
  clear ems emr eM
  go_enter Try.func5, Try.ntmps5
  go_wp2_with fail
  refine (szHull_any step rise _ R _ ((unhide HV).below (unhide HW0))).mono ?_
  rintro e w1 ⟨r, rfl, hs, hb⟩
  have HB1 := hide ((unhide HB0).step hb)
  have HW1 := hide (Below.step (unhide HW0) hb)
  clear hb HB0 HW0
  obtain ⟨hr1, hr2, hr3⟩ := hs
  have HS := hide hr3
  clear hr3
  by_cases hneg : r < 0
  · go_wp2
    go_ret
    exact ⟨rfl, unhide HW1⟩
  obtain ⟨hsn, hsl⟩ := unhide HS (by omega)
  obtain ⟨c0, c1, c2⟩ := unhide HB1
  have HL := hide hsl
  clear hsl HS
  go_wp2_with fail
  refine (toHull_any step rise _ R _ ((unhide HV).below (unhide HW1)) hsn (unhide HL)).mono ?_
  rintro e w2 ⟨g2, G2, C2, rfl, ho, hb⟩
  have HO := hide ho
  have HB2 := hide ((unhide HB1).step hb)
  have HW2 := hide (Below.step (unhide HW1) hb)
  clear hb ho HB1 HW1 c0 c1 c2
  go_wp2_with fail
  refine (specMirror_any step rise _ R _ ((unhide HO).rowsIn (Nat.le_refl _) (by unfold maxLen; omega))).mono ?_
  rintro e w3 ⟨a0, n0, cap0, rfl, hr, hb⟩
  rw [← unhide HE3] at hr
  rw [← unhide HE1, ← unhide HE2]
  have A4 := Below.alloc1 w3 (.cells #[.int .i64 ms, .int .i64 mr, .slice a0 n0 cap0] 26)
  have HP4 := hide (box3_alloc w3 (.int .i64 ms) (.int .i64 mr) (.slice a0 n0 cap0) 26)
  have HS4 := hide (hr.below A4)
  have HB4 := hide (((unhide HB2).step hb).step A4)
  have HW4 := hide (Below.step (Below.step (unhide HW2) hb) A4)
  obtain ⟨W4, eW4⟩ : ∃ W, W = w3.alloc (.cells #[.int .i64 ms, .int .i64 mr, .slice a0 n0 cap0] 26) := ⟨_, rfl⟩
  rw [← eW4] at HP4 HS4 HB4 HW4
  have hz4 : w3.heap.size < W4.heap.size := by rw [eW4]; simp
  have hzN : w.heap.size < W4.heap.size := lt_of_cell (unhide HB4).c0
  have H5 := hide (toHull_any step rise _ R W4 ((unhide HV).below (unhide HW4)) hsn (unhide HL))
  rw [eW4] at H5
  obtain ⟨c0, c1, c2⟩ := unhide HB4
  rw [eW4] at c0 c1 c2
  have EW4 := hide eW4
  clear hb hr A4 HO HB2 HW2 eW4
  go_wp2_with fail
  refine (unhide H5).mono ?_
  rintro e w5 ⟨g, G, C, rfl, ho, hb⟩
  rw [← unhide EW4] at ho hb
  have A6 := Below.alloc1 w5 (.cells #[.int .i64 step, .int .i64 rise, .slice (some ⟨g, 0, none⟩) R.length R.length] 26)
  have hB6 := Below.step hb A6
  have HX6 := hide (box3_alloc w5 (.int .i64 step) (.int .i64 rise) (.slice (some ⟨g, 0, none⟩) R.length R.length) 26)
  have HO6 := hide (ho.below A6)
  have HG : Hid (∀ r, r < R.length → W4.heap.size ≤ G r ∧ G r < w5.heap.size) := fun r hr => ⟨(ho.above r hr).1, (ho.rows r hr).lt⟩
  have HP6 := hide ((unhide HP4).step hB6)
  have HZ6 : Hid (Below W4.heap.size W4 (w5.alloc (.cells #[.int .i64 step, .int .i64 rise, .slice (some ⟨g, 0, none⟩) R.length R.length] 26))) := hB6
  have hz6 : W4.heap.size ≤ (w5.alloc (.cells #[.int .i64 step, .int .i64 rise, .slice (some ⟨g, 0, none⟩) R.length R.length] 26)).heap.size := hB6.size
  have HB6 := hide ((unhide HB4).step hB6)
  have HW6 := hide (Below.step (unhide HW4) hB6)
  have hz5 := hb.size
  have H7 := hide (implMirror_any step rise _ R _ ((unhide HO6).rowsIn (Nat.le_refl _) (by unfold maxLen; omega)))
  clear hb ho A6 hB6 H5 c0 c1 c2 HP4 HB4 HW4
  go_wp2_with fail
  refine (unhide H7).mono ?_
  rintro e w7 ⟨a7, n7, cap7, rfl, ho, hb⟩
  rw [← unhide HE3] at ho
  rw [← unhide HE1, ← unhide HE2]
  have hz7 : w5.heap.size + 1 ≤ w7.heap.size := by have := hb.size; simpa using this
  have A8 := Below.alloc1 w7 (.cells #[.int .i64 ms, .int .i64 mr, .slice a7 n7 cap7] 26)
  have hB8 := Below.step hb A8
  have HY8 := hide (box3_alloc w7 (.int .i64 ms) (.int .i64 mr) (.slice a7 n7 cap7) 26)
  have HQ8 := hide (ho.upto.below A8)
  have HX8 := hide ((unhide HX6).step hB8)
  have HO8 := hide ((unhide HO6).below hB8)
  have HP8 := hide ((unhide HP6).step hB8)
  have HZ8 := hide ((unhide HZ6).trans (hB8.mono hz6))
  have hz8 := (unhide HZ8).size
  have HB8 := hide ((unhide HB6).step hB8)
  have HW8 := hide (Below.step (unhide HW6) hB8)
  simp only [World.size_alloc] at HQ8
  clear hb ho A8 hB8 H7 HX6 HO6 HP6 HZ6 hz6 HB6 HW6
  obtain ⟨y0, y1, y2⟩ := unhide HY8
  obtain ⟨p0, p1, p2⟩ := unhide HP8
  go_wp2_with fail
  refine (eqHull_any ms mr _ _ M _ (unhide HQ8).inn ((unhide HS4).below (unhide HZ8))).mono ?_
  rintro e w9 ⟨rfl, hb⟩
  have HY9 := hide ((unhide HY8).step hb)
  have HQ9 := hide ((unhide HQ8).below hb)
  have HX9 := hide ((unhide HX8).step hb)
  have HO9 := hide ((unhide HO8).below hb)
  have HP9 := hide ((unhide HP8).step hb)
  have HZ9 := hide ((unhide HZ8).trans (hb.mono hz8))
  have hz9 : W4.heap.size ≤ w9.heap.size := (unhide HZ9).size
  have HB9 := hide ((unhide HB8).step hb)
  have HW9 := hide (Below.step (unhide HW8) hb)
  clear hb y0 y1 y2 p0 p1 p2 HY8 HQ8 HX8 HO8 HP8 HZ8 hz8 HB8 HW8
  obtain ⟨c0, c1, c2⟩ := unhide HB9
  obtain ⟨d0, d1, d2⟩ := unhide HX9
  have HT := hide (toHull_any step rise _ R w9.drew ((unhide HV).below (unhide HW9).drew) hsn (unhide HL))
  have Hd : Hid (Below w9.heap.size w9 w9.drew) := (Below.refl _ _).drew
  go_wp2
  go_region_held3 (fun w' => w'.cell? ⟨w.heap.size, 0, none⟩ = some (.int .i64 step) ∧ w'.cell? ⟨w.heap.size, 1, none⟩ = some (.int .i64 rise) ∧ w'.cell? ⟨w.heap.size, 2, none⟩ = some (.slice ao R.length cap) ∧ w'.cell? ⟨w5.heap.size, 0, none⟩ = some (.int .i64 step) ∧ w'.cell? ⟨w5.heap.size, 1, none⟩ = some (.int .i64 rise) ∧ w'.cell? ⟨w5.heap.size, 2, none⟩ = some (.slice (some ⟨g, 0, none⟩) R.length R.length)) (go_keep) (first | (go_at_call 27; refine (unhide HT).mono ?_; rintro e w10 ⟨g8, G8, C8, rfl, ho8, hb8⟩; have A10 := hide (Below.step (unhide Hd) hb8); obtain ⟨e0, e1, e2⟩ := (unhide HB9).step (unhide A10); obtain ⟨f0, f1, f2⟩ := (unhide HX9).step (unhide A10); have HE := hide (eqHull_any step rise (.slice (some ⟨g, 0, none⟩) R.length R.length) (.slice (some ⟨g8, 0, none⟩) R.length R.length) R w10 (((unhide HO9).below (unhide A10)).rowsIn (Nat.le_refl _) (by unfold maxLen; omega)) (ho8.rowsIn (Nat.le_refl _) (by unfold maxLen; omega))); clear ho8 hb8) | (go_at_call 28; refine (unhide HE).mono ?_; rintro e w11 ⟨rfl, hb9⟩; have A11 := hide (Below.step (unhide A10) hb9); clear hb9; obtain ⟨e0', e1', e2'⟩ := (unhide HB9).step (unhide A11); obtain ⟨f0', f1', f2'⟩ := (unhide HX9).step (unhide A11)))
  have HY11 := hide ((unhide HY9).step (unhide A11))
  have HQ11 := hide ((unhide HQ9).below (unhide A11))
  have HO11 := hide ((unhide HO9).below (unhide A11))
  have HP11 := hide ((unhide HP9).step (unhide A11))
  have HB11 := hide ((unhide HB9).step (unhide A11))
  have HW11 := hide (Below.step (unhide HW9) (unhide A11))
  have HZ11 := hide ((unhide HZ9).trans ((unhide A11).mono hz9))
  clear HX9 HY9 HQ9 HO9 HP9 HB9 HW9 HZ9 hz9 HT Hd c0 c1 c2 d0 d1 d2 A10 e0 e1 e2 f0 f1 f2 HE e0' e1' e2'
  go_wp2_with fail
  refine (markHull_any step rise _ g R.length G C R 1 w11 (unhide HO11) hsn (unhide HL) (by omega) (by omega)).mono ?_
  rintro e w12 ⟨rfl, hk, _⟩
  have hz11 := (unhide HZ11).size
  have K12 : Below W4.heap.size w11 w12 := hk.below hz11 (fun b ⟨r, hr, e⟩ => by have := (unhide HG r hr).1; omega)
  have HZ12 := hide ((unhide HZ11).trans K12)
  have HW12 := hide ((unhide HW11).trans (K12.mono (by omega)))
  have HB12 := hide ((unhide HB11).below K12 hzN)
  have HP12 := hide ((unhide HP11).below K12 hz4)
  have HY12 := hide ((unhide HY11).kept hk (fun ⟨r, hr, e⟩ => by have := (unhide HG r hr).2; omega))
  have HQ12 := hide ((unhide HQ11).kept hk (fun b hb _ ⟨r, hr, e⟩ => by have := (unhide HG r hr).2; omega))
  have hp := pre_le (unhide HL) R.length (Nat.le_refl _)
  clear hk K12 hz11 HO11 HZ11 HW11 HB11 HP11 HY11 HQ11 f0' f1' f2'
  generalize pre R R.length = pl at *
  obtain ⟨y0, y1, y2⟩ := unhide HY12
  obtain ⟨p0, p1, p2⟩ := unhide HP12
  go_wp2_with fail
  refine (eqHull_any ms mr _ _ M _ (unhide HQ12).inn ((unhide HS4).below (unhide HZ12))).mono ?_
  rintro e w13 ⟨rfl, hb⟩
  have HY13 := hide ((unhide HY12).step hb)
  have HQ13 := hide ((unhide HQ12).below hb)
  have HP13 := hide ((unhide HP12).step hb)
  have HB13 := hide ((unhide HB12).step hb)
  have HW13 := hide (Below.step (unhide HW12) hb)
  have HZ13 := hide ((unhide HZ12).trans (hb.mono (unhide HZ12).size))
  clear hb y0 y1 y2 p0 p1 p2 HY12 HQ12 HP12 HB12 HW12 HZ12
  obtain ⟨y0, y1, y2⟩ := unhide HY13
  go_wp2_with fail
  refine (markHull_v ms mr _ _ _ _ _ M w13 (unhide HQ13) (by omega) (fun i hi => by have := unhide HMr i hi; omega)).mono ?_
  rintro e w14 ⟨rfl, hk, ho⟩
  have hz13 := (unhide HZ13).size
  have K14 : Below W4.heap.size w13 w14 := hk.below hz13 (fun b e => by omega)
  have HZ14 := hide ((unhide HZ13).trans K14)
  have HW14 := hide ((unhide HW13).trans (K14.mono (by omega)))
  have HB14 := hide ((unhide HB13).below K14 hzN)
  have HP14 := hide ((unhide HP13).below K14 hz4)
  have HY14 := hide ((unhide HY13).kept hk (fun e => by omega))
  have HQ14 := hide ho
  have hpm := pre_le (R := M) (n := M.length) (fun i hi => by have := unhide HMr i hi; omega) M.length (Nat.le_refl _)
  have hd : ∀ W, RowsIn W (.slice a7 n7 cap7) (mrows 1 M) → Calls Try.prog 30 #[hullV ms mr (.slice a7 n7 cap7), .int .i64 1] W fun e w' => e = .returned (.int .i64 (1 + (pre M M.length : Int))) ∧ Below W.heap.size W w' := fun W hW => by
    have := heldHull_any ms mr _ (mrows 1 M) 1 W hW (mrows_held 1 M) (by rw [mrows_len]; omega) (fun i hi => by rw [mrows_len] at hi; rw [mrows_row 1 M hi]; have := unhide HMr i hi; omega) (by omega) (by omega)
    rw [pre_mrows 1 M (by rw [mrows_len]; exact Nat.le_refl _), mrows_len] at this
    exact this
  have HD := hide hd
  clear hk ho hd K14 hz13 y0 y1 y2 HY13 HQ13 HP13 HB13 HW13 HZ13
  generalize pre M M.length = pm at *
  obtain ⟨y0, y1, y2⟩ := unhide HY14
  go_wp2_with fail
  refine (unhide HD _ (unhide HQ14).inn).mono ?_
  rintro e w15 ⟨rfl, hb⟩
  have HY15 := hide ((unhide HY14).step hb)
  have HQ15 := hide ((unhide HQ14).below hb)
  have HP15 := hide ((unhide HP14).step hb)
  have HB15 := hide ((unhide HB14).step hb)
  have HW15 := hide (Below.step (unhide HW14) hb)
  have HZ15 := hide ((unhide HZ14).trans (hb.mono (unhide HZ14).size))
  clear hb y0 y1 y2 HY14 HQ14 HP14 HB14 HW14 HZ14
  obtain ⟨c0, c1, c2⟩ := unhide HB15
  go_wp2_with fail
  refine (toHull_any step rise _ R _ ((unhide HV).below (unhide HW15)) hsn (unhide HL)).mono ?_
  rintro e w16 ⟨g16, G16, C16, rfl, ho, hb⟩
  have HO16 := hide ho
  have HY16 := hide ((unhide HY15).step hb)
  have HQ16 := hide ((unhide HQ15).below hb)
  have HP16 := hide ((unhide HP15).step hb)
  have HW16 := hide (Below.step (unhide HW15) hb)
  have HZ16 := hide ((unhide HZ15).trans (hb.mono (unhide HZ15).size))
  clear hb ho c0 c1 c2 HY15 HQ15 HP15 HB15 HW15 HZ15
  go_wp2_with fail
  refine (implMirror_any step rise _ R _ ((unhide HO16).rowsIn (Nat.le_refl _) (by unfold maxLen; omega))).mono ?_
  rintro e w17 ⟨a17, n17, cap17, rfl, ho, hb⟩
  rw [← unhide HE3] at ho
  rw [← unhide HE1, ← unhide HE2]
  have A18 := Below.alloc1 w17 (.cells #[.int .i64 ms, .int .i64 mr, .slice a17 n17 cap17] 26)
  have hB18 := Below.step hb A18
  have HU18 := hide (box3_alloc w17 (.int .i64 ms) (.int .i64 mr) (.slice a17 n17 cap17) 26)
  have HI18 := hide (ho.upto.below A18).inn
  have HY18 := hide ((unhide HY16).step hB18)
  have HQ18 := hide ((unhide HQ16).below hB18)
  have HP18 := hide ((unhide HP16).step hB18)
  have HW18 := hide (Below.step (unhide HW16) hB18)
  have HZ18 := hide ((unhide HZ16).trans (hB18.mono (unhide HZ16).size))
  clear hb ho A18 hB18 HO16 HY16 HQ16 HP16 HW16 HZ16
  obtain ⟨u0, u1, u2⟩ := unhide HU18
  obtain ⟨p0, p1, p2⟩ := unhide HP18
  go_wp2_with fail
  refine (eqHull_any ms mr _ _ M _ (unhide HI18) ((unhide HS4).below (unhide HZ18))).mono ?_
  rintro e w19 ⟨rfl, hb⟩
  have HY19 := hide ((unhide HY18).step hb)
  have HQ19 := hide ((unhide HQ18).below hb)
  have HW19 := hide (Below.step (unhide HW18) hb)
  clear hb u0 u1 u2 p0 p1 p2 HU18 HI18 HY18 HQ18 HP18 HW18 HZ18
  obtain ⟨y0, y1, y2⟩ := unhide HY19
  go_wp2_with fail
  refine (unhide HD _ (unhide HQ19).inn).mono ?_
  rintro e w20 ⟨rfl, hb⟩
  have HW20 := hide (Below.step (unhide HW19) hb)
  clear hb y0 y1 y2
  go_wp2
  go_ret
  exact ⟨rfl, unhide HW20⟩

end Go.Proofs.Yticcjdcglfiggaa

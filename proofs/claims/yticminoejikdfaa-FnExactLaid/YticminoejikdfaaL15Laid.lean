/- FnExactLaid: at every argument the program's Laid answers as the specification's; the arguments read as before. Written by wip/mk15.py. -/
import Derived.Test.YticminoejikdfaaLyLs
import Derived.Test.YticminoejikdfaaRSpell
import Derived.Test.YticminoejikdfaaExactKit
import Derived.Deep.Cut
namespace Go.Proofs.Yticminoejikdfaa
open Go.RowKit

set_option maxRecDepth 10000 in
set_option maxHeartbeats 8000000 in
theorem lawLaid_any (n a d s : Int) (pv1 : Value) (L1 : List I2) (pv2 : Value) (L2 : List I2) (w : World) (h1 : R2 w pv1 L1) (h2 : R2 w pv2 L2) :
    Calls Try.prog 9 #[vCh n a d s, pv1, pv2] w fun e w' => e = .returned (.bool true) ∧ Below w.heap.size w w' := by
  have HV1 := hide h1
  obtain ⟨ao1, cap1, rfl, hl1, hm1, hc1⟩ := h1
  unfold maxLen at hm1
  clear hc1
  have HV2 := hide h2
  obtain ⟨ao2, cap2, rfl, hl2, hm2, hc2⟩ := h2
  unfold maxLen at hm2
  clear hc2
  have HTC := hide fun V => toCharter_any n a d s V
  have HSC := hide fun V {pv1 : Value} (r1 : R2 V pv1 L1) {pv2 : Value} (r2 : R2 V pv2 L2) => specLaid_any n a d s _ _ L1 L2 V r1 r2
  have HIC := hide fun V {pv1 : Value} (r1 : R2 V pv1 L1) {pv2 : Value} (r2 : R2 V pv2 L2) => implLaid_any n a d s _ _ L1 L2 V r1 r2
  obtain ⟨R, hR⟩ : ∃ x, x = layV n a d s L1 L2 := ⟨_, rfl⟩
  rw [← hR] at HSC HIC
  clear hR
  obtain ⟨⟨R1, R2, R3⟩, R4⟩ := R
  dsimp only at HSC HIC
  have hRR : (R4 != R4) = false := by cases R4 <;> rfl
  have HEQ := hide fun V => eqCount_any R1 R2 R3 V
  unfold v3 at HEQ
  have HB := hide (ownV_alloc w #[.int .i64 n, .int .i64 a, .int .i64 d, .int .i64 s] 45)
  have HW := hide (Below.alloc1 w (.cells #[.int .i64 n, .int .i64 a, .int .i64 d, .int .i64 s] 45))
  unfold vCh v3 at HSC HIC
  unfold vCh at HTC ⊢
  go_enter Try.func9, Try.ntmps9
  go_wp2_with fail
  refine (szSpellS_any _ L1 1048576 _ ((unhide HV1).below (unhide HW)) (by omega) (by omega)).mono ?_
  rintro e w1 ⟨l1, rfl, hs, hb⟩
  subst hb
  obtain ⟨hp1, hq1, hs⟩ := hs
  have HS := hide hs
  clear hs
  by_cases hneg1 : l1 < 0
  · clear HS
    go_wp2
    go_ret
    exact ⟨rfl, unhide HW⟩
  have hsn1 := unhide HS (by omega)
  clear HS
  go_wp2_with fail
  refine (szSpellS_any _ L2 l1 _ ((unhide HV2).below (unhide HW)) (by omega) (by omega)).mono ?_
  rintro e w2 ⟨l2, rfl, hs, hb⟩
  subst hb
  obtain ⟨hp2, hq2, hs⟩ := hs
  have HS := hide hs
  clear hs
  by_cases hneg2 : l2 < 0
  · clear HS
    go_wp2
    go_ret
    exact ⟨rfl, unhide HW⟩
  have hsn2 := unhide HS (by omega)
  clear HS
  have c_0 := (unhide HB).cell (i := 0) rfl
  have c_1 := (unhide HB).cell (i := 1) rfl
  have c_2 := (unhide HB).cell (i := 2) rfl
  have c_3 := (unhide HB).cell (i := 3) rfl
  go_wp2_with fail
  refine (unhide HTC _).mono ?_
  rintro e v1 ⟨rfl, hb⟩
  clear c_0 c_1 c_2 c_3
  replace HW := hide (Below.step (unhide HW) hb)
  replace HB := hide ((unhide HB).step hb)
  clear hb
  go_wp2_with fail
  refine (toSpellS_any _ L1 _ ((unhide HV1).below (unhide HW)) hsn1).mono ?_
  rintro e v2 ⟨gHX1, rfl, hgHX1, ho, hb⟩
  replace HW := hide (Below.step (unhide HW) hb)
  replace HB := hide ((unhide HB).step hb)
  clear hb
  have HX1 := hide ho
  clear ho
  go_wp2_with fail
  refine (toSpellS_any _ L2 _ ((unhide HV2).below (unhide HW)) hsn2).mono ?_
  rintro e v3 ⟨gHX2, rfl, hgHX2, ho, hb⟩
  replace HW := hide (Below.step (unhide HW) hb)
  replace HB := hide ((unhide HB).step hb)
  replace HX1 := hide ((unhide HX1).step hb)
  clear hb
  have HX2 := hide ho
  clear ho
  go_wp2_with fail
  refine (unhide HSC _ (OwnV.recsIn (unhide HX1) (Nat.le_refl _) (by unfold maxLen; omega)) (OwnV.recsIn (unhide HX2) (Nat.le_refl _) (by unfold maxLen; omega))).mono ?_
  rintro e v4 ⟨rfl, hb⟩
  replace HW := hide (Below.step (unhide HW) hb)
  replace HB := hide ((unhide HB).step hb)
  replace HX1 := hide ((unhide HX1).step hb)
  replace HX2 := hide ((unhide HX2).step hb)
  clear hb
  clear HX1 HX2
  have A := Below.alloc1 v4 (.cells #[.int .i64 R1, .int .i64 R2, .int .i64 R3] 34)
  obtain ⟨ZHK1, eZ⟩ : ∃ Z, Z = v4.alloc (.cells #[.int .i64 R1, .int .i64 R2, .int .i64 R3] 34) := ⟨_, rfl⟩
  have HK1 := hide (ownV_alloc v4 #[.int .i64 R1, .int .i64 R2, .int .i64 R3] 34)
  rw [← eZ] at A HK1
  have hb := A
  clear A
  replace HW := hide (Below.step (unhide HW) hb)
  replace HB := hide ((unhide HB).step hb)
  clear hb
  obtain ⟨bHK1, ebx⟩ : ∃ b, b = v4.heap.size := ⟨_, rfl⟩
  rw [← ebx] at HK1
  go_upto_region 9 with (fail)
  rw [← eZ, ← ebx]
  clear eZ ebx
  go_wp2_with fail
  refine (toSpellS_any _ L1 _ ((unhide HV1).below (unhide HW)) hsn1).mono ?_
  rintro e v5 ⟨gHY1, rfl, hgHY1, ho, hb⟩
  replace HW := hide (Below.step (unhide HW) hb)
  replace HB := hide ((unhide HB).step hb)
  replace HK1 := hide ((unhide HK1).step hb)
  clear hb
  have HY1 := hide ho
  clear ho
  go_wp2_with fail
  refine (toSpellS_any _ L2 _ ((unhide HV2).below (unhide HW)) hsn2).mono ?_
  rintro e v6 ⟨gHY2, rfl, hgHY2, ho, hb⟩
  replace HW := hide (Below.step (unhide HW) hb)
  replace HB := hide ((unhide HB).step hb)
  replace HK1 := hide ((unhide HK1).step hb)
  replace HY1 := hide ((unhide HY1).step hb)
  clear hb
  have HY2 := hide ho
  clear ho
  have c_0 := (unhide HB).cell (i := 0) rfl
  have c_1 := (unhide HB).cell (i := 1) rfl
  have c_2 := (unhide HB).cell (i := 2) rfl
  have c_3 := (unhide HB).cell (i := 3) rfl
  go_wp2_with fail
  refine (unhide HTC _).mono ?_
  rintro e v7 ⟨rfl, hb⟩
  clear c_0 c_1 c_2 c_3
  replace HW := hide (Below.step (unhide HW) hb)
  replace HB := hide ((unhide HB).step hb)
  replace HK1 := hide ((unhide HK1).step hb)
  replace HY1 := hide ((unhide HY1).step hb)
  replace HY2 := hide ((unhide HY2).step hb)
  clear hb
  go_wp2_with fail
  refine (unhide HIC _ (OwnV.recsIn (unhide HY1) (Nat.le_refl _) (by unfold maxLen; omega)) (OwnV.recsIn (unhide HY2) (Nat.le_refl _) (by unfold maxLen; omega))).mono ?_
  rintro e v8 ⟨rfl, hb⟩
  replace HW := hide (Below.step (unhide HW) hb)
  replace HB := hide ((unhide HB).step hb)
  replace HK1 := hide ((unhide HK1).step hb)
  replace HY1 := hide ((unhide HY1).step hb)
  replace HY2 := hide ((unhide HY2).step hb)
  clear hb
  have A := Below.alloc1 v8 (.cells #[.int .i64 R1, .int .i64 R2, .int .i64 R3] 34)
  obtain ⟨ZHK2, eZ⟩ : ∃ Z, Z = v8.alloc (.cells #[.int .i64 R1, .int .i64 R2, .int .i64 R3] 34) := ⟨_, rfl⟩
  have HK2 := hide (ownV_alloc v8 #[.int .i64 R1, .int .i64 R2, .int .i64 R3] 34)
  rw [← eZ] at A HK2
  have hb := A
  clear A
  replace HW := hide (Below.step (unhide HW) hb)
  replace HB := hide ((unhide HB).step hb)
  replace HK1 := hide ((unhide HK1).step hb)
  replace HY1 := hide ((unhide HY1).step hb)
  replace HY2 := hide ((unhide HY2).step hb)
  clear hb
  obtain ⟨bHK2, ebx⟩ : ∃ b, b = v8.heap.size := ⟨_, rfl⟩
  rw [← ebx] at HK2
  go_upto_region 12 with (fail)
  rw [← eZ, ← ebx]
  clear eZ ebx
  have x_0 := (unhide HK1).cell (i := 0) rfl
  have x_1 := (unhide HK1).cell (i := 1) rfl
  have x_2 := (unhide HK1).cell (i := 2) rfl
  have y_0 := (unhide HK2).cell (i := 0) rfl
  have y_1 := (unhide HK2).cell (i := 1) rfl
  have y_2 := (unhide HK2).cell (i := 2) rfl
  go_wp2_with fail
  refine (unhide HEQ _).mono ?_
  rintro e v9 ⟨rfl, hb⟩
  clear x_0 x_1 x_2 y_0 y_1 y_2
  replace HW := hide (Below.step (unhide HW) hb)
  replace HB := hide ((unhide HB).step hb)
  replace HK1 := hide ((unhide HK1).step hb)
  replace HY1 := hide ((unhide HY1).step hb)
  replace HY2 := hide ((unhide HY2).step hb)
  replace HK2 := hide ((unhide HK2).step hb)
  clear hb
  go_wp2_with fail
  refine (toSpellS_any _ L1 _ ((unhide HV1).below (unhide HW)) hsn1).mono ?_
  rintro e v10 ⟨gHZ1, rfl, hgHZ1, ho, hb⟩
  replace HW := hide (Below.step (unhide HW) hb)
  replace HB := hide ((unhide HB).step hb)
  replace HK1 := hide ((unhide HK1).step hb)
  replace HY1 := hide ((unhide HY1).step hb)
  replace HY2 := hide ((unhide HY2).step hb)
  replace HK2 := hide ((unhide HK2).step hb)
  clear hb
  have HZ1 := hide ho
  clear ho
  go_wp2_with fail
  refine (eqSpellS_any _ _ L1 _ (OwnV.recsIn (unhide HY1) (Nat.le_refl _) (by unfold maxLen; omega)) (OwnV.recsIn (unhide HZ1) (Nat.le_refl _) (by unfold maxLen; omega))).mono ?_
  rintro e v11 ⟨rfl, hb⟩
  replace HW := hide (Below.step (unhide HW) hb)
  replace HB := hide ((unhide HB).step hb)
  replace HK1 := hide ((unhide HK1).step hb)
  replace HY1 := hide ((unhide HY1).step hb)
  replace HY2 := hide ((unhide HY2).step hb)
  replace HK2 := hide ((unhide HK2).step hb)
  replace HZ1 := hide ((unhide HZ1).step hb)
  clear hb
  clear HZ1
  go_wp2_with fail
  refine (toSpellS_any _ L2 _ ((unhide HV2).below (unhide HW)) hsn2).mono ?_
  rintro e v12 ⟨gHZ2, rfl, hgHZ2, ho, hb⟩
  replace HW := hide (Below.step (unhide HW) hb)
  replace HB := hide ((unhide HB).step hb)
  replace HK1 := hide ((unhide HK1).step hb)
  replace HY1 := hide ((unhide HY1).step hb)
  replace HY2 := hide ((unhide HY2).step hb)
  replace HK2 := hide ((unhide HK2).step hb)
  clear hb
  have HZ2 := hide ho
  clear ho
  go_wp2_with fail
  refine (eqSpellS_any _ _ L2 _ (OwnV.recsIn (unhide HY2) (Nat.le_refl _) (by unfold maxLen; omega)) (OwnV.recsIn (unhide HZ2) (Nat.le_refl _) (by unfold maxLen; omega))).mono ?_
  rintro e v13 ⟨rfl, hb⟩
  replace HW := hide (Below.step (unhide HW) hb)
  replace HB := hide ((unhide HB).step hb)
  replace HK1 := hide ((unhide HK1).step hb)
  replace HY1 := hide ((unhide HY1).step hb)
  replace HY2 := hide ((unhide HY2).step hb)
  replace HK2 := hide ((unhide HK2).step hb)
  replace HZ2 := hide ((unhide HZ2).step hb)
  clear hb
  clear HZ2
  go_wp2
  go_ret
  exact ⟨rfl, unhide HW⟩

end Go.Proofs.Yticminoejikdfaa

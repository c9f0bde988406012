/- FnExactCounted: at every argument the program's Counted answers as the specification's; the arguments read as before. Written by wip/mk15.py. -/
import Derived.Test.YticminoejikdfaaLyCs
import Derived.Test.YticminoejikdfaaRSpell
import Derived.Test.YticminoejikdfaaExactKit
import Derived.Deep.Cut
namespace Go.Proofs.Yticminoejikdfaa
open Go.RowKit

set_option maxRecDepth 10000 in
set_option maxHeartbeats 8000000 in
theorem lawCounted_any (n a d s : Int) (c1 : Int) (c2 : Int) (pv3 : Value) (L3 : List I2) (w : World) (h3 : R2 w pv3 L3) :
    Calls Try.prog 7 #[vCh n a d s, .int .i64 c1, .int .i64 c2, pv3] w fun e w' => e = .returned (.bool true) ∧ Below w.heap.size w w' := by
  have HV3 := hide h3
  obtain ⟨ao3, cap3, rfl, hl3, hm3, hc3⟩ := h3
  unfold maxLen at hm3
  clear hc3
  have HTC := hide fun V => toCharter_any n a d s V
  have HSC := hide fun V {pv3 : Value} (r3 : R2 V pv3 L3) => specCounted_any n a d s c1 c2 _ L3 V r3
  have HIC := hide fun V {pv3 : Value} (r3 : R2 V pv3 L3) => implCounted_any n a d s c1 c2 _ L3 V r3
  obtain ⟨R, hR⟩ : ∃ x, x = cntV n a d s c1 c2 L3 := ⟨_, rfl⟩
  rw [← hR] at HSC HIC
  clear hR
  obtain ⟨⟨R1, R2, R3⟩, R4⟩ := R
  dsimp only at HSC HIC
  have hRR : (R4 != R4) = false := by cases R4 <;> rfl
  have HEQ := hide fun V => eqCount_any R1 R2 R3 V
  unfold v3 at HEQ
  have HB := hide (ownV_alloc w #[.int .i64 n, .int .i64 a, .int .i64 d, .int .i64 s] 45)
  have HW := hide (Below.alloc1 w (.cells #[.int .i64 n, .int .i64 a, .int .i64 d, .int .i64 s] 45))
  unfold vCh v3 at HSC HIC
  unfold vCh at HTC ⊢
  go_enter Try.func7, Try.ntmps7
  go_wp2_with fail
  refine (szSpellS_any _ L3 1048576 _ ((unhide HV3).below (unhide HW)) (by omega) (by omega)).mono ?_
  rintro e w3 ⟨l3, rfl, hs, hb⟩
  subst hb
  obtain ⟨hp3, hq3, hs⟩ := hs
  have HS := hide hs
  clear hs
  by_cases hneg3 : l3 < 0
  · clear HS
    go_wp2
    go_ret
    exact ⟨rfl, unhide HW⟩
  have hsn3 := unhide HS (by omega)
  clear HS
  have c_0 := (unhide HB).cell (i := 0) rfl
  have c_1 := (unhide HB).cell (i := 1) rfl
  have c_2 := (unhide HB).cell (i := 2) rfl
  have c_3 := (unhide HB).cell (i := 3) rfl
  go_wp2_with fail
  refine (unhide HTC _).mono ?_
  rintro e v1 ⟨rfl, hb⟩
  clear c_0 c_1 c_2 c_3
  replace HW := hide (Below.step (unhide HW) hb)
  replace HB := hide ((unhide HB).step hb)
  clear hb
  go_wp2_with fail
  refine (toSpellS_any _ L3 _ ((unhide HV3).below (unhide HW)) hsn3).mono ?_
  rintro e v2 ⟨gHX3, rfl, hgHX3, ho, hb⟩
  replace HW := hide (Below.step (unhide HW) hb)
  replace HB := hide ((unhide HB).step hb)
  clear hb
  have HX3 := hide ho
  clear ho
  go_wp2_with fail
  refine (unhide HSC _ (OwnV.recsIn (unhide HX3) (Nat.le_refl _) (by unfold maxLen; omega))).mono ?_
  rintro e v3 ⟨rfl, hb⟩
  replace HW := hide (Below.step (unhide HW) hb)
  replace HB := hide ((unhide HB).step hb)
  replace HX3 := hide ((unhide HX3).step hb)
  clear hb
  clear HX3
  have A := Below.alloc1 v3 (.cells #[.int .i64 R1, .int .i64 R2, .int .i64 R3] 34)
  obtain ⟨ZHK1, eZ⟩ : ∃ Z, Z = v3.alloc (.cells #[.int .i64 R1, .int .i64 R2, .int .i64 R3] 34) := ⟨_, rfl⟩
  have HK1 := hide (ownV_alloc v3 #[.int .i64 R1, .int .i64 R2, .int .i64 R3] 34)
  rw [← eZ] at A HK1
  have hb := A
  clear A
  replace HW := hide (Below.step (unhide HW) hb)
  replace HB := hide ((unhide HB).step hb)
  clear hb
  obtain ⟨bHK1, ebx⟩ : ∃ b, b = v3.heap.size := ⟨_, rfl⟩
  rw [← ebx] at HK1
  go_upto_region 6 with (fail)
  rw [← eZ, ← ebx]
  clear eZ ebx
  go_wp2_with fail
  refine (toSpellS_any _ L3 _ ((unhide HV3).below (unhide HW)) hsn3).mono ?_
  rintro e v4 ⟨gHY3, rfl, hgHY3, ho, hb⟩
  replace HW := hide (Below.step (unhide HW) hb)
  replace HB := hide ((unhide HB).step hb)
  replace HK1 := hide ((unhide HK1).step hb)
  clear hb
  have HY3 := hide ho
  clear ho
  have c_0 := (unhide HB).cell (i := 0) rfl
  have c_1 := (unhide HB).cell (i := 1) rfl
  have c_2 := (unhide HB).cell (i := 2) rfl
  have c_3 := (unhide HB).cell (i := 3) rfl
  go_wp2_with fail
  refine (unhide HTC _).mono ?_
  rintro e v5 ⟨rfl, hb⟩
  clear c_0 c_1 c_2 c_3
  replace HW := hide (Below.step (unhide HW) hb)
  replace HB := hide ((unhide HB).step hb)
  replace HK1 := hide ((unhide HK1).step hb)
  replace HY3 := hide ((unhide HY3).step hb)
  clear hb
  go_wp2_with fail
  refine (unhide HIC _ (OwnV.recsIn (unhide HY3) (Nat.le_refl _) (by unfold maxLen; omega))).mono ?_
  rintro e v6 ⟨rfl, hb⟩
  replace HW := hide (Below.step (unhide HW) hb)
  replace HB := hide ((unhide HB).step hb)
  replace HK1 := hide ((unhide HK1).step hb)
  replace HY3 := hide ((unhide HY3).step hb)
  clear hb
  have A := Below.alloc1 v6 (.cells #[.int .i64 R1, .int .i64 R2, .int .i64 R3] 34)
  obtain ⟨ZHK2, eZ⟩ : ∃ Z, Z = v6.alloc (.cells #[.int .i64 R1, .int .i64 R2, .int .i64 R3] 34) := ⟨_, rfl⟩
  have HK2 := hide (ownV_alloc v6 #[.int .i64 R1, .int .i64 R2, .int .i64 R3] 34)
  rw [← eZ] at A HK2
  have hb := A
  clear A
  replace HW := hide (Below.step (unhide HW) hb)
  replace HB := hide ((unhide HB).step hb)
  replace HK1 := hide ((unhide HK1).step hb)
  replace HY3 := hide ((unhide HY3).step hb)
  clear hb
  obtain ⟨bHK2, ebx⟩ : ∃ b, b = v6.heap.size := ⟨_, rfl⟩
  rw [← ebx] at HK2
  go_upto_region 8 with (fail)
  rw [← eZ, ← ebx]
  clear eZ ebx
  have x_0 := (unhide HK1).cell (i := 0) rfl
  have x_1 := (unhide HK1).cell (i := 1) rfl
  have x_2 := (unhide HK1).cell (i := 2) rfl
  have y_0 := (unhide HK2).cell (i := 0) rfl
  have y_1 := (unhide HK2).cell (i := 1) rfl
  have y_2 := (unhide HK2).cell (i := 2) rfl
  go_wp2_with fail
  refine (unhide HEQ _).mono ?_
  rintro e v7 ⟨rfl, hb⟩
  clear x_0 x_1 x_2 y_0 y_1 y_2
  replace HW := hide (Below.step (unhide HW) hb)
  replace HB := hide ((unhide HB).step hb)
  replace HK1 := hide ((unhide HK1).step hb)
  replace HY3 := hide ((unhide HY3).step hb)
  replace HK2 := hide ((unhide HK2).step hb)
  clear hb
  go_wp2_with fail
  refine (toSpellS_any _ L3 _ ((unhide HV3).below (unhide HW)) hsn3).mono ?_
  rintro e v8 ⟨gHZ3, rfl, hgHZ3, ho, hb⟩
  replace HW := hide (Below.step (unhide HW) hb)
  replace HB := hide ((unhide HB).step hb)
  replace HK1 := hide ((unhide HK1).step hb)
  replace HY3 := hide ((unhide HY3).step hb)
  replace HK2 := hide ((unhide HK2).step hb)
  clear hb
  have HZ3 := hide ho
  clear ho
  go_wp2_with fail
  refine (eqSpellS_any _ _ L3 _ (OwnV.recsIn (unhide HY3) (Nat.le_refl _) (by unfold maxLen; omega)) (OwnV.recsIn (unhide HZ3) (Nat.le_refl _) (by unfold maxLen; omega))).mono ?_
  rintro e v9 ⟨rfl, hb⟩
  replace HW := hide (Below.step (unhide HW) hb)
  replace HB := hide ((unhide HB).step hb)
  replace HK1 := hide ((unhide HK1).step hb)
  replace HY3 := hide ((unhide HY3).step hb)
  replace HK2 := hide ((unhide HK2).step hb)
  replace HZ3 := hide ((unhide HZ3).step hb)
  clear hb
  clear HZ3
  go_wp2
  go_ret
  exact ⟨rfl, unhide HW⟩

end Go.Proofs.Yticminoejikdfaa

/- FnExactStarts: at every argument the program's Starts answers as the specification's; the arguments read as before. Written by wip/mk15.py. -/
import Derived.Test.YticminoejikdfaaLyS
import Derived.Test.YticminoejikdfaaRSpell
import Derived.Test.YticminoejikdfaaExactKit
import Derived.Deep.Cut
namespace Go.Proofs.Yticminoejikdfaa
open Go.RowKit

set_option maxRecDepth 10000 in
set_option maxHeartbeats 8000000 in
theorem lawStarts_any (n a d s : Int) (c1 : Int) (pv2 : Value) (L2 : List I2) (w : World) (h2 : R2 w pv2 L2) :
    Calls Try.prog 6 #[vCh n a d s, .int .i64 c1, pv2] w fun e w' => e = .returned (.bool true) ∧ Below w.heap.size w w' := by
  have HV2 := hide h2
  obtain ⟨ao2, cap2, rfl, hl2, hm2, hc2⟩ := h2
  unfold maxLen at hm2
  clear hc2
  have HTC := hide fun V => toCharter_any n a d s V
  have HSC := hide fun V {pv2 : Value} (r2 : R2 V pv2 L2) => specStarts_any n a d s c1 _ L2 V r2
  have HIC := hide fun V {pv2 : Value} (r2 : R2 V pv2 L2) => implStarts_any n a d s c1 _ L2 V r2
  obtain ⟨R, hR⟩ : ∃ x, x = startV n a d s c1 L2 := ⟨_, rfl⟩
  rw [← hR] at HSC HIC
  clear hR
  obtain ⟨R1, R2⟩ := R
  dsimp only at HSC HIC
  have hRR : (R2 != R2) = false := by cases R2 <;> rfl
  have hR1 : (R1 != R1) = false := by simp
  have HB := hide (ownV_alloc w #[.int .i64 n, .int .i64 a, .int .i64 d, .int .i64 s] 45)
  have HW := hide (Below.alloc1 w (.cells #[.int .i64 n, .int .i64 a, .int .i64 d, .int .i64 s] 45))
  unfold vCh at HTC HSC HIC ⊢
  go_enter Try.func6, Try.ntmps6
  go_wp2_with fail
  refine (szSpellS_any _ L2 1048576 _ ((unhide HV2).below (unhide HW)) (by omega) (by omega)).mono ?_
  rintro e w2 ⟨l2, rfl, hs, hb⟩
  subst hb
  obtain ⟨hp2, hq2, hs⟩ := hs
  have HS := hide hs
  clear hs
  by_cases hneg2 : l2 < 0
  · clear HS
    go_wp2
    go_ret
    exact ⟨rfl, unhide HW⟩
  have hsn2 := unhide HS (by omega)
  clear HS
  have c_0 := (unhide HB).cell (i := 0) rfl
  have c_1 := (unhide HB).cell (i := 1) rfl
  have c_2 := (unhide HB).cell (i := 2) rfl
  have c_3 := (unhide HB).cell (i := 3) rfl
  go_wp2_with fail
  refine (unhide HTC _).mono ?_
  rintro e v1 ⟨rfl, hb⟩
  clear c_0 c_1 c_2 c_3
  replace HW := hide (Below.step (unhide HW) hb)
  replace HB := hide ((unhide HB).step hb)
  clear hb
  go_wp2_with fail
  refine (toSpellS_any _ L2 _ ((unhide HV2).below (unhide HW)) hsn2).mono ?_
  rintro e v2 ⟨gHX2, rfl, hgHX2, ho, hb⟩
  replace HW := hide (Below.step (unhide HW) hb)
  replace HB := hide ((unhide HB).step hb)
  clear hb
  have HX2 := hide ho
  clear ho
  go_wp2_with fail
  refine (unhide HSC _ (OwnV.recsIn (unhide HX2) (Nat.le_refl _) (by unfold maxLen; omega))).mono ?_
  rintro e v3 ⟨rfl, hb⟩
  replace HW := hide (Below.step (unhide HW) hb)
  replace HB := hide ((unhide HB).step hb)
  replace HX2 := hide ((unhide HX2).step hb)
  clear hb
  clear HX2
  go_wp2_with fail
  refine (toSpellS_any _ L2 _ ((unhide HV2).below (unhide HW)) hsn2).mono ?_
  rintro e v4 ⟨gHY2, rfl, hgHY2, ho, hb⟩
  replace HW := hide (Below.step (unhide HW) hb)
  replace HB := hide ((unhide HB).step hb)
  clear hb
  have HY2 := hide ho
  clear ho
  have c_0 := (unhide HB).cell (i := 0) rfl
  have c_1 := (unhide HB).cell (i := 1) rfl
  have c_2 := (unhide HB).cell (i := 2) rfl
  have c_3 := (unhide HB).cell (i := 3) rfl
  go_wp2_with fail
  refine (unhide HTC _).mono ?_
  rintro e v5 ⟨rfl, hb⟩
  clear c_0 c_1 c_2 c_3
  replace HW := hide (Below.step (unhide HW) hb)
  replace HB := hide ((unhide HB).step hb)
  replace HY2 := hide ((unhide HY2).step hb)
  clear hb
  go_wp2_with fail
  refine (unhide HIC _ (OwnV.recsIn (unhide HY2) (Nat.le_refl _) (by unfold maxLen; omega))).mono ?_
  rintro e v6 ⟨rfl, hb⟩
  replace HW := hide (Below.step (unhide HW) hb)
  replace HB := hide ((unhide HB).step hb)
  replace HY2 := hide ((unhide HY2).step hb)
  clear hb
  go_wp2_with fail
  refine (toSpellS_any _ L2 _ ((unhide HV2).below (unhide HW)) hsn2).mono ?_
  rintro e v7 ⟨gHZ2, rfl, hgHZ2, ho, hb⟩
  replace HW := hide (Below.step (unhide HW) hb)
  replace HB := hide ((unhide HB).step hb)
  replace HY2 := hide ((unhide HY2).step hb)
  clear hb
  have HZ2 := hide ho
  clear ho
  go_wp2_with fail
  refine (eqSpellS_any _ _ L2 _ (OwnV.recsIn (unhide HY2) (Nat.le_refl _) (by unfold maxLen; omega)) (OwnV.recsIn (unhide HZ2) (Nat.le_refl _) (by unfold maxLen; omega))).mono ?_
  rintro e v8 ⟨rfl, hb⟩
  replace HW := hide (Below.step (unhide HW) hb)
  replace HB := hide ((unhide HB).step hb)
  replace HY2 := hide ((unhide HY2).step hb)
  replace HZ2 := hide ((unhide HZ2).step hb)
  clear hb
  clear HZ2
  go_wp2
  go_ret
  exact ⟨rfl, unhide HW⟩

end Go.Proofs.Yticminoejikdfaa

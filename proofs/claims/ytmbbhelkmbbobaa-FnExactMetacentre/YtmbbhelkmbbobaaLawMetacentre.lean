/- FnExactMetacentre: at every argument the program's Metacentre answers as the specification's; the arguments read as before. Written by wip/mkexact.py. -/
import Derived.Test.YtmbbhelkmbbobaaStEs
import Derived.Test.YtmbbhelkmbbobaaFlatA
import Derived.Test.YtmbbhelkmbbobaaRTank
import Derived.Test.YtmbbhelkmbbobaaExactKit
import Derived.Deep.RegionWith
namespace Go.Proofs.Ytmbbhelkmbbobaa
open Go.RowKit

set_option maxHeartbeats 4000000 in
theorem lawMetacentre_any (s0 r0 : Int) (v0 : Value) (R0 : List (List Int)) (c1 : Int) (v2 : Value) (L2 : List I3) (v3 : Value) (L3 : List I2) (w : World) (h0 : RowsIn w v0 R0) (h2 : R3 w v2 L2) (h3 : R2 w v3 L3) :
    Calls Try.prog 7 #[hullV s0 r0 v0, .int .i64 c1, v2, v3] w fun e w' => e = .returned (.bool true) ∧ Below w.heap.size w w' := by
  have HV0 := hide h0
  obtain ⟨ao0, cap0, rfl, hl0, hm0, hc0⟩ := h0
  clear hc0 hl0 hm0
  have HV2 := hide h2
  obtain ⟨ao2, cap2, rfl, hl2, hm2, hc2⟩ := h2
  clear hc2 hl2 hm2
  have HV3 := hide h3
  obtain ⟨ao3, cap3, rfl, hl3, hm3, hc3⟩ := h3
  clear hc3 hl3 hm3
  have HW := hide (Below.refl w.heap.size w)
  unfold hullV
  go_enter Try.func7, Try.ntmps7
  have AHB0 := Below.alloc1 (w) (.cells #[.int .i64 s0, .int .i64 r0, .slice ao0 R0.length cap0] 59)
  replace HW := hide (Below.step (unhide HW) AHB0)
  have HB0 := hide (ownV_alloc (w) #[.int .i64 s0, .int .i64 r0, .slice ao0 R0.length cap0] 59)
  clear AHB0
  go_wp2_with fail
  refine (szHull_any s0 r0 _ R0 _ ((unhide HV0).below (unhide HW))).mono ?_
  rintro e w1 ⟨l0, rfl, hs, hb⟩
  replace HW := hide (Below.step (unhide HW) hb)
  replace HB0 := hide (OwnV.step (unhide HB0) hb)
  clear hb
  obtain ⟨hp0, hq0, hs⟩ := hs
  have HS := hide hs
  clear hs
  by_cases hneg0 : l0 < 0
  · clear HS
    go_wp2
    go_ret
    exact ⟨rfl, unhide HW⟩
  obtain ⟨hsn0, hsl⟩ := unhide HS (by omega)
  have HL0 := hide hsl
  clear hsl HS
  go_wp2_with fail
  refine (szMassS_any _ L2 l0 _ ((unhide HV2).below (unhide HW)) (by omega) (by omega)).mono ?_
  rintro e w2 ⟨l2, rfl, hs, hb⟩
  subst hb
  obtain ⟨hp2, hq2, hs⟩ := hs
  have HS := hide hs
  clear hs
  by_cases hneg2 : l2 < 0
  · clear HS
    go_wp2
    go_ret
    exact ⟨rfl, unhide HW⟩
  have hsn2 := unhide HS (by omega)
  clear HS
  go_wp2_with fail
  refine (szTankS_any _ L3 l2 _ ((unhide HV3).below (unhide HW)) (by omega) (by omega)).mono ?_
  rintro e w2 ⟨l3, rfl, hs, hb⟩
  subst hb
  obtain ⟨hp3, hq3, hs⟩ := hs
  have HS := hide hs
  clear hs
  by_cases hneg3 : l3 < 0
  · clear HS
    go_wp2
    go_ret
    exact ⟨rfl, unhide HW⟩
  have hsn3 := unhide HS (by omega)
  clear HS
  have cHB00 := OwnV.cell (unhide HB0) (i := 0) rfl
  have cHB01 := OwnV.cell (unhide HB0) (i := 1) rfl
  have cHB02 := OwnV.cell (unhide HB0) (i := 2) rfl
  go_wp2_with fail
  refine (toHull_any s0 r0 _ R0 _ ((unhide HV0).below (unhide HW)) hsn0 (unhide HL0)).mono ?_
  rintro e w2 ⟨gHS0, GHS0, CHS0, rfl, ho, hb⟩
  clear cHB00 cHB01 cHB02
  replace HW := hide (Below.step (unhide HW) hb)
  replace HB0 := hide (OwnV.step (unhide HB0) hb)
  have HS0 := hide ho
  clear hb ho
  go_wp2_with fail
  refine (toMassS_any _ L2 _ ((unhide HV2).below (unhide HW)) hsn2).mono ?_
  rintro e w3 ⟨gHS2, rfl, _, ho, hb⟩
  replace HW := hide (Below.step (unhide HW) hb)
  replace HB0 := hide (OwnV.step (unhide HB0) hb)
  replace HS0 := hide ((unhide HS0).below hb)
  have HS2 := hide ho
  clear hb ho
  go_wp2_with fail
  refine (toTankS_any _ L3 _ ((unhide HV3).below (unhide HW)) hsn3).mono ?_
  rintro e w4 ⟨gHS3, rfl, _, ho, hb⟩
  replace HW := hide (Below.step (unhide HW) hb)
  replace HB0 := hide (OwnV.step (unhide HB0) hb)
  replace HS0 := hide ((unhide HS0).below hb)
  replace HS2 := hide (OwnV.step (unhide HS2) hb)
  have HS3 := hide ho
  clear hb ho
  go_wp2_with fail
  refine (specMetacentre_any s0 r0 _ R0 c1 _ L2 _ L3 _ ((unhide HS0).rowsIn (Nat.le_refl _) (by unfold maxLen; omega)) (OwnV.recsIn (unhide HS2) (Nat.le_refl _) (by unfold maxLen; omega)) (OwnV.recsIn (unhide HS3) (Nat.le_refl _) (by unfold maxLen; omega))).mono ?_
  rintro e w5 ⟨rfl, hb⟩
  clear HS0 HS2 HS3
  replace HW := hide (Below.step (unhide HW) hb)
  replace HB0 := hide (OwnV.step (unhide HB0) hb)
  clear hb
  obtain ⟨⟨y0a, y0b⟩, ev0⟩ : ∃ x, x = metaV s0 r0 R0 c1 L2 L3 := ⟨_, rfl⟩
  rw [← ev0]
  have EV0 := hide ev0
  clear ev0
  generalize ev1 : metaB s0 r0 R0 c1 L2 L3 = V1
  have EV1 := hide ev1
  clear ev1
  have AHR0 := Below.alloc1 (w5) (.cells #[.int .i64 y0a, .int .i64 y0b] 34)
  replace HW := hide (Below.step (unhide HW) AHR0)
  replace HB0 := hide (OwnV.step (unhide HB0) AHR0)
  have HR0 := hide (ownV_alloc (w5) #[.int .i64 y0a, .int .i64 y0b] 34)
  clear AHR0
  have cHB00 := OwnV.cell (unhide HB0) (i := 0) rfl
  have cHB01 := OwnV.cell (unhide HB0) (i := 1) rfl
  have cHB02 := OwnV.cell (unhide HB0) (i := 2) rfl
  go_wp2_with fail
  refine (toHull_any s0 r0 _ R0 _ ((unhide HV0).below (unhide HW)) hsn0 (unhide HL0)).mono ?_
  rintro e w6 ⟨gHO0, GHO0, CHO0, rfl, ho, hb⟩
  clear cHB00 cHB01 cHB02
  replace HW := hide (Below.step (unhide HW) hb)
  replace HB0 := hide (OwnV.step (unhide HB0) hb)
  replace HR0 := hide (OwnV.step (unhide HR0) hb)
  have HO0 := hide ho
  clear hb ho
  have AHM0 := Below.alloc1 (w6) (.cells #[.int .i64 s0, .int .i64 r0, .slice (some ⟨gHO0, 0, none⟩) R0.length R0.length] 26)
  replace HW := hide (Below.step (unhide HW) AHM0)
  replace HB0 := hide (OwnV.step (unhide HB0) AHM0)
  replace HR0 := hide (OwnV.step (unhide HR0) AHM0)
  replace HO0 := hide ((unhide HO0).below AHM0)
  have HM0 := hide (ownV_alloc (w6) #[.int .i64 s0, .int .i64 r0, .slice (some ⟨gHO0, 0, none⟩) R0.length R0.length] 26)
  clear AHM0
  go_wp2_with fail
  refine (toMassS_any _ L2 _ ((unhide HV2).below (unhide HW)) hsn2).mono ?_
  rintro e w7 ⟨gHO2, rfl, _, ho, hb⟩
  replace HW := hide (Below.step (unhide HW) hb)
  replace HB0 := hide (OwnV.step (unhide HB0) hb)
  replace HR0 := hide (OwnV.step (unhide HR0) hb)
  replace HO0 := hide ((unhide HO0).below hb)
  replace HM0 := hide (OwnV.step (unhide HM0) hb)
  have HO2 := hide ho
  clear hb ho
  go_wp2_with fail
  refine (toTankS_any _ L3 _ ((unhide HV3).below (unhide HW)) hsn3).mono ?_
  rintro e w8 ⟨gHO3, rfl, _, ho, hb⟩
  replace HW := hide (Below.step (unhide HW) hb)
  replace HB0 := hide (OwnV.step (unhide HB0) hb)
  replace HR0 := hide (OwnV.step (unhide HR0) hb)
  replace HO0 := hide ((unhide HO0).below hb)
  replace HM0 := hide (OwnV.step (unhide HM0) hb)
  replace HO2 := hide (OwnV.step (unhide HO2) hb)
  have HO3 := hide ho
  clear hb ho
  have cHM00 := OwnV.cell (unhide HM0) (i := 0) rfl
  have cHM01 := OwnV.cell (unhide HM0) (i := 1) rfl
  have cHM02 := OwnV.cell (unhide HM0) (i := 2) rfl
  go_wp2_with fail
  refine (implMetacentre_any s0 r0 _ R0 c1 _ L2 _ L3 _ ((unhide HO0).rowsIn (Nat.le_refl _) (by unfold maxLen; omega)) (OwnV.recsIn (unhide HO2) (Nat.le_refl _) (by unfold maxLen; omega)) (OwnV.recsIn (unhide HO3) (Nat.le_refl _) (by unfold maxLen; omega))).mono ?_
  rintro e w9 ⟨rfl, hb⟩
  clear cHM00 cHM01 cHM02
  replace HW := hide (Below.step (unhide HW) hb)
  replace HB0 := hide (OwnV.step (unhide HB0) hb)
  replace HR0 := hide (OwnV.step (unhide HR0) hb)
  replace HO0 := hide ((unhide HO0).below hb)
  replace HM0 := hide (OwnV.step (unhide HM0) hb)
  replace HO2 := hide (OwnV.step (unhide HO2) hb)
  replace HO3 := hide (OwnV.step (unhide HO3) hb)
  clear hb
  rw [← unhide EV0]
  rw [unhide EV1]
  have AHG0 := Below.alloc1 (w9) (.cells #[.int .i64 y0a, .int .i64 y0b] 34)
  replace HW := hide (Below.step (unhide HW) AHG0)
  replace HB0 := hide (OwnV.step (unhide HB0) AHG0)
  replace HR0 := hide (OwnV.step (unhide HR0) AHG0)
  replace HO0 := hide ((unhide HO0).below AHG0)
  replace HM0 := hide (OwnV.step (unhide HM0) AHG0)
  replace HO2 := hide (OwnV.step (unhide HO2) AHG0)
  replace HO3 := hide (OwnV.step (unhide HO3) AHG0)
  have HG0 := hide (ownV_alloc (w9) #[.int .i64 y0a, .int .i64 y0b] 34)
  clear AHG0
  have cHR00 := OwnV.cell (unhide HR0) (i := 0) rfl
  have cHR01 := OwnV.cell (unhide HR0) (i := 1) rfl
  have cHG00 := OwnV.cell (unhide HG0) (i := 0) rfl
  have cHG01 := OwnV.cell (unhide HG0) (i := 1) rfl
  go_wp2_with fail
  refine (eqFrac_any y0a y0b _).mono ?_
  rintro e w10 ⟨rfl, hb⟩
  clear cHR00 cHR01 cHG00 cHG01
  clear HR0 HG0
  replace HW := hide (Below.step (unhide HW) hb)
  replace HB0 := hide (OwnV.step (unhide HB0) hb)
  replace HO0 := hide ((unhide HO0).below hb)
  replace HM0 := hide (OwnV.step (unhide HM0) hb)
  replace HO2 := hide (OwnV.step (unhide HO2) hb)
  replace HO3 := hide (OwnV.step (unhide HO3) hb)
  clear hb
  have cHB00 := OwnV.cell (unhide HB0) (i := 0) rfl
  have cHB01 := OwnV.cell (unhide HB0) (i := 1) rfl
  have cHB02 := OwnV.cell (unhide HB0) (i := 2) rfl
  have cHM00 := OwnV.cell (unhide HM0) (i := 0) rfl
  have cHM01 := OwnV.cell (unhide HM0) (i := 1) rfl
  have cHM02 := OwnV.cell (unhide HM0) (i := 2) rfl
  go_wp2
  clear cHB00 cHB01 cHB02 cHM00 cHM01 cHM02
  have hd : Below (w10).heap.size (w10) (w10).drew := (Below.refl _ _).drew
  replace HW := hide (Below.step (unhide HW) hd)
  replace HB0 := hide (OwnV.step (unhide HB0) hd)
  replace HO0 := hide ((unhide HO0).below hd)
  replace HM0 := hide (OwnV.step (unhide HM0) hd)
  replace HO2 := hide (OwnV.step (unhide HO2) hd)
  replace HO3 := hide (OwnV.step (unhide HO3) hd)
  clear hd
  have cHB00 := OwnV.cell (unhide HB0) (i := 0) rfl
  have cHB01 := OwnV.cell (unhide HB0) (i := 1) rfl
  have cHB02 := OwnV.cell (unhide HB0) (i := 2) rfl
  have cHM00 := OwnV.cell (unhide HM0) (i := 0) rfl
  have cHM01 := OwnV.cell (unhide HM0) (i := 1) rfl
  have cHM02 := OwnV.cell (unhide HM0) (i := 2) rfl
  have HT := hide (toHull_any s0 r0 _ R0 ((w10).drew) ((unhide HV0).below (unhide HW)) hsn0 (unhide HL0))
  go_region_with (first
    | (go_at_call 35; refine (unhide HT).mono ?_; rintro e w11 ⟨g7, G7, C7, rfl, ho7, hb7⟩; replace HW := hide (Below.step (unhide HW) hb7); replace HB0 := hide (OwnV.step (unhide HB0) hb7); replace HO0 := hide ((unhide HO0).below hb7); replace HM0 := hide (OwnV.step (unhide HM0) hb7); replace HO2 := hide (OwnV.step (unhide HO2) hb7); replace HO3 := hide (OwnV.step (unhide HO3) hb7); have HE := hide (eqHull_any s0 r0 (.slice (some ⟨gHO0, 0, none⟩) R0.length R0.length) (.slice (some ⟨g7, 0, none⟩) R0.length R0.length) R0 w11 ((unhide HO0).rowsIn (Nat.le_refl _) (by unfold maxLen; omega)) (ho7.rowsIn (Nat.le_refl _) (by unfold maxLen; omega))); have f0 := OwnV.cell (unhide HM0) (i := 0) rfl; have f1 := OwnV.cell (unhide HM0) (i := 1) rfl; have f2 := OwnV.cell (unhide HM0) (i := 2) rfl; clear ho7 hb7)
    | (go_at_call 38; refine (unhide HE).mono ?_; rintro e w12 ⟨rfl, hb8⟩; replace HW := hide (Below.step (unhide HW) hb8); replace HB0 := hide (OwnV.step (unhide HB0) hb8); replace HO0 := hide ((unhide HO0).below hb8); replace HM0 := hide (OwnV.step (unhide HM0) hb8); replace HO2 := hide (OwnV.step (unhide HO2) hb8); replace HO3 := hide (OwnV.step (unhide HO3) hb8); clear hb8))
  all_goals
    go_wp2_with fail
    refine (toMassS_any _ L2 _ ((unhide HV2).below (unhide HW)) hsn2).mono ?_
    rintro e w13 ⟨gHY2, rfl, _, ho, hb⟩
    replace HW := hide (Below.step (unhide HW) hb)
    replace HO2 := hide (OwnV.step (unhide HO2) hb)
    replace HO3 := hide (OwnV.step (unhide HO3) hb)
    have HY2 := hide ho
    clear hb ho
    go_wp2_with fail
    refine (eqMassS_any _ _ L2 _ (OwnV.recsIn (unhide HO2) (Nat.le_refl _) (by unfold maxLen; omega)) (OwnV.recsIn (unhide HY2) (Nat.le_refl _) (by unfold maxLen; omega))).mono ?_
    rintro e w14 ⟨rfl, hb⟩
    clear HY2 HO2
    replace HW := hide (Below.step (unhide HW) hb)
    replace HO3 := hide (OwnV.step (unhide HO3) hb)
    clear hb
    go_wp2_with fail
    refine (toTankS_any _ L3 _ ((unhide HV3).below (unhide HW)) hsn3).mono ?_
    rintro e w15 ⟨gHY3, rfl, _, ho, hb⟩
    replace HW := hide (Below.step (unhide HW) hb)
    replace HO3 := hide (OwnV.step (unhide HO3) hb)
    have HY3 := hide ho
    clear hb ho
    go_wp2_with fail
    refine (eqTankS_any _ _ L3 _ (OwnV.recsIn (unhide HO3) (Nat.le_refl _) (by unfold maxLen; omega)) (OwnV.recsIn (unhide HY3) (Nat.le_refl _) (by unfold maxLen; omega))).mono ?_
    rintro e w16 ⟨rfl, hb⟩
    clear HY3 HO3
    replace HW := hide (Below.step (unhide HW) hb)
    clear hb
    go_wp2
    go_ret
    exact ⟨rfl, unhide HW⟩

end Go.Proofs.Ytmbbhelkmbbobaa

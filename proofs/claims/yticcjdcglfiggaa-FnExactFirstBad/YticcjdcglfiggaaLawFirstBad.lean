/- FnExactFirstBad: at every argument the program's FirstBad answers as the specification's; the arguments read as before. Written by wip/mkexact2.py. -/
import Derived.Test.YticcjdcglfiggaaStK
import Derived.Test.YticcjdcglfiggaaFlatA
import Derived.Test.YticcjdcglfiggaaExactKit
import Derived.Test.YticcjdcglfiggaaOwnHull
import Derived.Deep.RegionWith
namespace Go.Proofs.Yticcjdcglfiggaa
open Go.RowKit

set_option maxHeartbeats 8000000 in
theorem lawFirstBad_any (s0 r0 : Int) (pv0 : Value) (R0 : List (List Int)) (pv1 : Value) (L1 : List I3) (pv2 : Value) (L2 : List I2) (pv3 : Value) (L3 : List (List I3)) (x4a x4b : Int) (w : World) (h0 : RowsIn w pv0 R0) (h1 : R3 w pv1 L1) (h2 : R2 w pv2 L2) (h3 : RR3 w pv3 L3) :
    Calls Try.prog 8 #[hullV s0 r0 pv0, pv1, pv2, pv3, v2 (x4a, x4b)] w fun e w' => e = .returned (.bool true) ∧ Below w.heap.size w w' := by
  have HV0 := hide h0
  obtain ⟨ao0, cap0, rfl, hl0, hm0, hc0⟩ := h0
  clear hc0 hl0 hm0
  have HV1 := hide h1
  obtain ⟨ao1, cap1, rfl, hl1, hm1, hc1⟩ := h1
  clear hc1 hl1 hm1
  have HV2 := hide h2
  obtain ⟨ao2, cap2, rfl, hl2, hm2, hc2⟩ := h2
  clear hc2 hl2 hm2
  have HV3 := hide h3
  obtain ⟨ao3, cap3, rfl, hl3, hm3, hc3⟩ := h3
  clear hc3 hl3 hm3
  obtain ⟨V0, ev⟩ : ∃ x, x = firstBad s0 r0 R0 L1 L2 L3 (x4a, x4b) := ⟨_, rfl⟩
  have EV0 := hide ev
  clear ev
  have HW := hide (Below.refl w.heap.size w)
  unfold hullV
  go_enter Try.func8, Try.ntmps8
  have AHB0 := Below.alloc1 (w) (.cells #[.int .i64 s0, .int .i64 r0, .slice ao0 R0.length cap0] 48)
  replace HW := hide (Below.step (unhide HW) AHB0)
  have HB0 := hide (ownV_alloc (w) #[.int .i64 s0, .int .i64 r0, .slice ao0 R0.length cap0] 48)
  clear AHB0
  have AHB4 := Below.alloc1 ((w).alloc (.cells #[.int .i64 s0, .int .i64 r0, .slice ao0 R0.length cap0] 48)) (.cells #[.int .i64 x4a, .int .i64 x4b] 61)
  replace HW := hide (Below.step (unhide HW) AHB4)
  replace HB0 := hide (OwnV.step (unhide HB0) AHB4)
  have HB4 : Hid (OwnV (((w).alloc (.cells #[.int .i64 s0, .int .i64 r0, .slice ao0 R0.length cap0] 48)).alloc (.cells #[.int .i64 x4a, .int .i64 x4b] 61)) (w.heap.size + 1) [.int .i64 x4a, .int .i64 x4b]) := by
    have h := ownV_alloc ((w).alloc (.cells #[.int .i64 s0, .int .i64 r0, .slice ao0 R0.length cap0] 48)) #[.int .i64 x4a, .int .i64 x4b] 61
    simp only [World.size_alloc] at h
    exact h
  clear AHB4
  have cHB00 := OwnV.cell (unhide HB0) (i := 0) rfl
  have cHB01 := OwnV.cell (unhide HB0) (i := 1) rfl
  have cHB02 := OwnV.cell (unhide HB0) (i := 2) rfl
  go_wp2_with fail
  refine (szHull_any s0 r0 _ R0 _ ((unhide HV0).below (unhide HW))).mono ?_
  rintro e w1 ⟨l0, rfl, hs, hb⟩
  clear cHB00 cHB01 cHB02
  replace HW := hide (Below.step (unhide HW) hb)
  replace HB0 := hide (OwnV.step (unhide HB0) hb)
  replace HB4 := hide (OwnV.step (unhide HB4) hb)
  have zw1 := hb.size
  simp only [World.size_alloc] at zw1
  clear hb
  obtain ⟨hp0, hq0, hs⟩ := hs
  have HS := hide hs
  clear hs
  by_cases hneg0 : l0 < 0
  · clear HS
    go_wp2
    go_ret
    exact ⟨rfl, unhide HW⟩
  obtain ⟨hsn0, hsl⟩ := unhide HS (by omega)
  have HL0 := hide hsl
  clear hsl HS
  go_wp2_with fail
  refine (szMassS_any _ L1 l0 _ ((unhide HV1).below (unhide HW)) (by omega) (by omega)).mono ?_
  rintro e w2 ⟨l1, rfl, hs, hb⟩
  subst hb
  obtain ⟨hp1, hq1, hs⟩ := hs
  have HS := hide hs
  clear hs
  by_cases hneg1 : l1 < 0
  · clear HS
    go_wp2
    go_ret
    exact ⟨rfl, unhide HW⟩
  have hsn1 := unhide HS (by omega)
  clear HS
  go_wp2_with fail
  refine (szTankS_any _ L2 l1 _ ((unhide HV2).below (unhide HW)) (by omega) (by omega)).mono ?_
  rintro e w2 ⟨l2, rfl, hs, hb⟩
  subst hb
  obtain ⟨hp2, hq2, hs⟩ := hs
  have HS := hide hs
  clear hs
  by_cases hneg2 : l2 < 0
  · clear HS
    go_wp2
    go_ret
    exact ⟨rfl, unhide HW⟩
  have hsn2 := unhide HS (by omega)
  clear HS
  go_wp2_with fail
  refine (szRoomSS_any _ L3 l2 _ ((unhide HV3).below (unhide HW)) (by omega) (by omega)).mono ?_
  rintro e w2 ⟨l3, rfl, hs, hb⟩
  subst hb
  obtain ⟨hp3, hq3, hs⟩ := hs
  have HS := hide hs
  clear hs
  by_cases hneg3 : l3 < 0
  · clear HS
    go_wp2
    go_ret
    exact ⟨rfl, unhide HW⟩
  obtain ⟨hsn3, hsl⟩ := unhide HS (by omega)
  have HL3 := hide hsl
  clear hsl HS
  have cHB00 := OwnV.cell (unhide HB0) (i := 0) rfl
  have cHB01 := OwnV.cell (unhide HB0) (i := 1) rfl
  have cHB02 := OwnV.cell (unhide HB0) (i := 2) rfl
  have cHB40 := OwnV.cell (unhide HB4) (i := 0) rfl
  have cHB41 := OwnV.cell (unhide HB4) (i := 1) rfl
  go_wp2
  clear cHB00 cHB01 cHB02 cHB40 cHB41
  have hd : Below (w1).heap.size (w1) (w1).drew := (Below.refl _ _).drew
  replace HW := hide (Below.step (unhide HW) hd)
  replace HB0 := hide (OwnV.step (unhide HB0) hd)
  replace HB4 := hide (OwnV.step (unhide HB4) hd)
  clear hd
  have kHB00 := OwnV.cell (unhide HB0) (i := 0) rfl
  have kHB01 := OwnV.cell (unhide HB0) (i := 1) rfl
  have kHB02 := OwnV.cell (unhide HB0) (i := 2) rfl
  have kHB40 := OwnV.cell (unhide HB4) (i := 0) rfl
  have kHB41 := OwnV.cell (unhide HB4) (i := 1) rfl
  go_region_held3 (fun w' => w'.cell? ⟨w.heap.size, 0, none⟩ = some (.int .i64 s0) ∧ w'.cell? ⟨w.heap.size, 1, none⟩ = some (.int .i64 r0) ∧ w'.cell? ⟨w.heap.size, 2, none⟩ = some (.slice ao0 R0.length cap0) ∧ w'.cell? ⟨w.heap.size + 1, 0, none⟩ = some (.int .i64 x4a) ∧ w'.cell? ⟨w.heap.size + 1, 1, none⟩ = some (.int .i64 x4b)) (go_keep) (first
    | (go_at_call 27; refine (toHull_any s0 r0 _ R0 _ ((unhide HV0).below (unhide HW)) hsn0 (unhide HL0)).mono ?_; rintro e w2 ⟨gHS0, GHS0, CHS0, rfl, ho, hb⟩; replace HW := hide (Below.step (unhide HW) hb); replace HB0 := hide (OwnV.step (unhide HB0) hb); replace HB4 := hide (OwnV.step (unhide HB4) hb); have ho := OwnRows.upto ho hsn0; simp only [World.size_drew] at ho; have HS0 := hide ho; have zw2 := hb.size; simp only [World.size_drew] at zw2; clear hb ho; have kHB00 := OwnV.cell (unhide HB0) (i := 0) rfl; have kHB01 := OwnV.cell (unhide HB0) (i := 1) rfl; have kHB02 := OwnV.cell (unhide HB0) (i := 2) rfl; have kHB40 := OwnV.cell (unhide HB4) (i := 0) rfl; have kHB41 := OwnV.cell (unhide HB4) (i := 1) rfl)
    | (go_at_call 39; refine (toMassS_any _ L1 _ ((unhide HV1).below (unhide HW)) hsn1).mono ?_; rintro e w3 ⟨gHS1, rfl, hgHS1, ho, hb⟩; replace HW := hide (Below.step (unhide HW) hb); replace HB0 := hide (OwnV.step (unhide HB0) hb); replace HB4 := hide (OwnV.step (unhide HB4) hb); replace HS0 := hide ((unhide HS0).below hb); have huHS1 := ho.lt; have HS1 := hide ho; have zw3 := hb.size; clear hb ho; have kHB00 := OwnV.cell (unhide HB0) (i := 0) rfl; have kHB01 := OwnV.cell (unhide HB0) (i := 1) rfl; have kHB02 := OwnV.cell (unhide HB0) (i := 2) rfl; have kHB40 := OwnV.cell (unhide HB4) (i := 0) rfl; have kHB41 := OwnV.cell (unhide HB4) (i := 1) rfl)
    | (go_at_call 40; refine (toTankS_any _ L2 _ ((unhide HV2).below (unhide HW)) hsn2).mono ?_; rintro e w4 ⟨gHS2, rfl, hgHS2, ho, hb⟩; replace HW := hide (Below.step (unhide HW) hb); replace HB0 := hide (OwnV.step (unhide HB0) hb); replace HB4 := hide (OwnV.step (unhide HB4) hb); replace HS0 := hide ((unhide HS0).below hb); replace HS1 := hide (OwnV.step (unhide HS1) hb); have huHS2 := ho.lt; have HS2 := hide ho; have zw4 := hb.size; clear hb ho; have kHB00 := OwnV.cell (unhide HB0) (i := 0) rfl; have kHB01 := OwnV.cell (unhide HB0) (i := 1) rfl; have kHB02 := OwnV.cell (unhide HB0) (i := 2) rfl; have kHB40 := OwnV.cell (unhide HB4) (i := 0) rfl; have kHB41 := OwnV.cell (unhide HB4) (i := 1) rfl)
    | (go_at_call 46; refine (toRoomSS_any _ L3 _ ((unhide HV3).below (unhide HW)) hsn3 (unhide HL3)).mono ?_; rintro e w5 ⟨gHS3, rfl, hgHS3, ho, hb⟩; replace HW := hide (Below.step (unhide HW) hb); replace HB0 := hide (OwnV.step (unhide HB0) hb); replace HB4 := hide (OwnV.step (unhide HB4) hb); replace HS0 := hide ((unhide HS0).below hb); replace HS1 := hide (OwnV.step (unhide HS1) hb); replace HS2 := hide (OwnV.step (unhide HS2) hb); have HS3 := hide ho; have zw5 := hb.size; clear hb ho; have kHB00 := OwnV.cell (unhide HB0) (i := 0) rfl; have kHB01 := OwnV.cell (unhide HB0) (i := 1) rfl; have kHB02 := OwnV.cell (unhide HB0) (i := 2) rfl; have kHB40 := OwnV.cell (unhide HB4) (i := 0) rfl; have kHB41 := OwnV.cell (unhide HB4) (i := 1) rfl)
    | (go_at_call 41; refine (toFrac_any x4a x4b _).mono ?_; rintro e w6 ⟨rfl, hb⟩; replace HW := hide (Below.step (unhide HW) hb); replace HB0 := hide (OwnV.step (unhide HB0) hb); replace HB4 := hide (OwnV.step (unhide HB4) hb); replace HS0 := hide ((unhide HS0).below hb); replace HS1 := hide (OwnV.step (unhide HS1) hb); replace HS2 := hide (OwnV.step (unhide HS2) hb); replace HS3 := hide ((unhide HS3).below hb); have zw6 := hb.size; clear hb; have kHB00 := OwnV.cell (unhide HB0) (i := 0) rfl; have kHB01 := OwnV.cell (unhide HB0) (i := 1) rfl; have kHB02 := OwnV.cell (unhide HB0) (i := 2) rfl; have kHB40 := OwnV.cell (unhide HB4) (i := 0) rfl; have kHB41 := OwnV.cell (unhide HB4) (i := 1) rfl)
    | (go_at_call 45; refine (specFirstBad_any s0 r0 _ R0 _ L1 _ L2 _ L3 x4a x4b _ (unhide HS0).inn (OwnV.recsIn (unhide HS1) (Nat.le_refl _) (by unfold maxLen; omega)) (OwnV.recsIn (unhide HS2) (Nat.le_refl _) (by unfold maxLen; omega)) (unhide HS3).inn).mono ?_; rintro e w7 ⟨rfl, hb⟩; clear HS0 HS1 HS2 HS3; replace HW := hide (Below.step (unhide HW) hb); replace HB0 := hide (OwnV.step (unhide HB0) hb); replace HB4 := hide (OwnV.step (unhide HB4) hb); have zw7 := hb.size; clear hb; have kHB00 := OwnV.cell (unhide HB0) (i := 0) rfl; have kHB01 := OwnV.cell (unhide HB0) (i := 1) rfl; have kHB02 := OwnV.cell (unhide HB0) (i := 2) rfl; have kHB40 := OwnV.cell (unhide HB4) (i := 0) rfl; have kHB41 := OwnV.cell (unhide HB4) (i := 1) rfl))
  clear kHB00 kHB01 kHB02 kHB40 kHB41
  rw [← unhide EV0]
  have cHB00 := OwnV.cell (unhide HB0) (i := 0) rfl
  have cHB01 := OwnV.cell (unhide HB0) (i := 1) rfl
  have cHB02 := OwnV.cell (unhide HB0) (i := 2) rfl
  go_wp2_with fail
  refine (toHull_any s0 r0 _ R0 _ ((unhide HV0).below (unhide HW)) hsn0 (unhide HL0)).mono ?_
  rintro e w8 ⟨gHO0, GHO0, CHO0, rfl, ho, hb⟩
  clear cHB00 cHB01 cHB02
  replace HW := hide (Below.step (unhide HW) hb)
  replace HB0 := hide (OwnV.step (unhide HB0) hb)
  replace HB4 := hide (OwnV.step (unhide HB4) hb)
  have ho := OwnRows.upto ho hsn0
  have HO0 := hide ho
  have zw8 := hb.size
  clear hb ho
  have AHM0 := Below.alloc1 (w8) (.cells #[.int .i64 s0, .int .i64 r0, .slice (some ⟨gHO0, 0, none⟩) R0.length R0.length] 26)
  replace HW := hide (Below.step (unhide HW) AHM0)
  replace HB0 := hide (OwnV.step (unhide HB0) AHM0)
  replace HB4 := hide (OwnV.step (unhide HB4) AHM0)
  replace HO0 := hide ((unhide HO0).below AHM0)
  have HM0 := hide (ownV_alloc (w8) #[.int .i64 s0, .int .i64 r0, .slice (some ⟨gHO0, 0, none⟩) R0.length R0.length] 26)
  clear AHM0
  go_wp2_with fail
  refine (toMassS_any _ L1 _ ((unhide HV1).below (unhide HW)) hsn1).mono ?_
  rintro e w9 ⟨gHO1, rfl, hgHO1, ho, hb⟩
  simp only [World.size_alloc] at hgHO1
  replace HW := hide (Below.step (unhide HW) hb)
  replace HB0 := hide (OwnV.step (unhide HB0) hb)
  replace HB4 := hide (OwnV.step (unhide HB4) hb)
  replace HO0 := hide ((unhide HO0).below hb)
  replace HM0 := hide (OwnV.step (unhide HM0) hb)
  have huHO1 := ho.lt
  have HO1 := hide ho
  have zw9 := hb.size
  simp only [World.size_alloc] at zw9
  clear hb ho
  go_wp2_with fail
  refine (toTankS_any _ L2 _ ((unhide HV2).below (unhide HW)) hsn2).mono ?_
  rintro e w10 ⟨gHO2, rfl, hgHO2, ho, hb⟩
  replace HW := hide (Below.step (unhide HW) hb)
  replace HB0 := hide (OwnV.step (unhide HB0) hb)
  replace HB4 := hide (OwnV.step (unhide HB4) hb)
  replace HO0 := hide ((unhide HO0).below hb)
  replace HM0 := hide (OwnV.step (unhide HM0) hb)
  replace HO1 := hide (OwnV.step (unhide HO1) hb)
  have huHO2 := ho.lt
  have HO2 := hide ho
  have zw10 := hb.size
  clear hb ho
  go_wp2_with fail
  refine (toRoomSS_any _ L3 _ ((unhide HV3).below (unhide HW)) hsn3 (unhide HL3)).mono ?_
  rintro e w11 ⟨gHO3, rfl, hgHO3, ho, hb⟩
  replace HW := hide (Below.step (unhide HW) hb)
  replace HB0 := hide (OwnV.step (unhide HB0) hb)
  replace HB4 := hide (OwnV.step (unhide HB4) hb)
  replace HO0 := hide ((unhide HO0).below hb)
  replace HM0 := hide (OwnV.step (unhide HM0) hb)
  replace HO1 := hide (OwnV.step (unhide HO1) hb)
  replace HO2 := hide (OwnV.step (unhide HO2) hb)
  have HO3 := hide ho
  have zw11 := hb.size
  clear hb ho
  have cHM00 := OwnV.cell (unhide HM0) (i := 0) rfl
  have cHM01 := OwnV.cell (unhide HM0) (i := 1) rfl
  have cHM02 := OwnV.cell (unhide HM0) (i := 2) rfl
  have cHB40 := OwnV.cell (unhide HB4) (i := 0) rfl
  have cHB41 := OwnV.cell (unhide HB4) (i := 1) rfl
  go_wp2
  clear cHM00 cHM01 cHM02 cHB40 cHB41
  have hd : Below (w11).heap.size (w11) (w11).drew := (Below.refl _ _).drew
  replace HW := hide (Below.step (unhide HW) hd)
  replace HB0 := hide (OwnV.step (unhide HB0) hd)
  replace HB4 := hide (OwnV.step (unhide HB4) hd)
  replace HO0 := hide ((unhide HO0).below hd)
  replace HM0 := hide (OwnV.step (unhide HM0) hd)
  replace HO1 := hide (OwnV.step (unhide HO1) hd)
  replace HO2 := hide (OwnV.step (unhide HO2) hd)
  replace HO3 := hide ((unhide HO3).below hd)
  clear hd
  have kHM00 := OwnV.cell (unhide HM0) (i := 0) rfl
  have kHM01 := OwnV.cell (unhide HM0) (i := 1) rfl
  have kHM02 := OwnV.cell (unhide HM0) (i := 2) rfl
  have kHB40 := OwnV.cell (unhide HB4) (i := 0) rfl
  have kHB41 := OwnV.cell (unhide HB4) (i := 1) rfl
  go_region_held3 (fun w' => w'.cell? ⟨w8.heap.size, 0, none⟩ = some (.int .i64 s0) ∧ w'.cell? ⟨w8.heap.size, 1, none⟩ = some (.int .i64 r0) ∧ w'.cell? ⟨w8.heap.size, 2, none⟩ = some (.slice (some ⟨gHO0, 0, none⟩) R0.length R0.length) ∧ w'.cell? ⟨w.heap.size + 1, 0, none⟩ = some (.int .i64 x4a) ∧ w'.cell? ⟨w.heap.size + 1, 1, none⟩ = some (.int .i64 x4b)) (go_keep) (first
    | (go_at_call 41; refine (toFrac_any x4a x4b _).mono ?_; rintro e w12 ⟨rfl, hb⟩; replace HW := hide (Below.step (unhide HW) hb); replace HB0 := hide (OwnV.step (unhide HB0) hb); replace HB4 := hide (OwnV.step (unhide HB4) hb); replace HO0 := hide ((unhide HO0).below hb); replace HM0 := hide (OwnV.step (unhide HM0) hb); replace HO1 := hide (OwnV.step (unhide HO1) hb); replace HO2 := hide (OwnV.step (unhide HO2) hb); replace HO3 := hide ((unhide HO3).below hb); have zw12 := hb.size; simp only [World.size_drew] at zw12; clear hb; have kHM00 := OwnV.cell (unhide HM0) (i := 0) rfl; have kHM01 := OwnV.cell (unhide HM0) (i := 1) rfl; have kHM02 := OwnV.cell (unhide HM0) (i := 2) rfl; have kHB40 := OwnV.cell (unhide HB4) (i := 0) rfl; have kHB41 := OwnV.cell (unhide HB4) (i := 1) rfl)
    | (go_at_call 23; refine (implFirstBad_any s0 r0 _ R0 _ L1 _ L2 _ L3 x4a x4b _ (unhide HO0).inn (OwnV.recsIn (unhide HO1) (Nat.le_refl _) (by unfold maxLen; omega)) (OwnV.recsIn (unhide HO2) (Nat.le_refl _) (by unfold maxLen; omega)) (unhide HO3).inn).mono ?_; rintro e w13 ⟨rfl, hb⟩; replace HW := hide (Below.step (unhide HW) hb); replace HB0 := hide (OwnV.step (unhide HB0) hb); replace HB4 := hide (OwnV.step (unhide HB4) hb); replace HO0 := hide ((unhide HO0).below hb); replace HM0 := hide (OwnV.step (unhide HM0) hb); replace HO1 := hide (OwnV.step (unhide HO1) hb); replace HO2 := hide (OwnV.step (unhide HO2) hb); replace HO3 := hide ((unhide HO3).below hb); have zw13 := hb.size; clear hb; have kHM00 := OwnV.cell (unhide HM0) (i := 0) rfl; have kHM01 := OwnV.cell (unhide HM0) (i := 1) rfl; have kHM02 := OwnV.cell (unhide HM0) (i := 2) rfl; have kHB40 := OwnV.cell (unhide HB4) (i := 0) rfl; have kHB41 := OwnV.cell (unhide HB4) (i := 1) rfl))
  clear kHM00 kHM01 kHM02 kHB40 kHB41
  rw [← unhide EV0]
  have cHB00 := OwnV.cell (unhide HB0) (i := 0) rfl
  have cHB01 := OwnV.cell (unhide HB0) (i := 1) rfl
  have cHB02 := OwnV.cell (unhide HB0) (i := 2) rfl
  have cHM00 := OwnV.cell (unhide HM0) (i := 0) rfl
  have cHM01 := OwnV.cell (unhide HM0) (i := 1) rfl
  have cHM02 := OwnV.cell (unhide HM0) (i := 2) rfl
  go_wp2
  clear cHB00 cHB01 cHB02 cHM00 cHM01 cHM02
  have hd : Below (w13).heap.size (w13) (w13).drew := (Below.refl _ _).drew
  replace HW := hide (Below.step (unhide HW) hd)
  replace HB0 := hide (OwnV.step (unhide HB0) hd)
  replace HB4 := hide (OwnV.step (unhide HB4) hd)
  replace HO0 := hide ((unhide HO0).below hd)
  replace HM0 := hide (OwnV.step (unhide HM0) hd)
  replace HO1 := hide (OwnV.step (unhide HO1) hd)
  replace HO2 := hide (OwnV.step (unhide HO2) hd)
  replace HO3 := hide ((unhide HO3).below hd)
  clear hd
  have cHB00 := OwnV.cell (unhide HB0) (i := 0) rfl
  have cHB01 := OwnV.cell (unhide HB0) (i := 1) rfl
  have cHB02 := OwnV.cell (unhide HB0) (i := 2) rfl
  have cHM00 := OwnV.cell (unhide HM0) (i := 0) rfl
  have cHM01 := OwnV.cell (unhide HM0) (i := 1) rfl
  have cHM02 := OwnV.cell (unhide HM0) (i := 2) rfl
  have HT := hide (toHull_any s0 r0 _ R0 ((w13).drew) ((unhide HV0).below (unhide HW)) hsn0 (unhide HL0))
  go_region_held3 (fun w' => w'.cell? ⟨w.heap.size, 0, none⟩ = some (.int .i64 s0) ∧ w'.cell? ⟨w.heap.size, 1, none⟩ = some (.int .i64 r0) ∧ w'.cell? ⟨w.heap.size, 2, none⟩ = some (.slice ao0 R0.length cap0) ∧ w'.cell? ⟨w8.heap.size, 0, none⟩ = some (.int .i64 s0) ∧ w'.cell? ⟨w8.heap.size, 1, none⟩ = some (.int .i64 r0) ∧ w'.cell? ⟨w8.heap.size, 2, none⟩ = some (.slice (some ⟨gHO0, 0, none⟩) R0.length R0.length)) (go_keep) (first
    | (go_at_call 27; refine (unhide HT).mono ?_; rintro e w14 ⟨g7, G7, C7, rfl, ho7, hb7⟩; replace HW := hide (Below.step (unhide HW) hb7); replace HB0 := hide (OwnV.step (unhide HB0) hb7); replace HB4 := hide (OwnV.step (unhide HB4) hb7); replace HO0 := hide ((unhide HO0).below hb7); replace HM0 := hide (OwnV.step (unhide HM0) hb7); replace HO1 := hide (OwnV.step (unhide HO1) hb7); replace HO2 := hide (OwnV.step (unhide HO2) hb7); replace HO3 := hide ((unhide HO3).below hb7); have HE := hide (eqHull_any s0 r0 (.slice (some ⟨gHO0, 0, none⟩) R0.length R0.length) (.slice (some ⟨g7, 0, none⟩) R0.length R0.length) R0 w14 (unhide HO0).inn (ho7.rowsIn (Nat.le_refl _) (by unfold maxLen; omega))); have z7 := hb7.size; have fHB00 := OwnV.cell (unhide HB0) (i := 0) rfl; have fHB01 := OwnV.cell (unhide HB0) (i := 1) rfl; have fHB02 := OwnV.cell (unhide HB0) (i := 2) rfl; have fHM00 := OwnV.cell (unhide HM0) (i := 0) rfl; have fHM01 := OwnV.cell (unhide HM0) (i := 1) rfl; have fHM02 := OwnV.cell (unhide HM0) (i := 2) rfl; clear ho7 hb7)
    | (go_at_call 28; refine (unhide HE).mono ?_; rintro e w15 ⟨rfl, hb8⟩; replace HW := hide (Below.step (unhide HW) hb8); replace HB0 := hide (OwnV.step (unhide HB0) hb8); replace HB4 := hide (OwnV.step (unhide HB4) hb8); replace HO0 := hide ((unhide HO0).below hb8); replace HM0 := hide (OwnV.step (unhide HM0) hb8); replace HO1 := hide (OwnV.step (unhide HO1) hb8); replace HO2 := hide (OwnV.step (unhide HO2) hb8); replace HO3 := hide ((unhide HO3).below hb8); have z8 := hb8.size; have kHB00 := OwnV.cell (unhide HB0) (i := 0) rfl; have kHB01 := OwnV.cell (unhide HB0) (i := 1) rfl; have kHB02 := OwnV.cell (unhide HB0) (i := 2) rfl; have kHM00 := OwnV.cell (unhide HM0) (i := 0) rfl; have kHM01 := OwnV.cell (unhide HM0) (i := 1) rfl; have kHM02 := OwnV.cell (unhide HM0) (i := 2) rfl; clear hb8))
  clear cHB00 cHB01 cHB02 cHM00 cHM01 cHM02 fHB00 fHB01 fHB02 fHM00 fHM01 fHM02 kHB00 kHB01 kHB02 kHM00 kHM01 kHM02 HE HT
  have zw15 := Nat.le_trans z7 z8
  clear z7 z8
  simp only [World.size_drew] at zw15
  clear HB0 HM0 HO0
  go_wp2_with fail
  refine (toMassS_any _ L1 _ ((unhide HV1).below (unhide HW)) hsn1).mono ?_
  rintro e w16 ⟨gHY1, rfl, hgHY1, ho, hb⟩
  replace HW := hide (Below.step (unhide HW) hb)
  replace HB4 := hide (OwnV.step (unhide HB4) hb)
  replace HO1 := hide (OwnV.step (unhide HO1) hb)
  replace HO2 := hide (OwnV.step (unhide HO2) hb)
  replace HO3 := hide ((unhide HO3).below hb)
  have huHY1 := ho.lt
  have HY1 := hide ho
  have zw16 := hb.size
  clear hb ho
  go_wp2_with fail
  refine (eqMassS_any _ _ L1 _ (OwnV.recsIn (unhide HO1) (Nat.le_refl _) (by unfold maxLen; omega)) (OwnV.recsIn (unhide HY1) (Nat.le_refl _) (by unfold maxLen; omega))).mono ?_
  rintro e w17 ⟨rfl, hb⟩
  clear HY1
  clear HO1
  replace HW := hide (Below.step (unhide HW) hb)
  replace HB4 := hide (OwnV.step (unhide HB4) hb)
  replace HO2 := hide (OwnV.step (unhide HO2) hb)
  replace HO3 := hide ((unhide HO3).below hb)
  have zw17 := hb.size
  clear hb
  go_wp2_with fail
  refine (toTankS_any _ L2 _ ((unhide HV2).below (unhide HW)) hsn2).mono ?_
  rintro e w18 ⟨gHY2, rfl, hgHY2, ho, hb⟩
  replace HW := hide (Below.step (unhide HW) hb)
  replace HB4 := hide (OwnV.step (unhide HB4) hb)
  replace HO2 := hide (OwnV.step (unhide HO2) hb)
  replace HO3 := hide ((unhide HO3).below hb)
  have huHY2 := ho.lt
  have HY2 := hide ho
  have zw18 := hb.size
  clear hb ho
  go_wp2_with fail
  refine (eqTankS_any _ _ L2 _ (OwnV.recsIn (unhide HO2) (Nat.le_refl _) (by unfold maxLen; omega)) (OwnV.recsIn (unhide HY2) (Nat.le_refl _) (by unfold maxLen; omega))).mono ?_
  rintro e w19 ⟨rfl, hb⟩
  clear HY2
  clear HO2
  replace HW := hide (Below.step (unhide HW) hb)
  replace HB4 := hide (OwnV.step (unhide HB4) hb)
  replace HO3 := hide ((unhide HO3).below hb)
  have zw19 := hb.size
  clear hb
  go_wp2_with fail
  refine (toRoomSS_any _ L3 _ ((unhide HV3).below (unhide HW)) hsn3 (unhide HL3)).mono ?_
  rintro e w20 ⟨gHY3, rfl, hgHY3, ho, hb⟩
  replace HW := hide (Below.step (unhide HW) hb)
  replace HB4 := hide (OwnV.step (unhide HB4) hb)
  replace HO3 := hide ((unhide HO3).below hb)
  have HY3 := hide ho
  have zw20 := hb.size
  clear hb ho
  go_wp2_with fail
  refine (eqRoomSS_any _ _ L3 _ (unhide HO3).inn (unhide HY3).inn).mono ?_
  rintro e w21 ⟨rfl, hb⟩
  clear HY3
  clear HO3
  replace HW := hide (Below.step (unhide HW) hb)
  replace HB4 := hide (OwnV.step (unhide HB4) hb)
  have zw21 := hb.size
  clear hb
  go_wp2
  go_ret
  exact ⟨rfl, unhide HW⟩

end Go.Proofs.Yticcjdcglfiggaa

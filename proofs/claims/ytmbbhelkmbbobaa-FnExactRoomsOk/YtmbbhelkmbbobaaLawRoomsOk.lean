/- FnExactRoomsOk: at every argument the program's RoomsOk answers as the specification's; the arguments read as before. Written by wip/mkexact.py. -/
import Derived.Test.YtmbbhelkmbbobaaStG
import Derived.Test.YtmbbhelkmbbobaaRRoom
import Derived.Test.YtmbbhelkmbbobaaExactKit
import Derived.Deep.RegionWith
namespace Go.Proofs.Ytmbbhelkmbbobaa
open Go.RowKit

set_option maxHeartbeats 4000000 in
theorem lawRoomsOk_any (s0 r0 : Int) (v0 : Value) (R0 : List (List Int)) (v1 : Value) (L1 : List I3) (w : World) (h0 : RowsIn w v0 R0) (h1 : R3 w v1 L1) :
    Calls Try.prog 8 #[hullV s0 r0 v0, v1] w fun e w' => e = .returned (.bool true) ∧ Below w.heap.size w w' := by
  have HV0 := hide h0
  obtain ⟨ao0, cap0, rfl, hl0, hm0, hc0⟩ := h0
  clear hc0 hl0 hm0
  have HV1 := hide h1
  obtain ⟨ao1, cap1, rfl, hl1, hm1, hc1⟩ := h1
  clear hc1 hl1 hm1
  have HW := hide (Below.refl w.heap.size w)
  unfold hullV
  go_enter Try.func8, Try.ntmps8
  have AHB0 := Below.alloc1 (w) (.cells #[.int .i64 s0, .int .i64 r0, .slice ao0 R0.length cap0] 59)
  replace HW := hide (Below.step (unhide HW) AHB0)
  have HB0 := hide (ownV_alloc (w) #[.int .i64 s0, .int .i64 r0, .slice ao0 R0.length cap0] 59)
  clear AHB0
  go_wp2_with fail
  refine (szHull_any s0 r0 _ R0 _ ((unhide HV0).below (unhide HW))).mono ?_
  rintro e w1 ⟨l0, rfl, hs, hb⟩
  replace HW := hide (Below.step (unhide HW) hb)
  replace HB0 := hide (OwnV.step (unhide HB0) hb)
  clear hb
  obtain ⟨hp0, hq0, hs⟩ := hs
  have HS := hide hs
  clear hs
  by_cases hneg0 : l0 < 0
  · clear HS
    go_wp2
    go_ret
    exact ⟨rfl, unhide HW⟩
  obtain ⟨hsn0, hsl⟩ := unhide HS (by omega)
  have HL0 := hide hsl
  clear hsl HS
  go_wp2_with fail
  refine (szRoomS_any _ L1 l0 _ ((unhide HV1).below (unhide HW)) (by omega) (by omega)).mono ?_
  rintro e w2 ⟨l1, rfl, hs, hb⟩
  subst hb
  obtain ⟨hp1, hq1, hs⟩ := hs
  have HS := hide hs
  clear hs
  by_cases hneg1 : l1 < 0
  · clear HS
    go_wp2
    go_ret
    exact ⟨rfl, unhide HW⟩
  have hsn1 := unhide HS (by omega)
  clear HS
  have cHB00 := OwnV.cell (unhide HB0) (i := 0) rfl
  have cHB01 := OwnV.cell (unhide HB0) (i := 1) rfl
  have cHB02 := OwnV.cell (unhide HB0) (i := 2) rfl
  go_wp2_with fail
  refine (toHull_any s0 r0 _ R0 _ ((unhide HV0).below (unhide HW)) hsn0 (unhide HL0)).mono ?_
  rintro e w2 ⟨gHS0, GHS0, CHS0, rfl, ho, hb⟩
  clear cHB00 cHB01 cHB02
  replace HW := hide (Below.step (unhide HW) hb)
  replace HB0 := hide (OwnV.step (unhide HB0) hb)
  have HS0 := hide ho
  clear hb ho
  go_wp2_with fail
  refine (toRoomS_any _ L1 _ ((unhide HV1).below (unhide HW)) hsn1).mono ?_
  rintro e w3 ⟨gHS1, rfl, _, ho, hb⟩
  replace HW := hide (Below.step (unhide HW) hb)
  replace HB0 := hide (OwnV.step (unhide HB0) hb)
  replace HS0 := hide ((unhide HS0).below hb)
  have HS1 := hide ho
  clear hb ho
  go_wp2_with fail
  refine (specRoomsOk_any s0 r0 _ R0 _ L1 _ ((unhide HS0).rowsIn (Nat.le_refl _) (by unfold maxLen; omega)) (OwnV.recsIn (unhide HS1) (Nat.le_refl _) (by unfold maxLen; omega))).mono ?_
  rintro e w4 ⟨rfl, hb⟩
  clear HS0 HS1
  replace HW := hide (Below.step (unhide HW) hb)
  replace HB0 := hide (OwnV.step (unhide HB0) hb)
  clear hb
  generalize ev0 : roomsB s0 r0 R0 L1 = V0
  have EV0 := hide ev0
  clear ev0
  have cHB00 := OwnV.cell (unhide HB0) (i := 0) rfl
  have cHB01 := OwnV.cell (unhide HB0) (i := 1) rfl
  have cHB02 := OwnV.cell (unhide HB0) (i := 2) rfl
  go_wp2_with fail
  refine (toHull_any s0 r0 _ R0 _ ((unhide HV0).below (unhide HW)) hsn0 (unhide HL0)).mono ?_
  rintro e w5 ⟨gHO0, GHO0, CHO0, rfl, ho, hb⟩
  clear cHB00 cHB01 cHB02
  replace HW := hide (Below.step (unhide HW) hb)
  replace HB0 := hide (OwnV.step (unhide HB0) hb)
  have HO0 := hide ho
  clear hb ho
  have AHM0 := Below.alloc1 (w5) (.cells #[.int .i64 s0, .int .i64 r0, .slice (some ⟨gHO0, 0, none⟩) R0.length R0.length] 26)
  replace HW := hide (Below.step (unhide HW) AHM0)
  replace HB0 := hide (OwnV.step (unhide HB0) AHM0)
  replace HO0 := hide ((unhide HO0).below AHM0)
  have HM0 := hide (ownV_alloc (w5) #[.int .i64 s0, .int .i64 r0, .slice (some ⟨gHO0, 0, none⟩) R0.length R0.length] 26)
  clear AHM0
  go_wp2_with fail
  refine (toRoomS_any _ L1 _ ((unhide HV1).below (unhide HW)) hsn1).mono ?_
  rintro e w6 ⟨gHO1, rfl, _, ho, hb⟩
  replace HW := hide (Below.step (unhide HW) hb)
  replace HB0 := hide (OwnV.step (unhide HB0) hb)
  replace HO0 := hide ((unhide HO0).below hb)
  replace HM0 := hide (OwnV.step (unhide HM0) hb)
  have HO1 := hide ho
  clear hb ho
  have cHM00 := OwnV.cell (unhide HM0) (i := 0) rfl
  have cHM01 := OwnV.cell (unhide HM0) (i := 1) rfl
  have cHM02 := OwnV.cell (unhide HM0) (i := 2) rfl
  go_wp2_with fail
  refine (implRoomsOk_any s0 r0 _ R0 _ L1 _ ((unhide HO0).rowsIn (Nat.le_refl _) (by unfold maxLen; omega)) (OwnV.recsIn (unhide HO1) (Nat.le_refl _) (by unfold maxLen; omega))).mono ?_
  rintro e w7 ⟨rfl, hb⟩
  clear cHM00 cHM01 cHM02
  replace HW := hide (Below.step (unhide HW) hb)
  replace HB0 := hide (OwnV.step (unhide HB0) hb)
  replace HO0 := hide ((unhide HO0).below hb)
  replace HM0 := hide (OwnV.step (unhide HM0) hb)
  replace HO1 := hide (OwnV.step (unhide HO1) hb)
  clear hb
  rw [unhide EV0]
  have cHB00 := OwnV.cell (unhide HB0) (i := 0) rfl
  have cHB01 := OwnV.cell (unhide HB0) (i := 1) rfl
  have cHB02 := OwnV.cell (unhide HB0) (i := 2) rfl
  have cHM00 := OwnV.cell (unhide HM0) (i := 0) rfl
  have cHM01 := OwnV.cell (unhide HM0) (i := 1) rfl
  have cHM02 := OwnV.cell (unhide HM0) (i := 2) rfl
  go_wp2
  clear cHB00 cHB01 cHB02 cHM00 cHM01 cHM02
  have hd : Below (w7).heap.size (w7) (w7).drew := (Below.refl _ _).drew
  replace HW := hide (Below.step (unhide HW) hd)
  replace HB0 := hide (OwnV.step (unhide HB0) hd)
  replace HO0 := hide ((unhide HO0).below hd)
  replace HM0 := hide (OwnV.step (unhide HM0) hd)
  replace HO1 := hide (OwnV.step (unhide HO1) hd)
  clear hd
  have cHB00 := OwnV.cell (unhide HB0) (i := 0) rfl
  have cHB01 := OwnV.cell (unhide HB0) (i := 1) rfl
  have cHB02 := OwnV.cell (unhide HB0) (i := 2) rfl
  have cHM00 := OwnV.cell (unhide HM0) (i := 0) rfl
  have cHM01 := OwnV.cell (unhide HM0) (i := 1) rfl
  have cHM02 := OwnV.cell (unhide HM0) (i := 2) rfl
  have HT := hide (toHull_any s0 r0 _ R0 ((w7).drew) ((unhide HV0).below (unhide HW)) hsn0 (unhide HL0))
  go_region_with (first
    | (go_at_call 35; refine (unhide HT).mono ?_; rintro e w8 ⟨g7, G7, C7, rfl, ho7, hb7⟩; replace HW := hide (Below.step (unhide HW) hb7); replace HB0 := hide (OwnV.step (unhide HB0) hb7); replace HO0 := hide ((unhide HO0).below hb7); replace HM0 := hide (OwnV.step (unhide HM0) hb7); replace HO1 := hide (OwnV.step (unhide HO1) hb7); have HE := hide (eqHull_any s0 r0 (.slice (some ⟨gHO0, 0, none⟩) R0.length R0.length) (.slice (some ⟨g7, 0, none⟩) R0.length R0.length) R0 w8 ((unhide HO0).rowsIn (Nat.le_refl _) (by unfold maxLen; omega)) (ho7.rowsIn (Nat.le_refl _) (by unfold maxLen; omega))); have f0 := OwnV.cell (unhide HM0) (i := 0) rfl; have f1 := OwnV.cell (unhide HM0) (i := 1) rfl; have f2 := OwnV.cell (unhide HM0) (i := 2) rfl; clear ho7 hb7)
    | (go_at_call 38; refine (unhide HE).mono ?_; rintro e w9 ⟨rfl, hb8⟩; replace HW := hide (Below.step (unhide HW) hb8); replace HB0 := hide (OwnV.step (unhide HB0) hb8); replace HO0 := hide ((unhide HO0).below hb8); replace HM0 := hide (OwnV.step (unhide HM0) hb8); replace HO1 := hide (OwnV.step (unhide HO1) hb8); clear hb8))
  all_goals
    go_wp2_with fail
    refine (toRoomS_any _ L1 _ ((unhide HV1).below (unhide HW)) hsn1).mono ?_
    rintro e w10 ⟨gHY1, rfl, _, ho, hb⟩
    replace HW := hide (Below.step (unhide HW) hb)
    replace HO1 := hide (OwnV.step (unhide HO1) hb)
    have HY1 := hide ho
    clear hb ho
    go_wp2_with fail
    refine (eqRoomS_any _ _ L1 _ (OwnV.recsIn (unhide HO1) (Nat.le_refl _) (by unfold maxLen; omega)) (OwnV.recsIn (unhide HY1) (Nat.le_refl _) (by unfold maxLen; omega))).mono ?_
    rintro e w11 ⟨rfl, hb⟩
    clear HY1 HO1
    replace HW := hide (Below.step (unhide HW) hb)
    clear hb
    go_wp2
    go_ret
    exact ⟨rfl, unhide HW⟩

end Go.Proofs.Ytmbbhelkmbbobaa

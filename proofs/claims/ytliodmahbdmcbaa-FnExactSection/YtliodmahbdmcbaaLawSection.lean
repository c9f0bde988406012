/- FnExactSection: at every argument the program's Section answers as the specification's; the arguments read as before. Written by wip/mkexact2.py. -/
import Derived.Test.YtliodmahbdmcbaaSgQ
import Derived.Test.YtliodmahbdmcbaaSgR
import Derived.Test.YtliodmahbdmcbaaRPlate
import Derived.Test.YtliodmahbdmcbaaFlatA
import Derived.Test.YtliodmahbdmcbaaExactKit
import Derived.Deep.RegionWith
namespace Go.Proofs.Ytliodmahbdmcbaa
open Go.RowKit

set_option maxHeartbeats 8000000 in
theorem lawSection_any (pv0 : Value) (L0 : List I3) (w : World) (h0 : R3 w pv0 L0) :
    Calls Try.prog 10 #[pv0] w fun e w' => e = .returned (.bool true) ∧ Below w.heap.size w w' := by
  have HV0 := hide h0
  obtain ⟨ao0, cap0, rfl, hl0, hm0, hc0⟩ := h0
  clear hc0 hl0 hm0
  obtain ⟨⟨y0a, y0b⟩, ev⟩ : ∃ x, x = secV L0 := ⟨_, rfl⟩
  have EV0 := hide ev
  clear ev
  obtain ⟨V1, ev⟩ : ∃ x, x = secN L0 := ⟨_, rfl⟩
  have EV1 := hide ev
  clear ev
  obtain ⟨V2, ev⟩ : ∃ x, x = secOk L0 := ⟨_, rfl⟩
  have EV2 := hide ev
  clear ev
  have HW := hide (Below.refl w.heap.size w)
  go_enter Try.func10, Try.ntmps10
  go_wp2_with fail
  refine (szPlateS_any _ L0 1048576 _ ((unhide HV0).below (unhide HW)) (by omega) (by omega)).mono ?_
  rintro e w1 ⟨l0, rfl, hs, hb⟩
  subst hb
  obtain ⟨hp0, hq0, hs⟩ := hs
  have HS := hide hs
  clear hs
  by_cases hneg0 : l0 < 0
  · clear HS
    go_wp2
    go_ret
    exact ⟨rfl, unhide HW⟩
  have hsn0 := unhide HS (by omega)
  clear HS
  go_wp2_with fail
  refine (toPlateS_any _ L0 _ ((unhide HV0).below (unhide HW)) hsn0).mono ?_
  rintro e w1 ⟨gHS0, rfl, hgHS0, ho, hb⟩
  replace HW := hide (Below.step (unhide HW) hb)
  have huHS0 := ho.lt
  have HS0 := hide ho
  have zw1 := hb.size
  clear hb ho
  go_wp2_with fail
  refine (specSection_any _ L0 _ (OwnV.recsIn (unhide HS0) (Nat.le_refl _) (by unfold maxLen; omega))).mono ?_
  rintro e w2 ⟨rfl, hb⟩
  clear HS0
  replace HW := hide (Below.step (unhide HW) hb)
  rw [← unhide EV0]
  rw [← unhide EV1]
  rw [← unhide EV2]
  have zw2 := hb.size
  clear hb
  have AHR0 := Below.alloc1 (w2) (.cells #[.int .i64 y0a, .int .i64 y0b] 43)
  replace HW := hide (Below.step (unhide HW) AHR0)
  have HR0 := hide (ownV_alloc (w2) #[.int .i64 y0a, .int .i64 y0b] 43)
  clear AHR0
  go_wp2_with fail
  refine (toPlateS_any _ L0 _ ((unhide HV0).below (unhide HW)) hsn0).mono ?_
  rintro e w3 ⟨gHO0, rfl, hgHO0, ho, hb⟩
  simp only [World.size_alloc] at hgHO0
  replace HW := hide (Below.step (unhide HW) hb)
  replace HR0 := hide (OwnV.step (unhide HR0) hb)
  have huHO0 := ho.lt
  have HO0 := hide ho
  have zw3 := hb.size
  simp only [World.size_alloc] at zw3
  clear hb ho
  go_wp2_with fail
  refine (implSection_any _ L0 _ (OwnV.recsIn (unhide HO0) (Nat.le_refl _) (by unfold maxLen; omega))).mono ?_
  rintro e w4 ⟨rfl, hb⟩
  replace HW := hide (Below.step (unhide HW) hb)
  replace HR0 := hide (OwnV.step (unhide HR0) hb)
  replace HO0 := hide (OwnV.step (unhide HO0) hb)
  rw [← unhide EV0]
  rw [← unhide EV1]
  rw [← unhide EV2]
  have zw4 := hb.size
  clear hb
  have AHG0 := Below.alloc1 (w4) (.cells #[.int .i64 y0a, .int .i64 y0b] 43)
  replace HW := hide (Below.step (unhide HW) AHG0)
  replace HR0 := hide (OwnV.step (unhide HR0) AHG0)
  replace HO0 := hide (OwnV.step (unhide HO0) AHG0)
  have HG0 := hide (ownV_alloc (w4) #[.int .i64 y0a, .int .i64 y0b] 43)
  clear AHG0
  have cHR00 := OwnV.cell (unhide HR0) (i := 0) rfl
  have cHR01 := OwnV.cell (unhide HR0) (i := 1) rfl
  have cHG00 := OwnV.cell (unhide HG0) (i := 0) rfl
  have cHG01 := OwnV.cell (unhide HG0) (i := 1) rfl
  go_wp2_with fail
  refine (eqFrac_any y0a y0b _).mono ?_
  rintro e w5 ⟨rfl, hb⟩
  clear cHR00 cHR01 cHG00 cHG01
  replace HW := hide (Below.step (unhide HW) hb)
  replace HR0 := hide (OwnV.step (unhide HR0) hb)
  replace HO0 := hide (OwnV.step (unhide HO0) hb)
  replace HG0 := hide (OwnV.step (unhide HG0) hb)
  have zw5 := hb.size
  simp only [World.size_alloc] at zw5
  clear hb
  go_wp2_with fail
  refine (toPlateS_any _ L0 _ ((unhide HV0).below (unhide HW)) hsn0).mono ?_
  rintro e w6 ⟨gHY0, rfl, hgHY0, ho, hb⟩
  replace HW := hide (Below.step (unhide HW) hb)
  replace HR0 := hide (OwnV.step (unhide HR0) hb)
  replace HO0 := hide (OwnV.step (unhide HO0) hb)
  replace HG0 := hide (OwnV.step (unhide HG0) hb)
  have huHY0 := ho.lt
  have HY0 := hide ho
  have zw6 := hb.size
  clear hb ho
  go_wp2_with fail
  refine (eqPlateS_any _ _ L0 _ (OwnV.recsIn (unhide HO0) (Nat.le_refl _) (by unfold maxLen; omega)) (OwnV.recsIn (unhide HY0) (Nat.le_refl _) (by unfold maxLen; omega))).mono ?_
  rintro e w7 ⟨rfl, hb⟩
  clear HY0
  clear HO0
  replace HW := hide (Below.step (unhide HW) hb)
  replace HR0 := hide (OwnV.step (unhide HR0) hb)
  replace HG0 := hide (OwnV.step (unhide HG0) hb)
  have zw7 := hb.size
  clear hb
  go_wp2
  go_ret
  exact ⟨rfl, unhide HW⟩

end Go.Proofs.Ytliodmahbdmcbaa

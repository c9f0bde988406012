/- FnExactBerth: at every argument the program's Berth answers as the specification's; the arguments read as before. Written by wip/mk17.py. -/
import Derived.Test.YtogoknldhimgfaaQyZ
import Derived.Test.YtogoknldhimgfaaMuCall
import Derived.Test.YtogoknldhimgfaaOwnInts
import Derived.Test.YtogoknldhimgfaaExactKit
namespace Go.Proofs.Ytogoknldhimgfaa
open Go.RowKit

set_option maxRecDepth 10000 in
set_option maxHeartbeats 16000000 in
theorem lawBerth_any (c0 : Int) (pv1 : Value) (L1 : List CallT) (c2 : Int) (w : World) (h1 : RCall w pv1 L1) :
    Calls Try.prog 7 #[.int .i64 c0, pv1, .int .i64 c2] w fun e w' => e = .returned (.bool true) ∧ Below w.heap.size w w' := by
  have HV1 := hide h1
  obtain ⟨ao1, cap1, rfl, hl1, hm1, hc1⟩ := h1
  unfold maxLen at hm1
  clear hc1
  obtain ⟨V0, ev⟩ : ∃ x, x = (berV c0 L1 c2).1 := ⟨_, rfl⟩
  have EV0 := hide ev
  clear ev
  obtain ⟨V1, ev⟩ : ∃ x, x = (berV c0 L1 c2).2 := ⟨_, rfl⟩
  have EV1 := hide ev
  clear ev
  have HW := hide (Below.refl w.heap.size w)
  go_enter Try.func7, Try.ntmps7
  go_wp2_with fail
  refine (szCallS_any _ L1 1048576 _ ((unhide HV1).below (unhide HW)) (by omega) (by omega)).mono ?_
  rintro e w1 ⟨l1, rfl, hs, hb⟩
  replace HW := hide (Below.step (unhide HW) hb)
  have zw1 := hb.size
  clear hb
  obtain ⟨hp1, hq1, hs⟩ := hs
  have HS := hide hs
  clear hs
  by_cases hneg1 : l1 < 0
  · clear HS
    go_wp2
    go_ret
    exact ⟨rfl, unhide HW⟩
  have hsn1 := unhide HS (by omega)
  clear HS
  go_wp2_with fail
  refine (toCallS_any _ L1 _ ((unhide HV1).below (unhide HW)) hsn1).mono ?_
  rintro e w2 ⟨gHS1, rfl, hgHS1, ho, hb⟩
  replace HW := hide (Below.step (unhide HW) hb)
  have huHS1 := ho.lt
  have HS1 := hide ho
  have zw2 := hb.size
  clear hb ho
  go_wp2_with fail
  refine (specBerth_any _ c0 L1 c2 _ (OwnV.recsIn (unhide HS1) (Nat.le_refl _) (by unfold maxLen; omega))).mono ?_
  rintro e w3 ⟨rfl, hb⟩
  clear HS1
  replace HW := hide (Below.step (unhide HW) hb)
  rw [← unhide EV0]
  rw [← unhide EV1]
  have zw3 := hb.size
  clear hb
  go_wp2_with fail
  refine (toCallS_any _ L1 _ ((unhide HV1).below (unhide HW)) hsn1).mono ?_
  rintro e w4 ⟨gHO1, rfl, hgHO1, ho, hb⟩
  replace HW := hide (Below.step (unhide HW) hb)
  have huHO1 := ho.lt
  have HO1 := hide ho
  have zw4 := hb.size
  clear hb ho
  go_wp2_with fail
  refine (implBerth_any _ c0 L1 c2 _ (OwnV.recsIn (unhide HO1) (Nat.le_refl _) (by unfold maxLen; omega))).mono ?_
  rintro e w5 ⟨rfl, hb⟩
  replace HW := hide (Below.step (unhide HW) hb)
  replace HO1 := hide (OwnV.step (unhide HO1) hb)
  rw [← unhide EV0]
  rw [← unhide EV1]
  have zw5 := hb.size
  clear hb
  go_wp2_with fail
  refine (toCallS_any _ L1 _ ((unhide HV1).below (unhide HW)) hsn1).mono ?_
  rintro e w6 ⟨gHY1, rfl, hgHY1, ho, hb⟩
  replace HW := hide (Below.step (unhide HW) hb)
  replace HO1 := hide (OwnV.step (unhide HO1) hb)
  have huHY1 := ho.lt
  have HY1 := hide ho
  have zw6 := hb.size
  clear hb ho
  go_wp2_with fail
  refine (eqCallS_any _ _ L1 _ (OwnV.recsIn (unhide HO1) (Nat.le_refl _) (by unfold maxLen; omega)) (OwnV.recsIn (unhide HY1) (Nat.le_refl _) (by unfold maxLen; omega))).mono ?_
  rintro e w7 ⟨rfl, hb⟩
  clear HY1
  clear HO1
  replace HW := hide (Below.step (unhide HW) hb)
  have zw7 := hb.size
  clear hb
  go_wp2
  go_ret
  exact ⟨rfl, unhide HW⟩

end Go.Proofs.Ytogoknldhimgfaa

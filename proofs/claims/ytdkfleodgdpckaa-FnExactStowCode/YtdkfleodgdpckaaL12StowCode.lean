/- FnExactStowCode: at every argument the program's StowCode answers as the specification's; the arguments read as before. Written by wip/mk12.py. -/
import Derived.Test.YtdkfleodgdpckaaStoD
import Derived.Test.YtdkfleodgdpckaaStoH
import Derived.Test.YtdkfleodgdpckaaOwnInts
import Derived.Test.YtdkfleodgdpckaaExactKit
namespace Go.Proofs.Ytdkfleodgdpckaa
open Go.RowKit

set_option maxRecDepth 10000 in
set_option maxHeartbeats 16000000 in
theorem lawStowCode_any (pv0 : Value) (L0 : List HatchT) (pv1 : Value) (L1 : List StowT) (w : World) (h0 : RHatch w pv0 L0) (h1 : RStow w pv1 L1) (hT1 : ∀ i, i < L1.length → (txtStow (L1.getD i default)).size ≤ maxLen) :
    Calls Try.prog 7 #[pv0, pv1] w fun e w' => e = .returned (.bool true) ∧ Below w.heap.size w w' := by
  have HV0 := hide h0
  obtain ⟨ao0, cap0, rfl, hl0, hm0, hc0⟩ := h0
  unfold maxLen at hm0
  clear hc0
  have HT1 := hide hT1
  clear hT1
  have HV1 := hide h1
  obtain ⟨ao1, cap1, rfl, hl1, hm1, hc1⟩ := h1
  unfold maxLen at hm1
  clear hc1
  obtain ⟨V0, ev⟩ : ∃ x, x = (stowC L0 L1).1 := ⟨_, rfl⟩
  have EV0 := hide ev
  clear ev
  obtain ⟨V1, ev⟩ : ∃ x, x = (stowC L0 L1).2 := ⟨_, rfl⟩
  have EV1 := hide ev
  clear ev
  have HW := hide (Below.refl w.heap.size w)
  go_enter Try.func7, Try.ntmps7
  go_wp2_with fail
  refine (szHatchS_any _ L0 1048576 _ ((unhide HV0).below (unhide HW)) (by omega) (by omega)).mono ?_
  rintro e w1 ⟨l0, rfl, hs, hb⟩
  replace HW := hide (Below.step (unhide HW) hb)
  have zw1 := hb.size
  clear hb
  obtain ⟨hp0, hq0, hs⟩ := hs
  have HS := hide hs
  clear hs
  by_cases hneg0 : l0 < 0
  · clear HS
    go_wp2
    go_ret
    exact ⟨rfl, unhide HW⟩
  have hsn0 := unhide HS (by omega)
  clear HS
  go_wp2_with fail
  refine (szStowS_any _ L1 l0 _ ((unhide HV1).below (unhide HW)) (unhide HT1) (by omega) (by omega)).mono ?_
  rintro e w2 ⟨l1, rfl, hs, hb⟩
  replace HW := hide (Below.step (unhide HW) hb)
  have zw2 := hb.size
  clear hb HT1
  obtain ⟨hp1, hq1, hs⟩ := hs
  have HS := hide hs
  clear hs
  by_cases hneg1 : l1 < 0
  · clear HS
    go_wp2
    go_ret
    exact ⟨rfl, unhide HW⟩
  have hsn1 := unhide HS (by omega)
  clear HS
  go_wp2_with fail
  refine (toHatchS_any _ L0 _ ((unhide HV0).below (unhide HW)) hsn0).mono ?_
  rintro e w3 ⟨gHS0, rfl, hgHS0, ho, hb⟩
  replace HW := hide (Below.step (unhide HW) hb)
  have huHS0 := ho.lt
  have HS0 := hide ho
  have zw3 := hb.size
  clear hb ho
  go_wp2_with fail
  refine (toStowS_any _ L1 _ ((unhide HV1).below (unhide HW)) hsn1).mono ?_
  rintro e w4 ⟨gHS1, rfl, hgHS1, ho, hb⟩
  replace HW := hide (Below.step (unhide HW) hb)
  replace HS0 := hide (OwnV.step (unhide HS0) hb)
  have huHS1 := ho.lt
  have HS1 := hide ho
  have zw4 := hb.size
  clear hb ho
  go_wp2_with fail
  refine (specStowCode_any _ _ L0 L1 _ (OwnV.recsIn (unhide HS0) (Nat.le_refl _) (by unfold maxLen; omega)) (OwnV.recsIn (unhide HS1) (Nat.le_refl _) (by unfold maxLen; omega))).mono ?_
  rintro e w5 ⟨rfl, hb⟩
  clear HS0 HS1
  replace HW := hide (Below.step (unhide HW) hb)
  rw [← unhide EV0]
  rw [← unhide EV1]
  have zw5 := hb.size
  clear hb
  go_wp2_with fail
  refine (toHatchS_any _ L0 _ ((unhide HV0).below (unhide HW)) hsn0).mono ?_
  rintro e w6 ⟨gHO0, rfl, hgHO0, ho, hb⟩
  replace HW := hide (Below.step (unhide HW) hb)
  have huHO0 := ho.lt
  have HO0 := hide ho
  have zw6 := hb.size
  clear hb ho
  go_wp2_with fail
  refine (toStowS_any _ L1 _ ((unhide HV1).below (unhide HW)) hsn1).mono ?_
  rintro e w7 ⟨gHO1, rfl, hgHO1, ho, hb⟩
  replace HW := hide (Below.step (unhide HW) hb)
  replace HO0 := hide (OwnV.step (unhide HO0) hb)
  have huHO1 := ho.lt
  have HO1 := hide ho
  have zw7 := hb.size
  clear hb ho
  go_wp2_with fail
  refine (implStowCode_any _ _ L0 L1 _ (OwnV.recsIn (unhide HO0) (Nat.le_refl _) (by unfold maxLen; omega)) (OwnV.recsIn (unhide HO1) (Nat.le_refl _) (by unfold maxLen; omega))).mono ?_
  rintro e w8 ⟨rfl, hb⟩
  replace HW := hide (Below.step (unhide HW) hb)
  replace HO0 := hide (OwnV.step (unhide HO0) hb)
  replace HO1 := hide (OwnV.step (unhide HO1) hb)
  rw [← unhide EV0]
  rw [← unhide EV1]
  have zw8 := hb.size
  clear hb
  go_wp2_with fail
  refine (toHatchS_any _ L0 _ ((unhide HV0).below (unhide HW)) hsn0).mono ?_
  rintro e w9 ⟨gHY0, rfl, hgHY0, ho, hb⟩
  replace HW := hide (Below.step (unhide HW) hb)
  replace HO0 := hide (OwnV.step (unhide HO0) hb)
  replace HO1 := hide (OwnV.step (unhide HO1) hb)
  have huHY0 := ho.lt
  have HY0 := hide ho
  have zw9 := hb.size
  clear hb ho
  go_wp2_with fail
  refine (eqHatchS_any _ _ L0 _ (OwnV.recsIn (unhide HO0) (Nat.le_refl _) (by unfold maxLen; omega)) (OwnV.recsIn (unhide HY0) (Nat.le_refl _) (by unfold maxLen; omega))).mono ?_
  rintro e w10 ⟨rfl, hb⟩
  clear HY0
  clear HO0
  replace HW := hide (Below.step (unhide HW) hb)
  replace HO1 := hide (OwnV.step (unhide HO1) hb)
  have zw10 := hb.size
  clear hb
  go_wp2_with fail
  refine (toStowS_any _ L1 _ ((unhide HV1).below (unhide HW)) hsn1).mono ?_
  rintro e w11 ⟨gHY1, rfl, hgHY1, ho, hb⟩
  replace HW := hide (Below.step (unhide HW) hb)
  replace HO1 := hide (OwnV.step (unhide HO1) hb)
  have huHY1 := ho.lt
  have HY1 := hide ho
  have zw11 := hb.size
  clear hb ho
  go_wp2_with fail
  refine (eqStowS_any _ _ L1 _ (OwnV.recsIn (unhide HO1) (Nat.le_refl _) (by unfold maxLen; omega)) (OwnV.recsIn (unhide HY1) (Nat.le_refl _) (by unfold maxLen; omega))).mono ?_
  rintro e w12 ⟨rfl, hb⟩
  clear HY1
  clear HO1
  replace HW := hide (Below.step (unhide HW) hb)
  have zw12 := hb.size
  clear hb
  go_wp2
  go_ret
  exact ⟨rfl, unhide HW⟩

end Go.Proofs.Ytdkfleodgdpckaa

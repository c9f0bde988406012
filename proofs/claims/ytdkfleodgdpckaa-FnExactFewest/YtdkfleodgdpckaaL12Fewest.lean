/- FnExactFewest: at every argument the program's Fewest answers as the specification's, in memory of its own; the arguments read as before. Written by wip/mk12.py. -/
import Derived.Test.YtdkfleodgdpckaaStoZ
import Derived.Test.YtdkfleodgdpckaaStoU
import Derived.Test.YtdkfleodgdpckaaOwnInts
import Derived.Test.YtdkfleodgdpckaaExactKit
namespace Go.Proofs.Ytdkfleodgdpckaa
open Go.RowKit

set_option maxRecDepth 10000 in
set_option maxHeartbeats 16000000 in
theorem lawFewest_any (pv0 : Value) (L0 : List HatchT) (pv1 : Value) (L1 : List BoxT) (w : World) (h0 : RHatch w pv0 L0) (h1 : RBox w pv1 L1) (hT1 : ∀ i, i < L1.length → (txtBox (L1.getD i default)).size ≤ maxLen) :
    Calls Try.prog 10 #[pv0, pv1] w fun e w' => e = .returned (.bool true) ∧ Below w.heap.size w w' := by
  have HV0 := hide h0
  obtain ⟨ao0, cap0, rfl, hl0, hm0, hc0⟩ := h0
  unfold maxLen at hm0
  clear hc0
  have HT1 := hide hT1
  clear hT1
  have HV1 := hide h1
  obtain ⟨ao1, cap1, rfl, hl1, hm1, hc1⟩ := h1
  unfold maxLen at hm1
  clear hc1
  obtain ⟨M0, ev⟩ : ∃ x, x = (fewV L0 L1).1 := ⟨_, rfl⟩
  have EM0 := hide ev
  clear ev
  obtain ⟨V1, ev⟩ : ∃ x, x = (fewV L0 L1).2 := ⟨_, rfl⟩
  have EV1 := hide ev
  clear ev
  have HW := hide (Below.refl w.heap.size w)
  go_enter Try.func10, Try.ntmps10
  go_wp2_with fail
  refine (szHatchS_any _ L0 1048576 _ ((unhide HV0).below (unhide HW)) (by omega) (by omega)).mono ?_
  rintro e w1 ⟨l0, rfl, hs, hb⟩
  replace HW := hide (Below.step (unhide HW) hb)
  have zw1 := hb.size
  clear hb
  obtain ⟨hp0, hq0, hs⟩ := hs
  have HS := hide hs
  clear hs
  by_cases hneg0 : l0 < 0
  · clear HS
    go_wp2
    go_ret
    exact ⟨rfl, unhide HW⟩
  have hsn0 := unhide HS (by omega)
  clear HS
  go_wp2_with fail
  refine (szBoxS_any _ L1 l0 _ ((unhide HV1).below (unhide HW)) (unhide HT1) (by omega) (by omega)).mono ?_
  rintro e w2 ⟨l1, rfl, hs, hb⟩
  replace HW := hide (Below.step (unhide HW) hb)
  have zw2 := hb.size
  clear hb HT1
  obtain ⟨hp1, hq1, hs⟩ := hs
  have HS := hide hs
  clear hs
  by_cases hneg1 : l1 < 0
  · clear HS
    go_wp2
    go_ret
    exact ⟨rfl, unhide HW⟩
  have hsn1 := unhide HS (by omega)
  clear HS
  have hMl0 : M0.length ≤ 1048576 := by have := fewV_len L0 L1; rw [unhide EM0]; omega
  go_wp2_with fail
  refine (toHatchS_any _ L0 _ ((unhide HV0).below (unhide HW)) hsn0).mono ?_
  rintro e w3 ⟨gHS0, rfl, hgHS0, ho, hb⟩
  replace HW := hide (Below.step (unhide HW) hb)
  have huHS0 := ho.lt
  have HS0 := hide ho
  have zw3 := hb.size
  clear hb ho
  go_wp2_with fail
  refine (toBoxS_any _ L1 _ ((unhide HV1).below (unhide HW)) hsn1).mono ?_
  rintro e w4 ⟨gHS1, rfl, hgHS1, ho, hb⟩
  replace HW := hide (Below.step (unhide HW) hb)
  replace HS0 := hide (OwnV.step (unhide HS0) hb)
  have huHS1 := ho.lt
  have HS1 := hide ho
  have zw4 := hb.size
  clear hb ho
  go_wp2_with fail
  refine (specFewest_any _ _ L0 L1 _ (OwnV.recsIn (unhide HS0) (Nat.le_refl _) (by unfold maxLen; omega)) (OwnV.recsIn (unhide HS1) (Nat.le_refl _) (by unfold maxLen; omega))).mono ?_
  rintro e w5 ⟨a0, n0, cp0, rfl, hr0, hb⟩
  clear HS0 HS1
  replace HW := hide (Below.step (unhide HW) hb)
  rw [← unhide EV1]
  rw [← unhide EM0] at hr0
  have HSP0 := hide hr0.intsIn
  clear hr0
  have zw5 := hb.size
  clear hb
  have HZ := hide (Below.refl w5.heap.size w5)
  go_wp2_with fail
  refine (toHatchS_any _ L0 _ ((unhide HV0).below (unhide HW)) hsn0).mono ?_
  rintro e w6 ⟨gHO0, rfl, hgHO0, ho, hb⟩
  replace HW := hide (Below.step (unhide HW) hb)
  replace HZ := hide (Below.step (unhide HZ) hb)
  have huHO0 := ho.lt
  have HO0 := hide ho
  have zw6 := hb.size
  clear hb ho
  go_wp2_with fail
  refine (toBoxS_any _ L1 _ ((unhide HV1).below (unhide HW)) hsn1).mono ?_
  rintro e w7 ⟨gHO1, rfl, hgHO1, ho, hb⟩
  replace HW := hide (Below.step (unhide HW) hb)
  replace HZ := hide (Below.step (unhide HZ) hb)
  replace HO0 := hide (OwnV.step (unhide HO0) hb)
  have huHO1 := ho.lt
  have HO1 := hide ho
  have zw7 := hb.size
  clear hb ho
  go_wp2_with fail
  refine (implFewest_any _ _ L0 L1 _ (OwnV.recsIn (unhide HO0) (Nat.le_refl _) (by unfold maxLen; omega)) (OwnV.recsIn (unhide HO1) (Nat.le_refl _) (by unfold maxLen; omega))).mono ?_
  rintro e w8 ⟨ab0, nb0, cpb0, rfl, hr0, hb⟩
  replace HW := hide (Below.step (unhide HW) hb)
  replace HZ := hide (Below.step (unhide HZ) hb)
  replace HO0 := hide (OwnV.step (unhide HO0) hb)
  replace HO1 := hide (OwnV.step (unhide HO1) hb)
  rw [← unhide EV1]
  rw [← unhide EM0] at hr0
  have hr0 := hr0.upto
  have HQ0 := hide hr0
  clear hr0
  have zw8 := hb.size
  clear hb
  go_wp2_with fail
  refine (eqStowS_any _ _ M0 _ (unhide HQ0).inn ((unhide HSP0).below (unhide HZ))).mono ?_
  rintro e w9 ⟨rfl, hb⟩
  replace HW := hide (Below.step (unhide HW) hb)
  replace HZ := hide (Below.step (unhide HZ) hb)
  replace HO0 := hide (OwnV.step (unhide HO0) hb)
  replace HO1 := hide (OwnV.step (unhide HO1) hb)
  replace HQ0 := hide ((unhide HQ0).below hb)
  have zw9 := hb.size
  clear hb
  go_wp2_with fail
  refine (toHatchS_any _ L0 _ ((unhide HV0).below (unhide HW)) hsn0).mono ?_
  rintro e w10 ⟨gHY0, rfl, hgHY0, ho, hb⟩
  replace HW := hide (Below.step (unhide HW) hb)
  replace HZ := hide (Below.step (unhide HZ) hb)
  replace HO0 := hide (OwnV.step (unhide HO0) hb)
  replace HO1 := hide (OwnV.step (unhide HO1) hb)
  replace HQ0 := hide ((unhide HQ0).below hb)
  have huHY0 := ho.lt
  have HY0 := hide ho
  have zw10 := hb.size
  clear hb ho
  go_wp2_with fail
  refine (eqHatchS_any _ _ L0 _ (OwnV.recsIn (unhide HO0) (Nat.le_refl _) (by unfold maxLen; omega)) (OwnV.recsIn (unhide HY0) (Nat.le_refl _) (by unfold maxLen; omega))).mono ?_
  rintro e w11 ⟨rfl, hb⟩
  clear HY0
  replace HW := hide (Below.step (unhide HW) hb)
  replace HZ := hide (Below.step (unhide HZ) hb)
  replace HO0 := hide (OwnV.step (unhide HO0) hb)
  replace HO1 := hide (OwnV.step (unhide HO1) hb)
  replace HQ0 := hide ((unhide HQ0).below hb)
  have zw11 := hb.size
  clear hb
  go_wp2_with fail
  refine (toBoxS_any _ L1 _ ((unhide HV1).below (unhide HW)) hsn1).mono ?_
  rintro e w12 ⟨gHY1, rfl, hgHY1, ho, hb⟩
  replace HW := hide (Below.step (unhide HW) hb)
  replace HZ := hide (Below.step (unhide HZ) hb)
  replace HO0 := hide (OwnV.step (unhide HO0) hb)
  replace HO1 := hide (OwnV.step (unhide HO1) hb)
  replace HQ0 := hide ((unhide HQ0).below hb)
  have huHY1 := ho.lt
  have HY1 := hide ho
  have zw12 := hb.size
  clear hb ho
  go_wp2_with fail
  refine (eqBoxS_any _ _ L1 _ (OwnV.recsIn (unhide HO1) (Nat.le_refl _) (by unfold maxLen; omega)) (OwnV.recsIn (unhide HY1) (Nat.le_refl _) (by unfold maxLen; omega))).mono ?_
  rintro e w13 ⟨rfl, hb⟩
  clear HY1
  replace HW := hide (Below.step (unhide HW) hb)
  replace HZ := hide (Below.step (unhide HZ) hb)
  replace HO0 := hide (OwnV.step (unhide HO0) hb)
  replace HO1 := hide (OwnV.step (unhide HO1) hb)
  replace HQ0 := hide ((unhide HQ0).below hb)
  have zw13 := hb.size
  clear hb
  go_wp2_with fail
  refine (markHatches_o gHO0 L0 _ _ (unhide HO0) hsn0 (by omega) (by omega)).mono ?_
  rintro e w14 ⟨rfl, hk⟩
  clear HO0
  replace HW := hide ((unhide HW).trans (hk.below (B := w.heap.size) (by omega) (fun b e => by omega)))
  replace HZ := hide ((unhide HZ).trans (hk.below (B := w5.heap.size) (by omega) (fun b e => by omega)))
  replace HO1 := hide (OwnV.kept (unhide HO1) hk (fun e => by omega))
  replace HQ0 := hide ((unhide HQ0).kept hk (fun b h1 h2 e => by omega))
  have zw14 := hk.size
  clear hk
  go_wp2_with fail
  refine (markBoxes_o gHO1 L1 _ _ (unhide HO1) hsn1 (by omega) (by omega)).mono ?_
  rintro e w15 ⟨rfl, hk⟩
  clear HO1
  replace HW := hide ((unhide HW).trans (hk.below (B := w.heap.size) (by omega) (fun b e => by omega)))
  replace HZ := hide ((unhide HZ).trans (hk.below (B := w5.heap.size) (by omega) (fun b e => by omega)))
  replace HQ0 := hide ((unhide HQ0).kept hk (fun b h1 h2 e => by omega))
  have zw15 := hk.size
  clear hk
  go_wp2_with fail
  refine (eqStowS_any _ _ M0 _ (unhide HQ0).inn ((unhide HSP0).below (unhide HZ))).mono ?_
  rintro e w16 ⟨rfl, hb⟩
  replace HW := hide (Below.step (unhide HW) hb)
  replace HZ := hide (Below.step (unhide HZ) hb)
  replace HQ0 := hide ((unhide HQ0).below hb)
  have zw16 := hb.size
  clear hb
  go_wp2_with fail
  refine (markStowS_v _ _ _ _ _ M0 _ (unhide HQ0) hMl0).mono ?_
  rintro e w17 ⟨rfl, hk, ho⟩
  clear HQ0
  replace HW := hide ((unhide HW).trans (hk.below (B := w.heap.size) (by omega) (fun b e => by omega)))
  replace HZ := hide ((unhide HZ).trans (hk.below (B := w5.heap.size) (by omega) (fun b e => by omega)))
  have zw17 := hk.size
  have HQ0 := hide ho
  clear hk ho
  have HD0 := hide fun B U W hW => heldStowS_v B U ab0 nb0 cpb0 M0 W hW hMl0
  go_wp2_with fail
  refine (unhide HD0 _ _ _ (unhide HQ0)).mono ?_
  rintro e w18 ⟨rfl, hb⟩
  replace HW := hide (Below.step (unhide HW) hb)
  replace HZ := hide (Below.step (unhide HZ) hb)
  replace HQ0 := hide ((unhide HQ0).below hb)
  have zw18 := hb.size
  clear hb
  go_wp2_with fail
  refine (toHatchS_any _ L0 _ ((unhide HV0).below (unhide HW)) hsn0).mono ?_
  rintro e w19 ⟨gHT0, rfl, hgHT0, ho, hb⟩
  replace HW := hide (Below.step (unhide HW) hb)
  replace HZ := hide (Below.step (unhide HZ) hb)
  replace HQ0 := hide ((unhide HQ0).below hb)
  have huHT0 := ho.lt
  have HT0 := hide ho
  have zw19 := hb.size
  clear hb ho
  go_wp2_with fail
  refine (toBoxS_any _ L1 _ ((unhide HV1).below (unhide HW)) hsn1).mono ?_
  rintro e w20 ⟨gHT1, rfl, hgHT1, ho, hb⟩
  replace HW := hide (Below.step (unhide HW) hb)
  replace HZ := hide (Below.step (unhide HZ) hb)
  replace HQ0 := hide ((unhide HQ0).below hb)
  replace HT0 := hide (OwnV.step (unhide HT0) hb)
  have huHT1 := ho.lt
  have HT1 := hide ho
  have zw20 := hb.size
  clear hb ho
  go_wp2_with fail
  refine (implFewest_any _ _ L0 L1 _ (OwnV.recsIn (unhide HT0) (Nat.le_refl _) (by unfold maxLen; omega)) (OwnV.recsIn (unhide HT1) (Nat.le_refl _) (by unfold maxLen; omega))).mono ?_
  rintro e w21 ⟨ac0, nc0, cpc0, rfl, hr0, hb⟩
  clear HT0 HT1
  replace HW := hide (Below.step (unhide HW) hb)
  replace HZ := hide (Below.step (unhide HZ) hb)
  replace HQ0 := hide ((unhide HQ0).below hb)
  rw [← unhide EV1]
  rw [← unhide EM0] at hr0
  have hr0 := hr0.upto
  have HI0 := hide hr0
  clear hr0
  have zw21 := hb.size
  clear hb
  go_wp2_with fail
  refine (eqStowS_any _ _ M0 _ (unhide HI0).inn ((unhide HSP0).below (unhide HZ))).mono ?_
  rintro e w22 ⟨rfl, hb⟩
  replace HW := hide (Below.step (unhide HW) hb)
  replace HZ := hide (Below.step (unhide HZ) hb)
  replace HQ0 := hide ((unhide HQ0).below hb)
  replace HI0 := hide ((unhide HI0).below hb)
  have zw22 := hb.size
  clear hb
  clear HZ HI0
  go_wp2_with fail
  refine (unhide HD0 _ _ _ (unhide HQ0)).mono ?_
  rintro e w23 ⟨rfl, hb⟩
  replace HW := hide (Below.step (unhide HW) hb)
  replace HQ0 := hide ((unhide HQ0).below hb)
  have zw23 := hb.size
  clear hb
  go_wp2
  go_ret
  exact ⟨rfl, unhide HW⟩

end Go.Proofs.Ytdkfleodgdpckaa

/- FnExactShaped: at every argument the program's Shaped answers as the specification's, in memory of its own; the arguments read as before. Written by wip/mkexact3.py. -/
import Derived.Test.YtgmhijbepkobkaaShpB
import Derived.Test.YtgmhijbepkobkaaOwnInts
import Derived.Test.YtgmhijbepkobkaaExactKit
namespace Go.Proofs.Ytgmhijbepkobkaa
open Go.RowKit

set_option maxHeartbeats 8000000 in
theorem lawShaped_any (pv0 : Value) (L0 : List Int) (w : World) (h0 : IntsIn w pv0 L0) :
    Calls Try.prog 7 #[pv0] w fun e w' => e = .returned (.bool true) ∧ Below w.heap.size w w' := by
  have HV0 := hide h0
  obtain ⟨ao0, cap0, rfl, hl0, hm0, hc0⟩ := h0
  unfold maxLen at hm0
  clear hc0
  obtain ⟨M0, ev⟩ : ∃ x, x = puL L0 := ⟨_, rfl⟩
  have hMl0 : M0.length ≤ 1048576 := by have := puL_len L0; rw [ev]; omega
  have EM0 := hide ev
  clear ev
  obtain ⟨V1, ev⟩ : ∃ x, x = puOk L0 := ⟨_, rfl⟩
  have EV1 := hide ev
  clear ev
  have HW := hide (Below.refl w.heap.size w)
  by_cases hsn0 : L0.length ≤ 1048576
  case neg =>
    go_enter Try.func7, Try.ntmps7
    go_wp2
    go_ret
    exact ⟨rfl, unhide HW⟩
  go_enter Try.func7, Try.ntmps7
  go_wp2_with fail
  refine (toIntS_o _ L0 _ ((unhide HV0).below (unhide HW)) hsn0).mono ?_
  rintro e w1 ⟨gHS0, rfl, hgHS0, ho, hb⟩
  replace HW := hide (Below.step (unhide HW) hb)
  have huHS0 := ho.lt
  have HS0 := hide ho
  have zw1 := hb.size
  clear hb ho
  go_wp2_with fail
  refine (specShaped_any _ L0 _ (OwnV.intsIn (unhide HS0) (Nat.le_refl _) (by unfold maxLen; omega))).mono ?_
  rintro e w2 ⟨a0, n0, cp0, rfl, hr0, hb⟩
  clear HS0
  replace HW := hide (Below.step (unhide HW) hb)
  rw [← unhide EV1]
  rw [← unhide EM0] at hr0
  have HSP0 := hide hr0.intsIn
  clear hr0
  have zw2 := hb.size
  clear hb
  have HZ := hide (Below.refl w2.heap.size w2)
  go_wp2_with fail
  refine (toIntS_o _ L0 _ ((unhide HV0).below (unhide HW)) hsn0).mono ?_
  rintro e w3 ⟨gHO0, rfl, hgHO0, ho, hb⟩
  replace HW := hide (Below.step (unhide HW) hb)
  replace HZ := hide (Below.step (unhide HZ) hb)
  have huHO0 := ho.lt
  have HO0 := hide ho
  have zw3 := hb.size
  clear hb ho
  go_wp2_with fail
  refine (implShaped_any _ L0 _ (OwnV.intsIn (unhide HO0) (Nat.le_refl _) (by unfold maxLen; omega))).mono ?_
  rintro e w4 ⟨ab0, nb0, cpb0, rfl, hr0, hb⟩
  replace HW := hide (Below.step (unhide HW) hb)
  replace HZ := hide (Below.step (unhide HZ) hb)
  replace HO0 := hide (OwnV.step (unhide HO0) hb)
  rw [← unhide EV1]
  rw [← unhide EM0] at hr0
  have hr0 := hr0.upto
  have HQ0 := hide hr0
  clear hr0
  have zw4 := hb.size
  clear hb
  go_wp2_with fail
  refine (eqIntS_o _ _ M0 _ (unhide HQ0).inn ((unhide HSP0).below (unhide HZ))).mono ?_
  rintro e w5 ⟨rfl, hb⟩
  replace HW := hide (Below.step (unhide HW) hb)
  replace HZ := hide (Below.step (unhide HZ) hb)
  replace HO0 := hide (OwnV.step (unhide HO0) hb)
  replace HQ0 := hide ((unhide HQ0).below hb)
  have zw5 := hb.size
  clear hb
  go_wp2_with fail
  refine (toIntS_o _ L0 _ ((unhide HV0).below (unhide HW)) hsn0).mono ?_
  rintro e w6 ⟨gHY0, rfl, hgHY0, ho, hb⟩
  replace HW := hide (Below.step (unhide HW) hb)
  replace HZ := hide (Below.step (unhide HZ) hb)
  replace HO0 := hide (OwnV.step (unhide HO0) hb)
  replace HQ0 := hide ((unhide HQ0).below hb)
  have huHY0 := ho.lt
  have HY0 := hide ho
  have zw6 := hb.size
  clear hb ho
  go_wp2_with fail
  refine (eqIntS_o _ _ L0 _ (OwnV.intsIn (unhide HO0) (Nat.le_refl _) (by unfold maxLen; omega)) (OwnV.intsIn (unhide HY0) (Nat.le_refl _) (by unfold maxLen; omega))).mono ?_
  rintro e w7 ⟨rfl, hb⟩
  clear HY0
  replace HW := hide (Below.step (unhide HW) hb)
  replace HZ := hide (Below.step (unhide HZ) hb)
  replace HO0 := hide (OwnV.step (unhide HO0) hb)
  replace HQ0 := hide ((unhide HQ0).below hb)
  have zw7 := hb.size
  clear hb
  go_wp2_with fail
  refine (markInts_o gHO0 L0 _ _ (unhide HO0) hsn0 (by omega) (by omega)).mono ?_
  rintro e w8 ⟨rfl, hk⟩
  clear HO0
  replace HW := hide ((unhide HW).trans (hk.below (B := w.heap.size) (by omega) (fun b e => by omega)))
  replace HZ := hide ((unhide HZ).trans (hk.below (B := w2.heap.size) (by omega) (fun b e => by omega)))
  replace HQ0 := hide ((unhide HQ0).kept hk (fun b h1 h2 e => by omega))
  have zw8 := hk.size
  clear hk
  go_wp2_with fail
  refine (eqIntS_o _ _ M0 _ (unhide HQ0).inn ((unhide HSP0).below (unhide HZ))).mono ?_
  rintro e w9 ⟨rfl, hb⟩
  replace HW := hide (Below.step (unhide HW) hb)
  replace HZ := hide (Below.step (unhide HZ) hb)
  replace HQ0 := hide ((unhide HQ0).below hb)
  have zw9 := hb.size
  clear hb
  go_wp2_with fail
  refine (markInts_v _ _ _ _ _ M0 _ (unhide HQ0) hMl0).mono ?_
  rintro e w10 ⟨rfl, hk, ho⟩
  clear HQ0
  replace HW := hide ((unhide HW).trans (hk.below (B := w.heap.size) (by omega) (fun b e => by omega)))
  replace HZ := hide ((unhide HZ).trans (hk.below (B := w2.heap.size) (by omega) (fun b e => by omega)))
  have zw10 := hk.size
  have HQ0 := hide ho
  clear hk ho
  have HD0 := hide fun W hW => heldInts_v (.slice ab0 nb0 cpb0) M0 W hW hMl0
  go_wp2_with fail
  refine (unhide HD0 _ (unhide HQ0).inn).mono ?_
  rintro e w11 ⟨rfl, hb⟩
  replace HW := hide (Below.step (unhide HW) hb)
  replace HZ := hide (Below.step (unhide HZ) hb)
  replace HQ0 := hide ((unhide HQ0).below hb)
  have zw11 := hb.size
  clear hb
  go_wp2_with fail
  refine (toIntS_o _ L0 _ ((unhide HV0).below (unhide HW)) hsn0).mono ?_
  rintro e w12 ⟨gHT0, rfl, hgHT0, ho, hb⟩
  replace HW := hide (Below.step (unhide HW) hb)
  replace HZ := hide (Below.step (unhide HZ) hb)
  replace HQ0 := hide ((unhide HQ0).below hb)
  have huHT0 := ho.lt
  have HT0 := hide ho
  have zw12 := hb.size
  clear hb ho
  go_wp2_with fail
  refine (implShaped_any _ L0 _ (OwnV.intsIn (unhide HT0) (Nat.le_refl _) (by unfold maxLen; omega))).mono ?_
  rintro e w13 ⟨ac0, nc0, cpc0, rfl, hr0, hb⟩
  clear HT0
  replace HW := hide (Below.step (unhide HW) hb)
  replace HZ := hide (Below.step (unhide HZ) hb)
  replace HQ0 := hide ((unhide HQ0).below hb)
  rw [← unhide EV1]
  rw [← unhide EM0] at hr0
  have hr0 := hr0.upto
  have HI0 := hide hr0
  clear hr0
  have zw13 := hb.size
  clear hb
  go_wp2_with fail
  refine (eqIntS_o _ _ M0 _ (unhide HI0).inn ((unhide HSP0).below (unhide HZ))).mono ?_
  rintro e w14 ⟨rfl, hb⟩
  replace HW := hide (Below.step (unhide HW) hb)
  replace HZ := hide (Below.step (unhide HZ) hb)
  replace HQ0 := hide ((unhide HQ0).below hb)
  replace HI0 := hide ((unhide HI0).below hb)
  have zw14 := hb.size
  clear hb
  clear HZ HI0
  go_wp2_with fail
  refine (unhide HD0 _ (unhide HQ0).inn).mono ?_
  rintro e w15 ⟨rfl, hb⟩
  replace HW := hide (Below.step (unhide HW) hb)
  replace HQ0 := hide ((unhide HQ0).below hb)
  have zw15 := hb.size
  clear hb
  go_wp2
  go_ret
  exact ⟨rfl, unhide HW⟩

end Go.Proofs.Ytgmhijbepkobkaa

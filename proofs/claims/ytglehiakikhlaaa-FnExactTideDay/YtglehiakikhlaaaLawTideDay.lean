/- FnExactTideDay: at every argument the program's TideDay answers as the specification's, in memory of its own; the arguments read as before. Written by wip/mkexact5.py. -/
import Derived.Test.YtglehiakikhlaaaTdJ
import Derived.Test.YtglehiakikhlaaaRHarm
import Derived.Test.YtglehiakikhlaaaTiJ
import Derived.Test.YtglehiakikhlaaaOwnInts
import Derived.Test.YtglehiakikhlaaaFvA
import Derived.Test.YtglehiakikhlaaaExactKit
namespace Go.Proofs.Ytglehiakikhlaaa
open Go.RowKit

set_option maxHeartbeats 8000000 in
theorem lawTideDay_any (c0 : Nat) (pv1 : Value) (L1 : List F4) (c2 : Int) (w : World) (h1 : RH w pv1 L1) :
    Calls Try.prog 5 #[.float .f64 c0, pv1, .int .i64 c2] w fun e w' => e = .returned (.bool true) ∧ Below w.heap.size w w' := by
  have HV1 := hide h1
  obtain ⟨ao1, cap1, rfl, hl1, hm1, hc1⟩ := h1
  unfold maxLen at hm1
  clear hc1
  obtain ⟨M0, ev⟩ : ∃ x, x = tideOf c0 L1 c2 := ⟨_, rfl⟩
  have hMl0 : M0.length ≤ 1048576 := by have := tideOf_len c0 L1 c2; rw [ev]; omega
  have EM0 := hide ev
  clear ev
  obtain ⟨V1, ev⟩ : ∃ x, x = tideOk L1 c2 := ⟨_, rfl⟩
  have EV1 := hide ev
  clear ev
  have HW := hide (Below.refl w.heap.size w)
  go_enter Try.func5, Try.ntmps5
  go_wp2_with fail
  refine (szHarmonicS_any _ L1 1048576 _ (unhide HV1) (by omega) (by omega)).mono ?_
  rintro e w1 ⟨l0, rfl, hs, hb⟩
  subst hb
  obtain ⟨hp0, hq0, hs⟩ := hs
  have HS := hide hs
  clear hs
  by_cases hneg0 : l0 < 0
  · clear HS
    go_wp2
    go_ret
    exact ⟨rfl, unhide HW⟩
  have hsn1 := unhide HS (by omega)
  clear HS
  go_wp2_with fail
  refine (toHarmonicS_any _ L1 _ ((unhide HV1).below (unhide HW)) hsn1).mono ?_
  rintro e w1 ⟨gHS1, rfl, hgHS1, ho, hb⟩
  replace HW := hide (Below.step (unhide HW) hb)
  have huHS1 := ho.lt
  have HS1 := hide ho
  have zw1 := hb.size
  clear hb ho
  go_wp2_with fail
  refine (specTideDay_any _ c0 L1 c2 _ (OwnV.recsIn (unhide HS1) (Nat.le_refl _) (by unfold maxLen; omega))).mono ?_
  rintro e w2 ⟨a0, n0, cp0, rfl, hr0, hb⟩
  clear HS1
  replace HW := hide (Below.step (unhide HW) hb)
  rw [← unhide EV1]
  rw [← unhide EM0] at hr0
  have HSP0 := hide hr0.intsIn
  clear hr0
  have zw2 := hb.size
  clear hb
  have HZ := hide (Below.refl w2.heap.size w2)
  go_wp2_with fail
  refine (toHarmonicS_any _ L1 _ ((unhide HV1).below (unhide HW)) hsn1).mono ?_
  rintro e w3 ⟨gHO1, rfl, hgHO1, ho, hb⟩
  replace HW := hide (Below.step (unhide HW) hb)
  replace HZ := hide (Below.step (unhide HZ) hb)
  have huHO1 := ho.lt
  have HO1 := hide ho
  have zw3 := hb.size
  clear hb ho
  go_wp2_with fail
  refine (implTideDay_any _ c0 L1 c2 _ (OwnV.recsIn (unhide HO1) (Nat.le_refl _) (by unfold maxLen; omega))).mono ?_
  rintro e w4 ⟨ab0, nb0, cpb0, rfl, hr0, hb⟩
  replace HW := hide (Below.step (unhide HW) hb)
  replace HZ := hide (Below.step (unhide HZ) hb)
  replace HO1 := hide (OwnV.step (unhide HO1) hb)
  rw [← unhide EV1]
  rw [← unhide EM0] at hr0
  have hr0 := hr0.upto
  have HQ0 := hide hr0
  clear hr0
  have zw4 := hb.size
  clear hb
  go_wp2_with fail
  refine (eqFls_o _ _ M0 _ (unhide HQ0).inn ((unhide HSP0).below (unhide HZ))).mono ?_
  rintro e w5 ⟨rfl, hb⟩
  replace HW := hide (Below.step (unhide HW) hb)
  replace HZ := hide (Below.step (unhide HZ) hb)
  replace HO1 := hide (OwnV.step (unhide HO1) hb)
  replace HQ0 := hide ((unhide HQ0).below hb)
  have zw5 := hb.size
  clear hb
  go_wp2_with fail
  refine (toHarmonicS_any _ L1 _ ((unhide HV1).below (unhide HW)) hsn1).mono ?_
  rintro e w6 ⟨gHY1, rfl, hgHY1, ho, hb⟩
  replace HW := hide (Below.step (unhide HW) hb)
  replace HZ := hide (Below.step (unhide HZ) hb)
  replace HO1 := hide (OwnV.step (unhide HO1) hb)
  replace HQ0 := hide ((unhide HQ0).below hb)
  have huHY1 := ho.lt
  have HY1 := hide ho
  have zw6 := hb.size
  clear hb ho
  go_wp2_with fail
  refine (eqHarmonicS_any _ _ L1 _ (OwnV.recsIn (unhide HO1) (Nat.le_refl _) (by unfold maxLen; omega)) (OwnV.recsIn (unhide HY1) (Nat.le_refl _) (by unfold maxLen; omega))).mono ?_
  rintro e w7 ⟨rfl, hb⟩
  clear HY1
  replace HW := hide (Below.step (unhide HW) hb)
  replace HZ := hide (Below.step (unhide HZ) hb)
  replace HO1 := hide (OwnV.step (unhide HO1) hb)
  replace HQ0 := hide ((unhide HQ0).below hb)
  have zw7 := hb.size
  clear hb
  go_wp2_with fail
  refine (markHarms_o gHO1 L1 _ _ (unhide HO1) hsn1 (by omega) (by omega)).mono ?_
  rintro e w8 ⟨rfl, hk⟩
  clear HO1
  replace HW := hide ((unhide HW).trans (hk.below (B := w.heap.size) (by omega) (fun b e => by omega)))
  replace HZ := hide ((unhide HZ).trans (hk.below (B := w2.heap.size) (by omega) (fun b e => by omega)))
  replace HQ0 := hide ((unhide HQ0).kept hk (fun b h1 h2 e => by omega))
  have zw8 := hk.size
  clear hk
  go_wp2_with fail
  refine (eqFls_o _ _ M0 _ (unhide HQ0).inn ((unhide HSP0).below (unhide HZ))).mono ?_
  rintro e w9 ⟨rfl, hb⟩
  replace HW := hide (Below.step (unhide HW) hb)
  replace HZ := hide (Below.step (unhide HZ) hb)
  replace HQ0 := hide ((unhide HQ0).below hb)
  have zw9 := hb.size
  clear hb
  go_wp2_with fail
  refine (markFls_v _ _ _ _ _ M0 _ (unhide HQ0) hMl0).mono ?_
  rintro e w10 ⟨rfl, hk, ho⟩
  clear HQ0
  replace HW := hide ((unhide HW).trans (hk.below (B := w.heap.size) (by omega) (fun b e => by omega)))
  replace HZ := hide ((unhide HZ).trans (hk.below (B := w2.heap.size) (by omega) (fun b e => by omega)))
  have zw10 := hk.size
  have HQ0 := hide ho
  clear hk ho
  have HD0 := hide fun W hW => heldFls_v (.slice ab0 nb0 cpb0) M0 W hW hMl0
  go_wp2_with fail
  refine (unhide HD0 _ (unhide HQ0).inn).mono ?_
  rintro e w11 ⟨rfl, hb⟩
  replace HW := hide (Below.step (unhide HW) hb)
  replace HZ := hide (Below.step (unhide HZ) hb)
  replace HQ0 := hide ((unhide HQ0).below hb)
  have zw11 := hb.size
  clear hb
  go_wp2_with fail
  refine (toHarmonicS_any _ L1 _ ((unhide HV1).below (unhide HW)) hsn1).mono ?_
  rintro e w12 ⟨gHT1, rfl, hgHT1, ho, hb⟩
  replace HW := hide (Below.step (unhide HW) hb)
  replace HZ := hide (Below.step (unhide HZ) hb)
  replace HQ0 := hide ((unhide HQ0).below hb)
  have huHT1 := ho.lt
  have HT1 := hide ho
  have zw12 := hb.size
  clear hb ho
  go_wp2_with fail
  refine (implTideDay_any _ c0 L1 c2 _ (OwnV.recsIn (unhide HT1) (Nat.le_refl _) (by unfold maxLen; omega))).mono ?_
  rintro e w13 ⟨ac0, nc0, cpc0, rfl, hr0, hb⟩
  clear HT1
  replace HW := hide (Below.step (unhide HW) hb)
  replace HZ := hide (Below.step (unhide HZ) hb)
  replace HQ0 := hide ((unhide HQ0).below hb)
  rw [← unhide EV1]
  rw [← unhide EM0] at hr0
  have hr0 := hr0.upto
  have HI0 := hide hr0
  clear hr0
  have zw13 := hb.size
  clear hb
  go_wp2_with fail
  refine (eqFls_o _ _ M0 _ (unhide HI0).inn ((unhide HSP0).below (unhide HZ))).mono ?_
  rintro e w14 ⟨rfl, hb⟩
  replace HW := hide (Below.step (unhide HW) hb)
  replace HZ := hide (Below.step (unhide HZ) hb)
  replace HQ0 := hide ((unhide HQ0).below hb)
  replace HI0 := hide ((unhide HI0).below hb)
  have zw14 := hb.size
  clear hb
  clear HZ HI0
  go_wp2_with fail
  refine (unhide HD0 _ (unhide HQ0).inn).mono ?_
  rintro e w15 ⟨rfl, hb⟩
  replace HW := hide (Below.step (unhide HW) hb)
  replace HQ0 := hide ((unhide HQ0).below hb)
  have zw15 := hb.size
  clear hb
  go_wp2
  go_ret
  exact ⟨rfl, unhide HW⟩

end Go.Proofs.Ytglehiakikhlaaa

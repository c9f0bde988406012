/- FnExactBerthAll: at every argument the program's BerthAll answers as the specification's, in memory of its own; the arguments read as before. Written by wip/mkl17c.py. -/
import Derived.Test.YtogoknldhimgfaaQyY
import Derived.Test.YtogoknldhimgfaaMuCall
namespace Go.Proofs.Ytogoknldhimgfaa
open Go.RowKit

set_option maxRecDepth 10000 in
set_option maxHeartbeats 8000000 in
theorem lawBerthAll_any (long : Int) (pv0 : Value) (L0 : List CallT) (w : World) (h0 : RCall w pv0 L0) : Calls Try.prog 8 #[.int .i64 long, pv0] w fun e w' => e = .returned (.bool true) ∧ Below w.heap.size w w' := by
  have HV0 := hide h0
  obtain ⟨ao, cap, rfl, hl0, hm0, hc0⟩ := h0
  unfold maxLen at hm0
  clear hc0
  have HW := hide (Below.refl w.heap.size w)
  go_enter Try.func8, Try.ntmps8
  go_wp2_with fail
  refine (szCallS_any _ L0 1048576 _ ((unhide HV0).below (unhide HW)) (by omega) (by omega)).mono ?_
  rintro e u0 ⟨l0, rfl, hs, hb⟩
  replace HW := hide (Below.step (unhide HW) hb)
  clear hb
  obtain ⟨hp0, hq0, hs⟩ := hs
  have HS0 := hide hs
  clear hs
  by_cases hneg0 : l0 < 0
  · clear HS0
    go_wp2
    go_ret
    exact ⟨rfl, unhide HW⟩
  have hsn0 := unhide HS0 (by omega)
  clear HS0
  have HSC := hide fun W v (hv : RCall W v L0) => specBerthAll_any v long L0 W hv
  have HIC := hide fun W v (hv : RCall W v L0) => implBerthAll_any v long L0 W hv
  have hMl : (baV long L0).1.length ≤ 1048576 := Nat.le_trans (baV_len long L0) hsn0
  unfold BaAns at HIC HSC
  generalize (baV long L0).1 = M at *
  generalize (baV long L0).2 = C at *
  have hCC : (C != C) = false := by cases C <;> rfl
  go_wp2_with fail
  refine (toCallS_any _ L0 _ ((unhide HV0).below (unhide HW)) hsn0).mono ?_
  rintro e v1 ⟨gHA, rfl, hgHA, ho, hb⟩
  replace HW := hide (Below.step (unhide HW) hb)
  have HA := hide ho
  have huHA := ho.lt
  have zzHA := hb.size
  clear ho hb
  go_wp2_with fail
  refine (unhide HSC _ _ (OwnV.recsIn (unhide HA) (Nat.le_refl _) (by unfold maxLen; omega))).mono ?_
  rintro e v2 ⟨a1, n1, c1, rfl, hr, hb⟩
  replace HW := hide (Below.step (unhide HW) hb)
  replace HA := hide ((unhide HA).step hb)
  have HS1 := hide hr.intsIn
  clear hr hb HSC
  clear HA
  have HZ := hide (Below.refl v2.heap.size v2)
  have hsz1 := (unhide HW).size
  go_wp2_with fail
  refine (toCallS_any _ L0 _ ((unhide HV0).below (unhide HW)) hsn0).mono ?_
  rintro e v3 ⟨gHY, rfl, hgHY, ho, hb⟩
  replace HW := hide (Below.step (unhide HW) hb)
  replace HZ := hide (Below.step (unhide HZ) hb)
  have HY := hide ho
  have huHY := ho.lt
  have zzHY := hb.size
  clear ho hb
  have hszy := (unhide HZ).size
  go_wp2_with fail
  refine (unhide HIC _ _ (OwnV.recsIn (unhide HY) (Nat.le_refl _) (by unfold maxLen; omega))).mono ?_
  rintro e v4 ⟨b1g, m1g, d1g, rfl, hr, hb⟩
  replace HW := hide (Below.step (unhide HW) hb)
  replace HZ := hide (Below.step (unhide HZ) hb)
  replace HY := hide ((unhide HY).step hb)
  have HGg := hide hr.upto
  clear hr hb
  go_wp2_with fail
  refine (eqCallS_any _ _ M _ (unhide HGg).inn ((unhide HS1).below (unhide HZ))).mono ?_
  rintro e v5 ⟨rfl, hb⟩
  replace HW := hide (Below.step (unhide HW) hb)
  replace HZ := hide (Below.step (unhide HZ) hb)
  replace HY := hide ((unhide HY).step hb)
  replace HGg := hide ((unhide HGg).below hb)
  clear hb
  go_wp2_with fail
  refine (toCallS_any _ L0 _ ((unhide HV0).below (unhide HW)) hsn0).mono ?_
  rintro e v6 ⟨gHE, rfl, hgHE, ho, hb⟩
  replace HW := hide (Below.step (unhide HW) hb)
  replace HZ := hide (Below.step (unhide HZ) hb)
  replace HY := hide ((unhide HY).step hb)
  replace HGg := hide ((unhide HGg).below hb)
  have HE := hide ho
  have huHE := ho.lt
  have zzHE := hb.size
  clear ho hb
  go_wp2_with fail
  refine (eqCallS_any _ _ L0 _ (OwnV.recsIn (unhide HY) (Nat.le_refl _) (by unfold maxLen; omega)) (OwnV.recsIn (unhide HE) (Nat.le_refl _) (by unfold maxLen; omega))).mono ?_
  rintro e v7 ⟨rfl, hb⟩
  replace HW := hide (Below.step (unhide HW) hb)
  replace HZ := hide (Below.step (unhide HZ) hb)
  replace HY := hide ((unhide HY).step hb)
  replace HGg := hide ((unhide HGg).below hb)
  replace HE := hide ((unhide HE).step hb)
  clear hb
  clear HE
  go_wp2_with fail
  refine (markCallS_any gHY L0.length L0.length _ 1 _ (unhide HY) (by rw [recCells_length]; omega) hsn0 (by omega) (by omega)).mono ?_
  rintro e v8 ⟨rfl, hk, hG⟩
  clear hG
  replace HW := hide ((unhide HW).trans (hk.below (B := w.heap.size) (unhide HW).size (fun b e => by omega)))
  replace HZ := hide ((unhide HZ).trans (hk.below (B := v2.heap.size) (unhide HZ).size (fun b e => by omega)))
  replace HGg := hide ((unhide HGg).kept hk (fun b h1 h2 h3 => by omega))
  clear hk
  clear HY
  have hk0 : decide ((1 : Int) + 5 * (L0.length : Int) < 0) = false := by rw [decide_eq_false_iff_not]; omega
  go_wp2_with fail
  refine (eqCallS_any _ _ M _ (unhide HGg).inn ((unhide HS1).below (unhide HZ))).mono ?_
  rintro e v9 ⟨rfl, hb⟩
  replace HW := hide (Below.step (unhide HW) hb)
  replace HZ := hide (Below.step (unhide HZ) hb)
  replace HGg := hide ((unhide HGg).below hb)
  clear hb
  go_wp2_with fail
  refine (markCallS_v _ _ _ _ _ M _ (unhide HGg) hMl).mono ?_
  rintro e v10 ⟨rfl, hk, hG⟩
  replace HW := hide ((unhide HW).trans (hk.below (B := w.heap.size) (unhide HW).size (fun b e => by omega)))
  replace HZ := hide ((unhide HZ).trans (hk.below (B := v2.heap.size) (unhide HZ).size (fun b e => by omega)))
  replace HGg := hide hG
  clear hk hG hk0
  go_wp2_with fail
  refine (heldCallS_v _ _ _ _ _ M _ (unhide HGg) hMl).mono ?_
  rintro e v11 ⟨rfl, hb⟩
  replace HW := hide (Below.step (unhide HW) hb)
  replace HZ := hide (Below.step (unhide HZ) hb)
  replace HGg := hide ((unhide HGg).below hb)
  clear hb
  go_wp2_with fail
  refine (toCallS_any _ L0 _ ((unhide HV0).below (unhide HW)) hsn0).mono ?_
  rintro e v12 ⟨gHT, rfl, hgHT, ho, hb⟩
  replace HW := hide (Below.step (unhide HW) hb)
  replace HZ := hide (Below.step (unhide HZ) hb)
  replace HGg := hide ((unhide HGg).below hb)
  have HT := hide ho
  have huHT := ho.lt
  have zzHT := hb.size
  clear ho hb
  go_wp2_with fail
  refine (unhide HIC _ _ (OwnV.recsIn (unhide HT) (Nat.le_refl _) (by unfold maxLen; omega))).mono ?_
  rintro e v13 ⟨b1h, m1h, d1h, rfl, hr, hb⟩
  replace HW := hide (Below.step (unhide HW) hb)
  replace HZ := hide (Below.step (unhide HZ) hb)
  replace HGg := hide ((unhide HGg).below hb)
  replace HT := hide ((unhide HT).step hb)
  have HGh := hide hr.upto
  clear hr hb
  clear HT
  go_wp2_with fail
  refine (eqCallS_any _ _ M _ (unhide HGh).inn ((unhide HS1).below (unhide HZ))).mono ?_
  rintro e v14 ⟨rfl, hb⟩
  replace HW := hide (Below.step (unhide HW) hb)
  replace HZ := hide (Below.step (unhide HZ) hb)
  replace HGg := hide ((unhide HGg).below hb)
  replace HGh := hide ((unhide HGh).below hb)
  clear hb
  go_wp2_with fail
  refine (heldCallS_v _ _ _ _ _ M _ (unhide HGg) hMl).mono ?_
  rintro e v15 ⟨rfl, hb⟩
  replace HW := hide (Below.step (unhide HW) hb)
  replace HZ := hide (Below.step (unhide HZ) hb)
  replace HGg := hide ((unhide HGg).below hb)
  replace HGh := hide ((unhide HGh).below hb)
  clear hb
  go_wp2
  go_ret
  exact ⟨rfl, unhide HW⟩

end Go.Proofs.Ytogoknldhimgfaa

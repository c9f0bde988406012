/- FnExactRunMoves: at every argument the program's RunMoves answers as the specification's, in memory of its own; the arguments read as before. Written by wip/mkl17b.py. -/
import Derived.Test.YtogoknldhimgfaaCrH
namespace Go.Proofs.Ytogoknldhimgfaa
open Go.RowKit

theorem markInts_k (B U : Nat) (ao : Option Addr) (n cap : Nat) (xs : List Int) (k : Int) (w : World) (h : OwnIntsU B U w (.slice ao n cap) xs) (hn : xs.length ≤ 1048576) (hk0 : 0 ≤ k) (hk1 : k ≤ 4611686018427387904) :
    Calls Try.prog 51 #[.slice ao n cap, .int .i64 k] w fun e w' => e = .returned (.int .i64 (k + xs.length)) ∧ Kept (fun b => B ≤ b ∧ b < U) w w' ∧ OwnIntsU B U w' (.slice ao n cap) (marks k xs.length) := by
  obtain ⟨ao', cap', e, h1, h2, h3⟩ := h
  simp only [Value.slice.injEq] at e
  obtain ⟨rfl, rfl, rfl⟩ := e
  by_cases hne : xs = []
  · subst hne
    refine (markIntS_any ao cap [] k 0 w (fun h => absurd rfl h) hn hk0 hk1).mono ?_
    rintro e w' ⟨rfl, hk, _⟩
    exact ⟨rfl, hk.mono (fun b _ hb => absurd rfl hb.2), ao, cap, by rw [marks_len], by rw [marks_len]; exact h1, h2, fun h => absurd rfl h⟩
  · obtain ⟨g, rfl, hg, hu, ho⟩ := h3 hne
    refine (markIntS_any _ cap xs k g w (fun _ => ⟨rfl, ho⟩) hn hk0 hk1).mono ?_
    rintro e w' ⟨rfl, hk, ho'⟩
    exact ⟨rfl, hk.mono (fun b _ hb => by rw [hb.1]; exact ⟨hg, hu⟩), _, cap, by rw [marks_len], by rw [marks_len]; exact h1, h2, fun _ => ⟨g, rfl, hg, hu, ho' hne⟩⟩
theorem heldInts_k (v : Value) (n : Nat) (k : Int) (W : World) (hW : IntsIn W v (marks k n)) (hn : n ≤ 1048576) (hk0 : 0 ≤ k) (hk1 : k ≤ 4611686018427387904) :
    Calls Try.prog 52 #[v, .int .i64 k] W fun e w' => e = .returned (.int .i64 (k + (n : Int))) ∧ Below W.heap.size W w' := by
  refine (heldIntS_any v (marks k n) k W hW (by rw [marks_len]) (by rw [marks_len]; exact hn) hk0 hk1).mono ?_
  rintro e w' ⟨rfl, rfl⟩
  rw [marks_len]
  exact ⟨rfl, Below.refl _ _⟩
set_option maxRecDepth 10000 in
set_option maxHeartbeats 8000000 in
theorem lawRunMoves_any (pv0 : Value) (L0 : List CraneT) (gap : Int) (pv1 : Value) (L1 : List MoveT) (w : World) (h0 : RCrane w pv0 L0) (h1 : RMove w pv1 L1) : Calls Try.prog 13 #[pv0, .int .i64 gap, pv1] w fun e w' => e = .returned (.bool true) ∧ Below w.heap.size w w' := by
  have HV0 := hide h0
  have HV1 := hide h1
  obtain ⟨ao, cap, rfl, hl0, hm0, hc0⟩ := h0
  obtain ⟨ao1, cap1, rfl, hl1, hm1, hc1⟩ := h1
  unfold maxLen at hm0 hm1
  clear hc0 hc1
  have HW := hide (Below.refl w.heap.size w)
  go_enter Try.func13, Try.ntmps13
  go_wp2_with fail
  refine (szCraneS_any _ L0 1048576 _ ((unhide HV0).below (unhide HW)) (by omega) (by omega)).mono ?_
  rintro e u0 ⟨l0, rfl, hs, hb⟩
  replace HW := hide (Below.step (unhide HW) hb)
  clear hb
  obtain ⟨hp0, hq0, hs⟩ := hs
  have HS0 := hide hs
  clear hs
  by_cases hneg0 : l0 < 0
  · clear HS0
    go_wp2
    go_ret
    exact ⟨rfl, unhide HW⟩
  have hsn0 := unhide HS0 (by omega)
  clear HS0
  go_wp2_with fail
  refine (szMoveS_any _ L1 l0 _ ((unhide HV1).below (unhide HW)) (by omega) (by omega)).mono ?_
  rintro e u1 ⟨l1, rfl, hs, hb⟩
  replace HW := hide (Below.step (unhide HW) hb)
  clear hb
  obtain ⟨hp1, hq1, hs⟩ := hs
  have HS0 := hide hs
  clear hs
  by_cases hneg1 : l1 < 0
  · clear HS0
    go_wp2
    go_ret
    exact ⟨rfl, unhide HW⟩
  have hsn1 := unhide HS0 (by omega)
  clear HS0
  have HSC := hide fun W v p (hv : RCrane W v L0) (hp : RMove W p L1) => specRunMoves_any v p L0 L1 gap W hv hp hsn0
  have HIC := hide fun W v p (hv : RCrane W v L0) (hp : RMove W p L1) => implRunMoves_any v p L0 L1 gap W hv hp hsn0
  have hMl : (rmL L0 gap L1 (rmN L1)).length ≤ 1048576 := by rw [rmL_len]; exact hsn0
  have hKl : (rmCs L0 gap L1 (rmN L1)).length ≤ 1048576 := by have := rmN_le L1; rw [rmCs_len]; omega
  unfold RmAns at HIC
  unfold RmAnsS at HSC
  generalize rmL L0 gap L1 (rmN L1) = M at *
  generalize rmCs L0 gap L1 (rmN L1) = K at *
  go_wp2_with fail
  refine (toCraneS_any _ L0 _ ((unhide HV0).below (unhide HW)) hsn0).mono ?_
  rintro e v1 ⟨gHA, rfl, hgHA, ho, hb⟩
  replace HW := hide (Below.step (unhide HW) hb)
  have HA := hide ho
  have huHA := ho.lt
  have zzHA := hb.size
  clear ho hb
  go_wp2_with fail
  refine (toMoveS_any _ L1 _ ((unhide HV1).below (unhide HW)) hsn1).mono ?_
  rintro e v2 ⟨gHC, rfl, hgHC, ho, hb⟩
  replace HW := hide (Below.step (unhide HW) hb)
  replace HA := hide ((unhide HA).step hb)
  have HC := hide ho
  have huHC := ho.lt
  have zzHC := hb.size
  clear ho hb
  go_wp2_with fail
  refine (unhide HSC _ _ _ (OwnV.recsIn (unhide HA) (Nat.le_refl _) (by unfold maxLen; omega)) (OwnV.recsIn (unhide HC) (Nat.le_refl _) (by unfold maxLen; omega))).mono ?_
  rintro e v3 ⟨a1, n1, c1, a2, n2, c2, rfl, hr, hr2, hb⟩
  replace HW := hide (Below.step (unhide HW) hb)
  replace HA := hide ((unhide HA).step hb)
  replace HC := hide ((unhide HC).step hb)
  have HS1 := hide hr.intsIn
  have HS2 := hide hr2.intsIn
  clear hr hr2 hb HSC
  clear HA
  clear HC
  have HZ := hide (Below.refl v3.heap.size v3)
  have hsz1 := (unhide HW).size
  go_wp2_with fail
  refine (toCraneS_any _ L0 _ ((unhide HV0).below (unhide HW)) hsn0).mono ?_
  rintro e v4 ⟨gHY, rfl, hgHY, ho, hb⟩
  replace HW := hide (Below.step (unhide HW) hb)
  replace HZ := hide (Below.step (unhide HZ) hb)
  have HY := hide ho
  have huHY := ho.lt
  have zzHY := hb.size
  clear ho hb
  have hszy := (unhide HZ).size
  go_wp2_with fail
  refine (toMoveS_any _ L1 _ ((unhide HV1).below (unhide HW)) hsn1).mono ?_
  rintro e v5 ⟨gHQ, rfl, hgHQ, ho, hb⟩
  replace HW := hide (Below.step (unhide HW) hb)
  replace HZ := hide (Below.step (unhide HZ) hb)
  replace HY := hide ((unhide HY).step hb)
  have HQ := hide ho
  have huHQ := ho.lt
  have zzHQ := hb.size
  clear ho hb
  have hszq := (unhide HZ).size
  have hYQ : gHY < gHQ := by omega
  go_wp2_with fail
  refine (unhide HIC _ _ _ (OwnV.recsIn (unhide HY) (Nat.le_refl _) (by unfold maxLen; omega)) (OwnV.recsIn (unhide HQ) (Nat.le_refl _) (by unfold maxLen; omega))).mono ?_
  rintro e v6 ⟨Xg, b1g, m1g, d1g, b2g, m2g, d2g, rfl, hX1g, hX2g, hr, hr2, hb⟩
  replace HW := hide (Below.step (unhide HW) hb)
  replace HZ := hide (Below.step (unhide HZ) hb)
  replace HY := hide ((unhide HY).step hb)
  replace HQ := hide ((unhide HQ).step hb)
  have HGg := hide hr
  have HKg := hide hr2
  clear hr hr2 hb
  go_wp2_with fail
  refine (eqCraneS_any _ _ M _ (unhide HGg).inn ((unhide HS1).below (unhide HZ))).mono ?_
  rintro e v7 ⟨rfl, hb⟩
  replace HW := hide (Below.step (unhide HW) hb)
  replace HZ := hide (Below.step (unhide HZ) hb)
  replace HY := hide ((unhide HY).step hb)
  replace HQ := hide ((unhide HQ).step hb)
  replace HGg := hide ((unhide HGg).below hb)
  replace HKg := hide ((unhide HKg).below hb)
  clear hb
  go_wp2_with fail
  refine (eqIntS_o _ _ K _ (unhide HKg).inn ((unhide HS2).below (unhide HZ))).mono ?_
  rintro e v8 ⟨rfl, hb⟩
  replace HW := hide (Below.step (unhide HW) hb)
  replace HZ := hide (Below.step (unhide HZ) hb)
  replace HY := hide ((unhide HY).step hb)
  replace HQ := hide ((unhide HQ).step hb)
  replace HGg := hide ((unhide HGg).below hb)
  replace HKg := hide ((unhide HKg).below hb)
  clear hb
  go_wp2_with fail
  refine (toCraneS_any _ L0 _ ((unhide HV0).below (unhide HW)) hsn0).mono ?_
  rintro e v9 ⟨gHE, rfl, hgHE, ho, hb⟩
  replace HW := hide (Below.step (unhide HW) hb)
  replace HZ := hide (Below.step (unhide HZ) hb)
  replace HY := hide ((unhide HY).step hb)
  replace HQ := hide ((unhide HQ).step hb)
  replace HGg := hide ((unhide HGg).below hb)
  replace HKg := hide ((unhide HKg).below hb)
  have HE := hide ho
  have huHE := ho.lt
  have zzHE := hb.size
  clear ho hb
  go_wp2_with fail
  refine (eqCraneS_any _ _ L0 _ (OwnV.recsIn (unhide HY) (Nat.le_refl _) (by unfold maxLen; omega)) (OwnV.recsIn (unhide HE) (Nat.le_refl _) (by unfold maxLen; omega))).mono ?_
  rintro e v10 ⟨rfl, hb⟩
  replace HW := hide (Below.step (unhide HW) hb)
  replace HZ := hide (Below.step (unhide HZ) hb)
  replace HY := hide ((unhide HY).step hb)
  replace HQ := hide ((unhide HQ).step hb)
  replace HGg := hide ((unhide HGg).below hb)
  replace HKg := hide ((unhide HKg).below hb)
  replace HE := hide ((unhide HE).step hb)
  clear hb
  clear HE
  go_wp2_with fail
  refine (toMoveS_any _ L1 _ ((unhide HV1).below (unhide HW)) hsn1).mono ?_
  rintro e v11 ⟨gHE2, rfl, hgHE2, ho, hb⟩
  replace HW := hide (Below.step (unhide HW) hb)
  replace HZ := hide (Below.step (unhide HZ) hb)
  replace HY := hide ((unhide HY).step hb)
  replace HQ := hide ((unhide HQ).step hb)
  replace HGg := hide ((unhide HGg).below hb)
  replace HKg := hide ((unhide HKg).below hb)
  have HE2 := hide ho
  have huHE2 := ho.lt
  have zzHE2 := hb.size
  clear ho hb
  go_wp2_with fail
  refine (eqMoveS_any _ _ L1 _ (OwnV.recsIn (unhide HQ) (Nat.le_refl _) (by unfold maxLen; omega)) (OwnV.recsIn (unhide HE2) (Nat.le_refl _) (by unfold maxLen; omega))).mono ?_
  rintro e v12 ⟨rfl, hb⟩
  replace HW := hide (Below.step (unhide HW) hb)
  replace HZ := hide (Below.step (unhide HZ) hb)
  replace HY := hide ((unhide HY).step hb)
  replace HQ := hide ((unhide HQ).step hb)
  replace HGg := hide ((unhide HGg).below hb)
  replace HKg := hide ((unhide HKg).below hb)
  replace HE2 := hide ((unhide HE2).step hb)
  clear hb
  clear HE2
  go_wp2_with fail
  refine (markCraneS_any gHY L0.length L0.length _ 1 _ (unhide HY) (by rw [recCells_length]; omega) hsn0 (by omega) (by omega)).mono ?_
  rintro e v13 ⟨rfl, hk, hG⟩
  clear hG
  replace HW := hide ((unhide HW).trans (hk.below (B := w.heap.size) (unhide HW).size (fun b e => by omega)))
  replace HZ := hide ((unhide HZ).trans (hk.below (B := v3.heap.size) (unhide HZ).size (fun b e => by omega)))
  replace HGg := hide ((unhide HGg).kept hk (fun b h1 h2 h3 => by omega))
  replace HKg := hide ((unhide HKg).kept hk (fun b h1 h2 h3 => by omega))
  replace HQ := hide ((unhide HQ).kept hk (fun e => by omega))
  clear hk
  clear HY
  go_wp2_with fail
  refine (markMoveS_any gHQ L1.length L1.length _ _ _ (unhide HQ) (by rw [recCells_length]; omega) hsn1 (by omega) (by omega)).mono ?_
  rintro e v14 ⟨rfl, hk, hG⟩
  clear hG
  replace HW := hide ((unhide HW).trans (hk.below (B := w.heap.size) (unhide HW).size (fun b e => by omega)))
  replace HZ := hide ((unhide HZ).trans (hk.below (B := v3.heap.size) (unhide HZ).size (fun b e => by omega)))
  replace HGg := hide ((unhide HGg).kept hk (fun b h1 h2 h3 => by omega))
  replace HKg := hide ((unhide HKg).kept hk (fun b h1 h2 h3 => by omega))
  clear hk
  clear HQ
  have hk0 : decide ((1 : Int) + 3 * (L0.length : Int) + 2 * (L1.length : Int) < 0) = false := by rw [decide_eq_false_iff_not]; omega
  go_wp2_with fail
  refine (eqCraneS_any _ _ M _ (unhide HGg).inn ((unhide HS1).below (unhide HZ))).mono ?_
  rintro e v15 ⟨rfl, hb⟩
  replace HW := hide (Below.step (unhide HW) hb)
  replace HZ := hide (Below.step (unhide HZ) hb)
  replace HGg := hide ((unhide HGg).below hb)
  replace HKg := hide ((unhide HKg).below hb)
  clear hb
  go_wp2_with fail
  refine (eqIntS_o _ _ K _ (unhide HKg).inn ((unhide HS2).below (unhide HZ))).mono ?_
  rintro e v16 ⟨rfl, hb⟩
  replace HW := hide (Below.step (unhide HW) hb)
  replace HZ := hide (Below.step (unhide HZ) hb)
  replace HGg := hide ((unhide HGg).below hb)
  replace HKg := hide ((unhide HKg).below hb)
  clear hb
  go_wp2_with fail
  refine (markCraneS_v _ _ _ _ _ M _ (unhide HGg) hMl).mono ?_
  rintro e v17 ⟨rfl, hk, hG⟩
  replace HW := hide ((unhide HW).trans (hk.below (B := w.heap.size) (unhide HW).size (fun b e => by omega)))
  replace HZ := hide ((unhide HZ).trans (hk.below (B := v3.heap.size) (unhide HZ).size (fun b e => by omega)))
  replace HKg := hide ((unhide HKg).kept hk (fun b h1 h2 h3 => by omega))
  replace HGg := hide hG
  clear hk hG hk0
  go_wp2_with fail
  refine (markInts_k _ _ _ _ _ K (1 + 3 * (M.length : Int)) _ (unhide HKg) hKl (by omega) (by omega)).mono ?_
  rintro e v18 ⟨rfl, hk, hG⟩
  replace HW := hide ((unhide HW).trans (hk.below (B := w.heap.size) (unhide HW).size (fun b e => by omega)))
  replace HZ := hide ((unhide HZ).trans (hk.below (B := v3.heap.size) (unhide HZ).size (fun b e => by omega)))
  replace HGg := hide ((unhide HGg).kept hk (fun b h1 h2 h3 => by omega))
  replace HKg := hide hG
  clear hk hG
  have hmm : ((1 : Int) + 3 * (M.length : Int) + (K.length : Int) != 1 + 3 * (M.length : Int) + (K.length : Int)) = false := by simp
  go_wp2_with fail
  refine (heldCraneS_v _ _ _ _ _ M _ (unhide HGg) hMl).mono ?_
  rintro e v19 ⟨rfl, hb⟩
  replace HW := hide (Below.step (unhide HW) hb)
  replace HZ := hide (Below.step (unhide HZ) hb)
  replace HGg := hide ((unhide HGg).below hb)
  replace HKg := hide ((unhide HKg).below hb)
  clear hb
  go_wp2_with fail
  refine (heldInts_k _ K.length (1 + 3 * (M.length : Int)) _ (unhide HKg).inn hKl (by omega) (by omega)).mono ?_
  rintro e v20 ⟨rfl, hb⟩
  replace HW := hide (Below.step (unhide HW) hb)
  replace HZ := hide (Below.step (unhide HZ) hb)
  replace HGg := hide ((unhide HGg).below hb)
  replace HKg := hide ((unhide HKg).below hb)
  clear hb
  go_wp2_with fail
  refine (toCraneS_any _ L0 _ ((unhide HV0).below (unhide HW)) hsn0).mono ?_
  rintro e v21 ⟨gHT, rfl, hgHT, ho, hb⟩
  replace HW := hide (Below.step (unhide HW) hb)
  replace HZ := hide (Below.step (unhide HZ) hb)
  replace HGg := hide ((unhide HGg).below hb)
  replace HKg := hide ((unhide HKg).below hb)
  have HT := hide ho
  have huHT := ho.lt
  have zzHT := hb.size
  clear ho hb
  go_wp2_with fail
  refine (toMoveS_any _ L1 _ ((unhide HV1).below (unhide HW)) hsn1).mono ?_
  rintro e v22 ⟨gHT2, rfl, hgHT2, ho, hb⟩
  replace HW := hide (Below.step (unhide HW) hb)
  replace HZ := hide (Below.step (unhide HZ) hb)
  replace HGg := hide ((unhide HGg).below hb)
  replace HKg := hide ((unhide HKg).below hb)
  replace HT := hide ((unhide HT).step hb)
  have HT2 := hide ho
  have huHT2 := ho.lt
  have zzHT2 := hb.size
  clear ho hb
  go_wp2_with fail
  refine (unhide HIC _ _ _ (OwnV.recsIn (unhide HT) (Nat.le_refl _) (by unfold maxLen; omega)) (OwnV.recsIn (unhide HT2) (Nat.le_refl _) (by unfold maxLen; omega))).mono ?_
  rintro e v23 ⟨Xh, b1h, m1h, d1h, b2h, m2h, d2h, rfl, hX1h, hX2h, hr, hr2, hb⟩
  replace HW := hide (Below.step (unhide HW) hb)
  replace HZ := hide (Below.step (unhide HZ) hb)
  replace HGg := hide ((unhide HGg).below hb)
  replace HKg := hide ((unhide HKg).below hb)
  replace HT := hide ((unhide HT).step hb)
  replace HT2 := hide ((unhide HT2).step hb)
  have HGh := hide hr
  have HKh := hide hr2
  clear hr hr2 hb
  clear HT
  clear HT2
  go_wp2_with fail
  refine (eqCraneS_any _ _ M _ (unhide HGh).inn ((unhide HS1).below (unhide HZ))).mono ?_
  rintro e v24 ⟨rfl, hb⟩
  replace HW := hide (Below.step (unhide HW) hb)
  replace HZ := hide (Below.step (unhide HZ) hb)
  replace HGg := hide ((unhide HGg).below hb)
  replace HKg := hide ((unhide HKg).below hb)
  replace HGh := hide ((unhide HGh).below hb)
  replace HKh := hide ((unhide HKh).below hb)
  clear hb
  go_wp2_with fail
  refine (eqIntS_o _ _ K _ (unhide HKh).inn ((unhide HS2).below (unhide HZ))).mono ?_
  rintro e v25 ⟨rfl, hb⟩
  replace HW := hide (Below.step (unhide HW) hb)
  replace HZ := hide (Below.step (unhide HZ) hb)
  replace HGg := hide ((unhide HGg).below hb)
  replace HKg := hide ((unhide HKg).below hb)
  replace HGh := hide ((unhide HGh).below hb)
  replace HKh := hide ((unhide HKh).below hb)
  clear hb
  go_wp2_with fail
  refine (heldCraneS_v _ _ _ _ _ M _ (unhide HGg) hMl).mono ?_
  rintro e v26 ⟨rfl, hb⟩
  replace HW := hide (Below.step (unhide HW) hb)
  replace HZ := hide (Below.step (unhide HZ) hb)
  replace HGg := hide ((unhide HGg).below hb)
  replace HKg := hide ((unhide HKg).below hb)
  replace HGh := hide ((unhide HGh).below hb)
  replace HKh := hide ((unhide HKh).below hb)
  clear hb
  go_wp2_with fail
  refine (heldInts_k _ K.length (1 + 3 * (M.length : Int)) _ (unhide HKg).inn hKl (by omega) (by omega)).mono ?_
  rintro e v27 ⟨rfl, hb⟩
  replace HW := hide (Below.step (unhide HW) hb)
  replace HZ := hide (Below.step (unhide HZ) hb)
  replace HGg := hide ((unhide HGg).below hb)
  replace HKg := hide ((unhide HKg).below hb)
  replace HGh := hide ((unhide HGh).below hb)
  replace HKh := hide ((unhide HKh).below hb)
  clear hb
  go_wp2
  go_ret
  exact ⟨rfl, unhide HW⟩

end Go.Proofs.Ytogoknldhimgfaa

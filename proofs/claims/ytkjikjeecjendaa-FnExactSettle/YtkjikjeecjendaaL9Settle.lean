/- The law of Settle, walked. Written by wip/mk9.py. -/
import Derived.Test.YtkjikjeecjendaaRdQ
import Derived.Test.YtkjikjeecjendaaRdP
import Derived.Test.YtkjikjeecjendaaRgI
namespace Go.Proofs.Ytkjikjeecjendaa
open Go.RowKit

set_option maxRecDepth 10000 in
set_option maxHeartbeats 3200000 in
theorem lawSettle_any (pv : Value) (L : List Rad) (pc : Value) (C : List Int) (w : World) (h : RadsIn w pv L) (hC : IntsIn w pc C) (h64 : ∀ i, i < C.length → -9223372036854775808 ≤ C.getD i 0 ∧ C.getD i 0 ≤ 9223372036854775807) : Calls Try.prog 11 #[pv, pc] w fun e w' => e = .returned (.bool true) ∧ Below w.heap.size w w' := by
  have HV := hide h
  have HVC := hide hC
  have H64 := hide h64
  obtain ⟨ao, cap, rfl, hlc, hm, hc⟩ := h
  obtain ⟨ca, cc, rfl, hcl, hcm, hcc⟩ := hC
  unfold maxLen at hm hcm
  clear hc hcc h64
  have HW := hide (Below.refl w.heap.size w)
  by_cases hbig : 1048576 < (C.length : Int)
  · go_enter Try.func11, Try.ntmps11
    go_wp2
    go_ret
    exact ⟨rfl, unhide HW⟩
  have hCs : C.length ≤ 1048576 := by omega
  go_enter Try.func11, Try.ntmps11
  go_wp2_with fail
  refine (szRadioS_any _ L 1048576 _ (unhide HV) (by omega) (by omega)).mono ?_
  rintro e w1 ⟨r, rfl, ⟨hr0, hr1, hr2⟩, hb⟩
  replace HW := hide (Below.step (unhide HW) hb)
  have HR := hide hr2
  clear hb hr2
  by_cases hr : r < 0
  · go_wp2
    go_ret
    exact ⟨rfl, unhide HW⟩
  obtain ⟨hs, hl⟩ := unhide HR (by omega)
  have HL := hide hl
  have HT := hide fun W (hW : Below w.heap.size w W) => toRadioS_any _ L W ((unhide HV).below hW) hs (unhide HL)
  have HTC := hide fun W (hW : Below w.heap.size w W) => toIntS_o _ C W ((unhide HVC).below hW) hCs
  have HS := hide fun W v cv (hv : RadsIn W v L) (hc : IntsIn W cv C) => specSettle_any v cv L C W hv hc hs (unhide HL) (unhide H64)
  have HI := hide fun W v cv (hv : RadsIn W v L) (hc : IntsIn W cv C) => implSettle_any v cv L C W hv hc hs (unhide HL)
  obtain ⟨hSs, hSl⟩ := settle_bd (C := C) hs hl
  generalize settleV L C = SV at *
  obtain ⟨S, u, bb⟩ := SV
  dsimp only at HS HI hSs hSl
  have HSL := hide hSl
  have huu : (u != u) = false := by simp
  have hbb : (bb != bb) = false := by cases bb <;> rfl
  clear hl HR hSl
  go_wp2_with fail
  refine (unhide HT _ (unhide HW)).mono ?_
  rintro e v1 ⟨gHX, GHX, rfl, hgHX, ho, hb⟩
  replace HW := hide (Below.step (unhide HW) hb)
  have HX := hide ho
  have huHX := ho.1.lt
  clear ho hb
  go_wp2_with fail
  refine (unhide HTC _ (unhide HW)).mono ?_
  rintro e v2 ⟨gHK, rfl, hgHK, ho, hb⟩
  replace HW := hide (Below.step (unhide HW) hb)
  replace HX := hide ((unhide HX).step hb)
  have HK := hide ho
  have huHK := ho.lt
  clear ho hb
  go_wp2_with fail
  refine (unhide HS _ _ _ ((unhide HX).inn hs (unhide HL)) (OwnV.intsIn (unhide HK) (Nat.le_refl _) (by unfold maxLen; omega))).mono ?_
  rintro e v3 ⟨ra1, rn1, rc1, rfl, ho, hb⟩
  replace HW := hide (Below.step (unhide HW) hb)
  replace HX := hide ((unhide HX).step hb)
  replace HK := hide ((unhide HK).step hb)
  have HSP := hide ho
  clear ho hb HS
  clear HX
  clear HK
  have HZ := hide (Below.refl v3.heap.size v3)
  have hsz1 := (unhide HW).size
  go_wp2_with fail
  refine (unhide HT _ (unhide HW)).mono ?_
  rintro e v4 ⟨gHY, GHY, rfl, hgHY, ho, hb⟩
  replace HW := hide (Below.step (unhide HW) hb)
  replace HZ := hide (Below.step (unhide HZ) hb)
  have HY := hide ho
  have huHY := ho.1.lt
  clear ho hb
  have hszm := (unhide HZ).size
  have HYr : Hid (∀ b, RdBl gHY GHY L.length b → b < v4.heap.size) := fun b hb => by
    rcases hb with rfl | ⟨r, hr, rfl⟩
    · exact huHY
    · exact ((unhide HY).2.1 r hr).2.lt
  go_wp2_with fail
  refine (unhide HTC _ (unhide HW)).mono ?_
  rintro e v5 ⟨gHQ, rfl, hgHQ, ho, hb⟩
  replace HW := hide (Below.step (unhide HW) hb)
  replace HZ := hide (Below.step (unhide HZ) hb)
  replace HY := hide ((unhide HY).step hb)
  have HQ := hide ho
  have huHQ := ho.lt
  clear ho hb
  have hsz2 := (unhide HZ).size
  have HAP : Hid (¬ RdBl gHY GHY L.length gHQ) := fun hb => by
    have := unhide HYr _ hb
    omega
  have HU : Hid (∀ b, RdBl gHY GHY L.length b → v3.heap.size ≤ b ∧ b < v5.heap.size) := fun b hb => by
    rcases hb with rfl | ⟨r, hr, rfl⟩
    · exact ⟨by omega, (unhide HY).1.lt⟩
    · have h1 := ((unhide HY).2.1 r hr).1
      exact ⟨by omega, ((unhide HY).2.1 r hr).2.lt⟩
  go_wp2_with fail
  refine (unhide HI _ _ _ ((unhide HY).inn hs (unhide HL)) (OwnV.intsIn (unhide HQ) (Nat.le_refl _) (by unfold maxLen; omega))).mono ?_
  rintro e v6 ⟨ra2, rn2, rc2, rfl, ho, hb⟩
  replace HW := hide (Below.step (unhide HW) hb)
  replace HZ := hide (Below.step (unhide HZ) hb)
  replace HY := hide ((unhide HY).step hb)
  replace HQ := hide ((unhide HQ).step hb)
  have HG := hide ho.upto
  clear ho hb
  go_wp2_with fail
  refine (eqRadioS_any _ _ S _ ((unhide HG).inn hSs (unhide HSL)) ((unhide HSP).below (unhide HZ))).mono ?_
  rintro e v7 ⟨rfl, hb⟩
  replace HW := hide (Below.step (unhide HW) hb)
  replace HZ := hide (Below.step (unhide HZ) hb)
  replace HY := hide ((unhide HY).step hb)
  replace HQ := hide ((unhide HQ).step hb)
  replace HG := hide ((unhide HG).below hb)
  clear hb
  go_wp2_with fail
  refine (unhide HT _ (unhide HW)).mono ?_
  rintro e v8 ⟨gHE, GHE, rfl, hgHE, ho, hb⟩
  replace HW := hide (Below.step (unhide HW) hb)
  replace HZ := hide (Below.step (unhide HZ) hb)
  replace HY := hide ((unhide HY).step hb)
  replace HQ := hide ((unhide HQ).step hb)
  replace HG := hide ((unhide HG).below hb)
  have HE := hide ho
  have huHE := ho.1.lt
  clear ho hb
  go_wp2_with fail
  refine (eqRadioS_any _ _ L _ ((unhide HY).inn hs (unhide HL)) ((unhide HE).inn hs (unhide HL))).mono ?_
  rintro e v9 ⟨rfl, hb⟩
  replace HW := hide (Below.step (unhide HW) hb)
  replace HZ := hide (Below.step (unhide HZ) hb)
  replace HY := hide ((unhide HY).step hb)
  replace HQ := hide ((unhide HQ).step hb)
  replace HG := hide ((unhide HG).below hb)
  replace HE := hide ((unhide HE).step hb)
  clear hb
  clear HE
  go_wp2_with fail
  refine (unhide HTC _ (unhide HW)).mono ?_
  rintro e v10 ⟨gHF, rfl, hgHF, ho, hb⟩
  replace HW := hide (Below.step (unhide HW) hb)
  replace HZ := hide (Below.step (unhide HZ) hb)
  replace HY := hide ((unhide HY).step hb)
  replace HQ := hide ((unhide HQ).step hb)
  replace HG := hide ((unhide HG).below hb)
  have HF := hide ho
  have huHF := ho.lt
  clear ho hb
  go_wp2_with fail
  refine (eqIntS_o _ _ C _ (OwnV.intsIn (unhide HQ) (Nat.le_refl _) (by unfold maxLen; omega)) (OwnV.intsIn (unhide HF) (Nat.le_refl _) (by unfold maxLen; omega))).mono ?_
  rintro e v11 ⟨rfl, hb⟩
  replace HW := hide (Below.step (unhide HW) hb)
  replace HZ := hide (Below.step (unhide HZ) hb)
  replace HY := hide ((unhide HY).step hb)
  replace HQ := hide ((unhide HQ).step hb)
  replace HG := hide ((unhide HG).below hb)
  replace HF := hide ((unhide HF).step hb)
  clear hb
  clear HF
  have hEb := endR_bd L (unhide HL) 1 L.length (Nat.le_refl _)
  rw [List.take_length] at hEb
  obtain ⟨ek, hek⟩ : ∃ z, z = endR L 1 := ⟨_, rfl⟩
  rw [← hek] at hEb
  have hek1 : ek ≤ 4611686018427387904 := by
    have : (L.length : Int) * 1048578 ≤ 1048576 * 1048578 := Int.mul_le_mul_of_nonneg_right (by omega) (by omega)
    omega
  have HEK := hide hek
  clear hek
  go_wp2_with fail
  refine (markRadioS_any _ _ GHY L 1 _ (unhide HY) hs (unhide HL) (by omega) (by omega)).mono ?_
  rintro e v12 ⟨rfl, hMk⟩
  rw [← unhide HEK]
  have hk := hMk.kept
  clear hMk
  replace HW := hide ((unhide HW).trans (hk.below (B := w.heap.size) (unhide HW).size (fun b e => by have := (unhide HU b e).1; omega)))
  replace HZ := hide ((unhide HZ).trans (hk.below (B := v3.heap.size) (unhide HZ).size (fun b e => (unhide HU b e).1)))
  replace HG := hide ((unhide HG).kept hk (fun b h1 _ h2 => by have := (unhide HU b h2).2; omega))
  replace HQ := hide ((unhide HQ).kept hk (unhide HAP))
  clear hk
  clear HY
  go_wp2_with fail
  refine (markInts_o gHQ C ek _ (unhide HQ) hCs (by omega) hek1).mono ?_
  rintro e v13 ⟨rfl, hk⟩
  replace HW := hide ((unhide HW).trans (hk.below (B := w.heap.size) (unhide HW).size (fun b e => by omega)))
  replace HZ := hide ((unhide HZ).trans (hk.below (B := v3.heap.size) (unhide HZ).size (fun b e => by omega)))
  replace HG := hide ((unhide HG).kept hk (fun b h1 _ h2 => by omega))
  clear hk
  clear HQ
  have hek0 : decide (ek + (C.length : Int) < 0) = false := by rw [decide_eq_false_iff_not]; omega
  go_wp2_with fail
  refine (eqRadioS_any _ _ S _ ((unhide HG).inn hSs (unhide HSL)) ((unhide HSP).below (unhide HZ))).mono ?_
  rintro e v14 ⟨rfl, hb⟩
  replace HW := hide (Below.step (unhide HW) hb)
  replace HZ := hide (Below.step (unhide HZ) hb)
  replace HG := hide ((unhide HG).below hb)
  clear hb
  obtain ⟨es, hes⟩ : ∃ z, z = endR S 1 := ⟨_, rfl⟩
  have hEs := endR_bd S (unhide HSL) 1 S.length (Nat.le_refl _)
  rw [List.take_length, ← hes] at hEs
  have hes0 : decide (es < 0) = false := by rw [decide_eq_false_iff_not]; omega
  have hees : (es != es) = false := by simp
  have HES := hide hes
  clear hes hek0
  go_wp2_with fail
  refine (markRs_v _ _ _ S _ (unhide HG) hSs (unhide HSL)).mono ?_
  rintro e v15 ⟨rfl, hk, hG⟩
  rw [← unhide HES]
  replace HW := hide ((unhide HW).trans (hk.below (B := w.heap.size) (unhide HW).size (fun b e => by omega)))
  replace HZ := hide ((unhide HZ).trans (hk.below (B := v3.heap.size) (unhide HZ).size (fun b e => by omega)))
  replace HG := hide hG
  have HML : Hid (∀ i, i < (mkR S 1).length → ((mkR S 1).getD i default).2.2.length ≤ 1048576) := fun i hi => by rw [mkR_len] at hi; rw [mkR_he S 1 i hi]; exact unhide HSL i hi
  clear hk hG
  go_wp2_with fail
  refine (heldRs_v _ S _ ((unhide HG).inn (by rw [mkR_len]; exact hSs) (unhide HML)) hSs (unhide HSL)).mono ?_
  rintro e v16 ⟨rfl, hb⟩
  rw [← unhide HES]
  replace HW := hide (Below.step (unhide HW) hb)
  replace HZ := hide (Below.step (unhide HZ) hb)
  replace HG := hide ((unhide HG).below hb)
  clear hb
  go_wp2_with fail
  refine (unhide HT _ (unhide HW)).mono ?_
  rintro e v17 ⟨gHE, GHE, rfl, hgHE, ho, hb⟩
  replace HW := hide (Below.step (unhide HW) hb)
  replace HZ := hide (Below.step (unhide HZ) hb)
  replace HG := hide ((unhide HG).below hb)
  have HE := hide ho
  have huHE := ho.1.lt
  clear ho hb
  go_wp2_with fail
  refine (unhide HTC _ (unhide HW)).mono ?_
  rintro e v18 ⟨gHF, rfl, hgHF, ho, hb⟩
  replace HW := hide (Below.step (unhide HW) hb)
  replace HZ := hide (Below.step (unhide HZ) hb)
  replace HG := hide ((unhide HG).below hb)
  replace HE := hide ((unhide HE).step hb)
  have HF := hide ho
  have huHF := ho.lt
  clear ho hb
  go_wp2_with fail
  refine (unhide HI _ _ _ ((unhide HE).inn hs (unhide HL)) (OwnV.intsIn (unhide HF) (Nat.le_refl _) (by unfold maxLen; omega))).mono ?_
  rintro e v19 ⟨ra3, rn3, rc3, rfl, ho, hb⟩
  replace HW := hide (Below.step (unhide HW) hb)
  replace HZ := hide (Below.step (unhide HZ) hb)
  replace HG := hide ((unhide HG).below hb)
  replace HE := hide ((unhide HE).step hb)
  replace HF := hide ((unhide HF).step hb)
  have HH := hide ho.upto
  clear ho hb
  clear HE
  clear HF
  go_wp2_with fail
  refine (eqRadioS_any _ _ S _ ((unhide HH).inn hSs (unhide HSL)) ((unhide HSP).below (unhide HZ))).mono ?_
  rintro e v20 ⟨rfl, hb⟩
  replace HW := hide (Below.step (unhide HW) hb)
  replace HZ := hide (Below.step (unhide HZ) hb)
  replace HG := hide ((unhide HG).below hb)
  replace HH := hide ((unhide HH).below hb)
  clear hb
  go_wp2_with fail
  refine (heldRs_v _ S _ ((unhide HG).inn (by rw [mkR_len]; exact hSs) (unhide HML)) hSs (unhide HSL)).mono ?_
  rintro e v21 ⟨rfl, hb⟩
  rw [← unhide HES]
  replace HW := hide (Below.step (unhide HW) hb)
  replace HZ := hide (Below.step (unhide HZ) hb)
  replace HG := hide ((unhide HG).below hb)
  replace HH := hide ((unhide HH).below hb)
  clear hb
  go_wp2
  go_ret
  exact ⟨rfl, unhide HW⟩

end Go.Proofs.Ytkjikjeecjendaa

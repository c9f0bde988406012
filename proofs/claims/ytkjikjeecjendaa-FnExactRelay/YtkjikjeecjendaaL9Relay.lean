/- The law of Relay, walked. Written by wip/mk9.py. -/
import Derived.Test.YtkjikjeecjendaaRdU
import Derived.Test.YtkjikjeecjendaaRdW
import Derived.Test.YtkjikjeecjendaaRgI
namespace Go.Proofs.Ytkjikjeecjendaa
open Go.RowKit

set_option maxRecDepth 10000 in
set_option maxHeartbeats 3200000 in
theorem lawRelay_any (pv : Value) (L : List Rad) (cf : Int) (w : World) (h : RadsIn w pv L) : Calls Try.prog 12 #[pv, .int .i64 cf] w fun e w' => e = .returned (.bool true) ∧ Below w.heap.size w w' := by
  have HV := hide h
  obtain ⟨ao, cap, rfl, hlc, hm, hc⟩ := h
  unfold maxLen at hm
  clear hc
  have HW := hide (Below.refl w.heap.size w)
  obtain ⟨M, eM⟩ : ∃ V, V = relayV L cf := ⟨_, rfl⟩
  have hMl : M.length ≤ 1048576 := by have := relayV_len L cf; rw [eM]; omega
  have EM := hide eM
  clear eM
  obtain ⟨B, eB⟩ : ∃ V, V = relayB L cf := ⟨_, rfl⟩
  have EB := hide eB
  clear eB
  have hbb : (B != B) = false := by cases B <;> rfl
  go_enter Try.func12, Try.ntmps12
  go_wp2_with fail
  refine (szRadioS_any _ L 1048576 _ (unhide HV) (by omega) (by omega)).mono ?_
  rintro e w1 ⟨r, rfl, ⟨hr0, hr1, hr2⟩, hb⟩
  replace HW := hide (Below.step (unhide HW) hb)
  have HR := hide hr2
  clear hb hr2
  by_cases hr : r < 0
  · go_wp2
    go_ret
    exact ⟨rfl, unhide HW⟩
  obtain ⟨hs, hl⟩ := unhide HR (by omega)
  have HL := hide hl
  clear hl HR
  have HT := hide fun W (hW : Below w.heap.size w W) => toRadioS_any _ L W ((unhide HV).below hW) hs (unhide HL)
  go_wp2_with fail
  refine (unhide HT _ (unhide HW)).mono ?_
  rintro e v1 ⟨gHX, GHX, rfl, hgHX, ho, hb⟩
  replace HW := hide (Below.step (unhide HW) hb)
  have HX := hide ho
  have huHX := ho.1.lt
  clear ho hb
  have HS := hide fun W v (hv : RadsIn W v L) => specRelay_any v L cf W hv
  have HI := hide fun W v (hv : RadsIn W v L) => implRelay_any v L cf W hv
  rw [← unhide EM, ← unhide EB] at HS HI
  go_wp2_with fail
  refine (unhide HS _ _ ((unhide HX).inn hs (unhide HL))).mono ?_
  rintro e v2 ⟨ras, rns, rcs, rfl, ho, hb⟩
  replace HW := hide (Below.step (unhide HW) hb)
  replace HX := hide ((unhide HX).step hb)
  have HSP := hide ho.intsIn
  clear ho hb HS
  clear HX
  have HZ := hide (Below.refl v2.heap.size v2)
  have hsz1 := (unhide HW).size
  go_wp2_with fail
  refine (unhide HT _ (unhide HW)).mono ?_
  rintro e v3 ⟨gHY, GHY, rfl, hgHY, ho, hb⟩
  replace HW := hide (Below.step (unhide HW) hb)
  replace HZ := hide (Below.step (unhide HZ) hb)
  have HY := hide ho
  have huHY := ho.1.lt
  clear ho hb
  have hsz2 := (unhide HZ).size
  have HU : Hid (∀ b, RdBl gHY GHY L.length b → v2.heap.size ≤ b ∧ b < v3.heap.size) := fun b hb => by
    rcases hb with rfl | ⟨r, hr, rfl⟩
    · exact ⟨by omega, huHY⟩
    · have h1 := ((unhide HY).2.1 r hr).1
      exact ⟨by omega, ((unhide HY).2.1 r hr).2.lt⟩
  go_wp2_with fail
  refine (unhide HI _ _ ((unhide HY).inn hs (unhide HL))).mono ?_
  rintro e v4 ⟨rag, rng, rcg, rfl, ho, hb⟩
  replace HW := hide (Below.step (unhide HW) hb)
  replace HZ := hide (Below.step (unhide HZ) hb)
  replace HY := hide ((unhide HY).step hb)
  have HG := hide ho.upto
  clear ho hb
  go_wp2_with fail
  refine (eqIntS_o _ _ M _ (unhide HG).inn ((unhide HSP).below (unhide HZ))).mono ?_
  rintro e v5 ⟨rfl, hb⟩
  replace HW := hide (Below.step (unhide HW) hb)
  replace HZ := hide (Below.step (unhide HZ) hb)
  replace HY := hide ((unhide HY).step hb)
  replace HG := hide ((unhide HG).below hb)
  clear hb
  go_wp2_with fail
  refine (unhide HT _ (unhide HW)).mono ?_
  rintro e v6 ⟨gHE, GHE, rfl, hgHE, ho, hb⟩
  replace HW := hide (Below.step (unhide HW) hb)
  replace HZ := hide (Below.step (unhide HZ) hb)
  replace HY := hide ((unhide HY).step hb)
  replace HG := hide ((unhide HG).below hb)
  have HE := hide ho
  have huHE := ho.1.lt
  clear ho hb
  go_wp2_with fail
  refine (eqRadioS_any _ _ L _ ((unhide HY).inn hs (unhide HL)) ((unhide HE).inn hs (unhide HL))).mono ?_
  rintro e v7 ⟨rfl, hb⟩
  replace HW := hide (Below.step (unhide HW) hb)
  replace HZ := hide (Below.step (unhide HZ) hb)
  replace HY := hide ((unhide HY).step hb)
  replace HG := hide ((unhide HG).below hb)
  replace HE := hide ((unhide HE).step hb)
  clear hb
  clear HE
  have hEb := endR_bd L (unhide HL) 1 L.length (Nat.le_refl _)
  rw [List.take_length] at hEb
  obtain ⟨ek, hek⟩ : ∃ z, z = endR L 1 := ⟨_, rfl⟩
  rw [← hek] at hEb
  have hek0 : decide (ek < 0) = false := by rw [decide_eq_false_iff_not]; omega
  have HEK := hide hek
  clear hek
  go_wp2_with fail
  refine (markRadioS_any _ _ GHY L 1 _ (unhide HY) hs (unhide HL) (by omega) (by omega)).mono ?_
  rintro e v8 ⟨rfl, hMk⟩
  rw [← unhide HEK]
  have hk := hMk.kept
  clear hMk
  replace HW := hide ((unhide HW).trans (hk.below (B := w.heap.size) (unhide HW).size (fun b e => by have := (unhide HU b e).1; omega)))
  replace HZ := hide ((unhide HZ).trans (hk.below (B := v2.heap.size) (unhide HZ).size (fun b e => (unhide HU b e).1)))
  replace HG := hide ((unhide HG).kept hk (fun b h1 _ h2 => by have := (unhide HU b h2).2; omega))
  clear hk
  clear HY
  go_wp2_with fail
  refine (eqIntS_o _ _ M _ (unhide HG).inn ((unhide HSP).below (unhide HZ))).mono ?_
  rintro e v9 ⟨rfl, hb⟩
  replace HW := hide (Below.step (unhide HW) hb)
  replace HZ := hide (Below.step (unhide HZ) hb)
  replace HG := hide ((unhide HG).below hb)
  clear hb
  go_wp2_with fail
  refine (markInts_v _ _ _ _ _ M _ (unhide HG) hMl).mono ?_
  rintro e v10 ⟨rfl, hk, hG⟩
  replace HW := hide ((unhide HW).trans (hk.below (B := w.heap.size) (unhide HW).size (fun b e => by omega)))
  replace HZ := hide ((unhide HZ).trans (hk.below (B := v2.heap.size) (unhide HZ).size (fun b e => by omega)))
  replace HG := hide hG
  clear hk hG
  go_wp2_with fail
  refine (heldInts_v _ M _ (unhide HG).inn hMl).mono ?_
  rintro e v11 ⟨rfl, hb⟩
  replace HW := hide (Below.step (unhide HW) hb)
  replace HZ := hide (Below.step (unhide HZ) hb)
  replace HG := hide ((unhide HG).below hb)
  clear hb
  go_wp2_with fail
  refine (unhide HT _ (unhide HW)).mono ?_
  rintro e v12 ⟨gHE, GHE, rfl, hgHE, ho, hb⟩
  replace HW := hide (Below.step (unhide HW) hb)
  replace HZ := hide (Below.step (unhide HZ) hb)
  replace HG := hide ((unhide HG).below hb)
  have HE := hide ho
  have huHE := ho.1.lt
  clear ho hb
  go_wp2_with fail
  refine (unhide HI _ _ ((unhide HE).inn hs (unhide HL))).mono ?_
  rintro e v13 ⟨rah, rnh, rch, rfl, ho, hb⟩
  replace HW := hide (Below.step (unhide HW) hb)
  replace HZ := hide (Below.step (unhide HZ) hb)
  replace HG := hide ((unhide HG).below hb)
  replace HE := hide ((unhide HE).step hb)
  have HH := hide ho.intsIn
  clear ho hb
  clear HE
  go_wp2_with fail
  refine (eqIntS_o _ _ M _ (unhide HH) ((unhide HSP).below (unhide HZ))).mono ?_
  rintro e v14 ⟨rfl, hb⟩
  replace HW := hide (Below.step (unhide HW) hb)
  replace HZ := hide (Below.step (unhide HZ) hb)
  replace HG := hide ((unhide HG).below hb)
  replace HH := hide ((unhide HH).below hb)
  clear hb
  go_wp2_with fail
  refine (heldInts_v _ M _ (unhide HG).inn hMl).mono ?_
  rintro e v15 ⟨rfl, hb⟩
  replace HW := hide (Below.step (unhide HW) hb)
  replace HZ := hide (Below.step (unhide HZ) hb)
  replace HG := hide ((unhide HG).below hb)
  replace HH := hide ((unhide HH).below hb)
  clear hb
  go_wp2
  go_ret
  exact ⟨rfl, unhide HW⟩

end Go.Proofs.Ytkjikjeecjendaa

/- The law of Choose, walked. Written by wip/mk9.py. -/
import Derived.Test.YtkjikjeecjendaaRdK
import Derived.Test.YtkjikjeecjendaaRgI
namespace Go.Proofs.Ytkjikjeecjendaa
open Go.RowKit

set_option maxRecDepth 10000 in
set_option maxHeartbeats 3200000 in
theorem lawChoose_any (pv : Value) (L : List Rad) (ca : Int) (cc : Int) (w : World) (h : RadsIn w pv L) : Calls Try.prog 10 #[pv, .int .i64 ca, .int .i64 cc] w fun e w' => e = .returned (.bool true) ∧ Below w.heap.size w w' := by
  have HV := hide h
  obtain ⟨ao, cap, rfl, hlc, hm, hc⟩ := h
  unfold maxLen at hm
  clear hc
  have HW := hide (Below.refl w.heap.size w)
  obtain ⟨CV, eV⟩ : ∃ V, V = chooseV L ca cc := ⟨_, rfl⟩
  obtain ⟨V, B⟩ := CV
  have EV := hide eV
  clear eV
  go_enter Try.func10, Try.ntmps10
  go_wp2_with fail
  refine (szRadioS_any _ L 1048576 _ (unhide HV) (by omega) (by omega)).mono ?_
  rintro e w1 ⟨r, rfl, ⟨hr0, hr1, hr2⟩, hb⟩
  replace HW := hide (Below.step (unhide HW) hb)
  have HR := hide hr2
  clear hb hr2
  by_cases hr : r < 0
  · go_wp2
    go_ret
    exact ⟨rfl, unhide HW⟩
  obtain ⟨hs, hl⟩ := unhide HR (by omega)
  have HL := hide hl
  clear hl HR
  have HT := hide fun W (hW : Below w.heap.size w W) => toRadioS_any _ L W ((unhide HV).below hW) hs (unhide HL)
  go_wp2_with fail
  refine (unhide HT _ (unhide HW)).mono ?_
  rintro e v1 ⟨gHX, GHX, rfl, hgHX, ho, hb⟩
  replace HW := hide (Below.step (unhide HW) hb)
  have HX := hide ho
  have huHX := ho.1.lt
  clear ho hb
  have HS := hide fun W v (hv : RadsIn W v L) => specChoose_any v L ca cc W hv
  have HI := hide fun W v (hv : RadsIn W v L) => implChoose_any v L ca cc W hv
  rw [← unhide EV] at HS HI
  have hvv : (V != V) = false := by simp
  have hbb : (B != B) = false := by cases B <;> rfl
  go_wp2_with fail
  refine (unhide HS _ _ ((unhide HX).inn hs (unhide HL))).mono ?_
  rintro e v2 ⟨rfl, hb⟩
  replace HW := hide (Below.step (unhide HW) hb)
  replace HX := hide ((unhide HX).step hb)
  clear hb
  clear HX
  go_wp2_with fail
  refine (unhide HT _ (unhide HW)).mono ?_
  rintro e v3 ⟨gHY, GHY, rfl, hgHY, ho, hb⟩
  replace HW := hide (Below.step (unhide HW) hb)
  have HY := hide ho
  have huHY := ho.1.lt
  clear ho hb
  go_wp2_with fail
  refine (unhide HI _ _ ((unhide HY).inn hs (unhide HL))).mono ?_
  rintro e v4 ⟨rfl, hb⟩
  replace HW := hide (Below.step (unhide HW) hb)
  replace HY := hide ((unhide HY).step hb)
  clear hb
  go_wp2_with fail
  refine (unhide HT _ (unhide HW)).mono ?_
  rintro e v5 ⟨gHZ, GHZ, rfl, hgHZ, ho, hb⟩
  replace HW := hide (Below.step (unhide HW) hb)
  replace HY := hide ((unhide HY).step hb)
  have HZ := hide ho
  have huHZ := ho.1.lt
  clear ho hb
  go_wp2_with fail
  refine (eqRadioS_any _ _ L _ ((unhide HY).inn hs (unhide HL)) ((unhide HZ).inn hs (unhide HL))).mono ?_
  rintro e v6 ⟨rfl, hb⟩
  replace HW := hide (Below.step (unhide HW) hb)
  replace HY := hide ((unhide HY).step hb)
  replace HZ := hide ((unhide HZ).step hb)
  clear hb
  go_wp2
  go_ret
  exact ⟨rfl, unhide HW⟩

end Go.Proofs.Ytkjikjeecjendaa

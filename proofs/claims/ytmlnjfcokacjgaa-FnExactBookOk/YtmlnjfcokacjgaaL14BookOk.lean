/- The law of BookOk, walked. Written by wip/mk14.py. -/
import Derived.Test.YtmlnjfcokacjgaaBlG
import Derived.Test.YtmlnjfcokacjgaaBlA
import Derived.Deep.RegionHeld3
namespace Go.Proofs.Ytmlnjfcokacjgaa
open Go.RowKit

set_option maxRecDepth 10000 in
set_option maxHeartbeats 6400000 in
theorem lawBookOk_any (bv fv : Value) (b : BkT) (w : World) (h : BkIn w bv fv b) (ht : ∀ x ∈ b.1, TxB x) :
    Calls Try.prog 4 #[vBook bv fv] w fun e w' => e = .returned (.bool true) ∧ Below w.heap.size w w' := by
  have hx := h
  obtain ⟨⟨ao, cap, rfl, -⟩, ⟨fo, fcap, rfl, -⟩⟩ := hx
  have HV := hide h
  have HT := hide ht
  have A := Below.alloc1 w (.cells #[.slice ao b.1.length cap, .slice fo b.2.length fcap] 47)
  have HA := hide (ownV_alloc w #[.slice ao b.1.length cap, .slice fo b.2.length fcap] 47)
  have HW := hide A
  clear A h ht
  have HS := hide fun V bv fv (hV : BkIn V bv fv b) => specBookOk_any bv fv b V hV (unhide HT)
  have HI := hide fun V bv fv (hV : BkIn V bv fv b) => implBookOk_any bv fv b V hV
  generalize bookB b = Z at *
  have hzz : (Z != Z) = false := by cases Z <;> rfl
  unfold vBook at HS HI
  have HSZ := hide fun V (hV : Below w.heap.size w V) l h0 h1 => szBook_any _ _ b l V ((unhide HV).below hV) (fun i hi => by rw [getD_lt hi]; exact unhide HT _ (List.getElem_mem _)) h0 h1
  have HTO := hide fun V (hV : Below w.heap.size w V) hbd => toBook_any _ _ b V ((unhide HV).below hV) hbd
  unfold vBook at HSZ HTO ⊢
  go_enter Try.func4, Try.ntmps4
  go_wp2_with fail
  refine (unhide HSZ _ (unhide HW) _ (by omega) (by omega)).mono ?_
  rintro e v0 ⟨r, rfl, hr0, hr1, hr2, hb⟩
  replace HW := hide (Below.step (unhide HW) hb)
  replace HA := hide ((unhide HA).step hb)
  have HR := hide hr2
  clear hb hr2 HSZ
  by_cases hr : r < 0
  · go_wp2
    go_ret
    exact ⟨rfl, unhide HW⟩
  have HBD := hide (unhide HR (by omega))
  clear HR
  have a0 := (unhide HA).cell (i := 0) rfl
  have a1 := (unhide HA).cell (i := 1) rfl
  go_wp2_with fail
  refine (unhide HTO _ (unhide HW) (unhide HBD)).mono ?_
  rintro e v1 ⟨bvHX, fvHX, EHX, rfl, eBHX, ho, hb⟩
  replace HW := hide (Below.step (unhide HW) hb)
  replace HA := hide ((unhide HA).step hb)
  have HX := hide ho
  have EBHX := hide eBHX
  obtain ⟨⟨baHX, bcHX, rfl, -⟩, ⟨faHX, fcHX, rfl, -⟩⟩ := ho
  clear hb eBHX a0 a1
  go_wp2_with fail
  refine (unhide HS _ _ _ (show BkIn _ _ _ b by have h9 := (unhide HX).inn; rw [unhide EBHX] at h9; exact h9)).mono ?_
  rintro e v2 ⟨rfl, hb⟩
  replace HW := hide (Below.step (unhide HW) hb)
  replace HA := hide ((unhide HA).step hb)
  replace HX := hide ((unhide HX).step hb)
  clear hb HS
  clear HX
  have a0 := (unhide HA).cell (i := 0) rfl
  have a1 := (unhide HA).cell (i := 1) rfl
  go_wp2_with fail
  refine (unhide HTO _ (unhide HW) (unhide HBD)).mono ?_
  rintro e v3 ⟨bvHY, fvHY, EHY, rfl, eBHY, ho, hb⟩
  replace HW := hide (Below.step (unhide HW) hb)
  replace HA := hide ((unhide HA).step hb)
  have HY := hide ho
  have EBHY := hide eBHY
  obtain ⟨⟨baHY, bcHY, rfl, -⟩, ⟨faHY, fcHY, rfl, -⟩⟩ := ho
  clear hb eBHY a0 a1
  have HB := hide (ownV_alloc v3 #[.slice baHY EHY.length bcHY, .slice faHY b.2.length fcHY] 27)
  have hb := Below.alloc1 v3 (.cells #[.slice baHY EHY.length bcHY, .slice faHY b.2.length fcHY] 27)
  replace HW := hide (Below.step (unhide HW) hb)
  replace HA := hide ((unhide HA).step hb)
  replace HY := hide ((unhide HY).step hb)
  clear hb
  have x0 := (unhide HB).cell (i := 0) rfl
  have x1 := (unhide HB).cell (i := 1) rfl
  go_wp2_with fail
  refine (unhide HI _ _ _ (show BkIn _ _ _ b by have h9 := (unhide HY).inn; rw [unhide EBHY] at h9; exact h9)).mono ?_
  rintro e v4 ⟨rfl, hb⟩
  replace HW := hide (Below.step (unhide HW) hb)
  replace HA := hide ((unhide HA).step hb)
  replace HY := hide ((unhide HY).step hb)
  replace HB := hide ((unhide HB).step hb)
  clear hb HI x0 x1
  have HEQ := hide fun V a1 n1 c1 f1 m1 d1 (h1 : BkIn V (.slice a1 n1 c1) (.slice f1 m1 d1) b) (h2 : BkIn V (.slice baHY EHY.length bcHY) (.slice faHY b.2.length fcHY) b) => eqBook_any _ _ _ _ b V h2 h1
  unfold vBook at HEQ
  obtain ⟨ga, hga⟩ : ∃ z, z = w.heap.size := ⟨_, rfl⟩
  have a0 := (unhide HA).cell (i := 0) rfl
  have a1 := (unhide HA).cell (i := 1) rfl
  have x0 := (unhide HB).cell (i := 0) rfl
  have x1 := (unhide HB).cell (i := 1) rfl
  go_wp2_with fail
  go_region_held3 (fun w' => w'.cell? ⟨w.heap.size, 0, none⟩ = some (Value.slice ao b.1.length cap) ∧ w'.cell? ⟨w.heap.size, 1, none⟩ = some (Value.slice fo b.2.length fcap) ∧ w'.cell? ⟨v3.heap.size, 0, none⟩ = some (Value.slice baHY EHY.length bcHY) ∧ w'.cell? ⟨v3.heap.size, 1, none⟩ = some (Value.slice faHY b.2.length fcHY)) (go_keep) (first
    | (go_at_call 19; refine (unhide HTO _ (by first | exact unhide HW | exact (unhide HW).drew) (unhide HBD)).mono ?_; rintro e w8 ⟨bvq, fvq, EQ, rfl, eBQ, ho, hb⟩; (first | (have HAz := hide ((unhide HA).step hb)) | (have HAz := hide ((unhide HA).step (Below.step (Below.refl _ _).drew hb)))); replace HA := HAz; clear HAz; (first | (have HYz := hide ((unhide HY).step hb)) | (have HYz := hide ((unhide HY).step (Below.step (Below.refl _ _).drew hb)))); replace HY := HYz; clear HYz; (first | (have HBz := hide ((unhide HB).step hb)) | (have HBz := hide ((unhide HB).step (Below.step (Below.refl _ _).drew hb)))); replace HB := HBz; clear HBz; (first | (have HWz := hide (Below.step (unhide HW) hb)) | (have HWz := hide (Below.step (unhide HW).drew hb))); replace HW := HWz; clear HWz; have k0 := (unhide HA).cell (i := 0) rfl; have k1 := (unhide HA).cell (i := 1) rfl; have m0 := (unhide HB).cell (i := 0) rfl; have m1 := (unhide HB).cell (i := 1) rfl; have HQ := hide ho; have EBQ := hide eBQ; obtain ⟨⟨baq, bcq, rfl, -⟩, ⟨faq, fcq, rfl, -⟩⟩ := ho; have HE1 := hide (unhide HEQ w8 _ _ _ _ _ _ (show BkIn _ _ _ b by have h9 := (unhide HQ).inn; rw [unhide EBQ] at h9; exact h9) (show BkIn _ _ _ b by have h9 := (unhide HY).inn; rw [unhide EBHY] at h9; exact h9)); clear hb eBQ)
    | (go_at_call 20; refine (unhide HE1).mono ?_; rintro e w9 ⟨rfl, hb⟩; (first | (have HAz := hide ((unhide HA).step hb)) | (have HAz := hide ((unhide HA).step (Below.step (Below.refl _ _).drew hb)))); replace HA := HAz; clear HAz; (first | (have HYz := hide ((unhide HY).step hb)) | (have HYz := hide ((unhide HY).step (Below.step (Below.refl _ _).drew hb)))); replace HY := HYz; clear HYz; (first | (have HBz := hide ((unhide HB).step hb)) | (have HBz := hide ((unhide HB).step (Below.step (Below.refl _ _).drew hb)))); replace HB := HBz; clear HBz; (first | (have HWz := hide (Below.step (unhide HW) hb)) | (have HWz := hide (Below.step (unhide HW).drew hb))); replace HW := HWz; clear HWz; have k0 := (unhide HA).cell (i := 0) rfl; have k1 := (unhide HA).cell (i := 1) rfl; have m0 := (unhide HB).cell (i := 0) rfl; have m1 := (unhide HB).cell (i := 1) rfl; clear hb))
  go_wp2
  go_ret
  all_goals exact ⟨rfl, unhide HW⟩

end Go.Proofs.Ytmlnjfcokacjgaa

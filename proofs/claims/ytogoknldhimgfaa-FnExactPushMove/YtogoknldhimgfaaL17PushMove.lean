/- FnExactPushMove: at every argument the program's PushMove answers as the specification's, in memory of its own; the arguments read as before. Written by wip/mkl17.py. -/
import Derived.Test.YtogoknldhimgfaaCrG
import Derived.Deep.RegionHeld3
namespace Go.Proofs.Ytogoknldhimgfaa
open Go.RowKit

set_option maxRecDepth 10000 in
set_option maxHeartbeats 8000000 in
theorem lawPushMove_any (pv0 : Value) (L0 : List CraneT) (gap xa xb : Int) (w : World) (h0 : RCrane w pv0 L0) : Calls Try.prog 12 #[pv0, .int .i64 gap, vMove xa xb] w fun e w' => e = .returned (.bool true) ∧ Below w.heap.size w w' := by
  have HV0 := hide h0
  obtain ⟨ao, cap, rfl, hl0, hm0, hc0⟩ := h0
  unfold maxLen at hm0
  clear hc0
  have HW := hide (Below.alloc1 w (.cells #[.int .i64 xa, .int .i64 xb] 63))
  have HB := hide (ownV_alloc w #[.int .i64 xa, .int .i64 xb] 63)
  unfold vMove
  go_enter Try.func12, Try.ntmps12
  go_wp2_with fail
  refine (szCraneS_any _ L0 1048576 _ ((unhide HV0).below (unhide HW)) (by omega) (by omega)).mono ?_
  rintro e v0 ⟨l0, rfl, hs, hb⟩
  replace HW := hide (Below.step (unhide HW) hb)
  replace HB := hide ((unhide HB).step hb)
  clear hb
  obtain ⟨hp0, hq0, hs⟩ := hs
  have HS0 := hide hs
  clear hs
  by_cases hneg0 : l0 < 0
  · clear HS0
    go_wp2
    go_ret
    exact ⟨rfl, unhide HW⟩
  have hsn0 := unhide HS0 (by omega)
  clear HS0
  have HSC := hide fun W v (hv : RCrane W v L0) => specPushMove_any v L0 gap xa xb W hv hsn0
  have HIC := hide fun W v (hv : RCrane W v L0) => implPushMove_any v L0 gap xa xb W hv hsn0
  unfold PsAns at HSC HIC
  have hMl : ((psV L0 gap xa xb).1).length ≤ 1048576 := by rw [psV_len]; exact hsn0
  generalize (psV L0 gap xa xb).1 = M at *
  generalize (psV L0 gap xa xb).2 = C at *
  have hCC : (C != C) = false := by cases C <;> rfl
  unfold vMove at HSC HIC
  have c0 := (unhide HB).cell (i := 0) rfl
  have c1 := (unhide HB).cell (i := 1) rfl
  go_wp2
  clear c0 c1
  have hd : Below (v0).heap.size (v0) (v0).drew := (Below.refl _ _).drew
  replace HW := hide (Below.step (unhide HW) hd)
  replace HB := hide ((unhide HB).step hd)
  clear hd
  have k0 := (unhide HB).cell (i := 0) rfl
  have k1 := (unhide HB).cell (i := 1) rfl
  go_region_held3 (fun w' => w'.cell? ⟨w.heap.size, 0, none⟩ = some (.int .i64 xa) ∧ w'.cell? ⟨w.heap.size, 1, none⟩ = some (.int .i64 xb)) (go_keep) (first
    | (go_at_call 38; refine (toCraneS_any _ L0 _ ((unhide HV0).below (unhide HW)) hsn0).mono ?_; rintro e v1 ⟨gHS, rfl, hgHS, ho, hb⟩; replace HW := hide (Below.step (unhide HW) hb); replace HB := hide ((unhide HB).step hb); have HS := hide ho; clear ho hb hgHS; have k0 := (unhide HB).cell (i := 0) rfl; have k1 := (unhide HB).cell (i := 1) rfl)
    | (go_at_call 41; refine (toMove_any xa xb _).mono ?_; rintro e v2 ⟨rfl, hb⟩; replace HW := hide (Below.step (unhide HW) hb); replace HB := hide ((unhide HB).step hb); replace HS := hide ((unhide HS).step hb); clear hb; have k0 := (unhide HB).cell (i := 0) rfl; have k1 := (unhide HB).cell (i := 1) rfl)
    | (go_at_call 44; refine (unhide HSC _ _ (OwnV.recsIn (unhide HS) (Nat.le_refl _) (by unfold maxLen; omega))).mono ?_; rintro e v3 ⟨ras, rns, rcs, rfl, hr, hb⟩; clear HS; replace HW := hide (Below.step (unhide HW) hb); replace HB := hide ((unhide HB).step hb); have HSP := hide hr.intsIn; clear hr hb; have k0 := (unhide HB).cell (i := 0) rfl; have k1 := (unhide HB).cell (i := 1) rfl))
  clear k0 k1
  have HZ := hide (Below.refl v3.heap.size v3)
  have hsz1 := (unhide HW).size
  have hsz0 : w.heap.size < v3.heap.size := (unhide HB).lt
  go_wp2_with fail
  refine (toCraneS_any _ L0 _ ((unhide HV0).below (unhide HW)) hsn0).mono ?_
  rintro e v4 ⟨gHY, rfl, hgHY, ho, hb⟩
  replace HW := hide (Below.step (unhide HW) hb)
  replace HB := hide ((unhide HB).step hb)
  replace HZ := hide (Below.step (unhide HZ) hb)
  have HY := hide ho
  have huHY := ho.lt
  clear ho hb
  have hsz2 := (unhide HZ).size
  have hszy := (unhide HZ).size
  have c0 := (unhide HB).cell (i := 0) rfl
  have c1 := (unhide HB).cell (i := 1) rfl
  go_wp2_with fail
  refine (toMove_any xa xb _).mono ?_
  rintro e v5 ⟨rfl, hb⟩
  clear c0 c1
  replace HW := hide (Below.step (unhide HW) hb)
  replace HB := hide ((unhide HB).step hb)
  replace HZ := hide (Below.step (unhide HZ) hb)
  replace HY := hide ((unhide HY).step hb)
  have zp := hb.size
  clear hb
  unfold vMove
  go_wp2_with fail
  refine (unhide HIC _ _ (OwnV.recsIn (unhide HY) (Nat.le_refl _) (by unfold maxLen; omega))).mono ?_
  rintro e v6 ⟨rag, rng, rcg, rfl, hr, hb⟩
  replace HW := hide (Below.step (unhide HW) hb)
  replace HB := hide ((unhide HB).step hb)
  replace HZ := hide (Below.step (unhide HZ) hb)
  replace HY := hide ((unhide HY).step hb)
  have HG := hide hr.upto
  clear hr hb
  go_wp2_with fail
  refine (eqCraneS_any _ _ M _ (unhide HG).inn ((unhide HSP).below (unhide HZ))).mono ?_
  rintro e v7 ⟨rfl, hb⟩
  replace HW := hide (Below.step (unhide HW) hb)
  replace HB := hide ((unhide HB).step hb)
  replace HZ := hide (Below.step (unhide HZ) hb)
  replace HY := hide ((unhide HY).step hb)
  replace HG := hide ((unhide HG).below hb)
  clear hb
  go_wp2_with fail
  refine (toCraneS_any _ L0 _ ((unhide HV0).below (unhide HW)) hsn0).mono ?_
  rintro e v8 ⟨gHE, rfl, hgHE, ho, hb⟩
  replace HW := hide (Below.step (unhide HW) hb)
  replace HB := hide ((unhide HB).step hb)
  replace HZ := hide (Below.step (unhide HZ) hb)
  replace HY := hide ((unhide HY).step hb)
  replace HG := hide ((unhide HG).below hb)
  have HE := hide ho
  have huHE := ho.lt
  clear ho hb
  go_wp2_with fail
  refine (eqCraneS_any _ _ L0 _ (OwnV.recsIn (unhide HY) (Nat.le_refl _) (by unfold maxLen; omega)) (OwnV.recsIn (unhide HE) (Nat.le_refl _) (by unfold maxLen; omega))).mono ?_
  rintro e v9 ⟨rfl, hb⟩
  replace HW := hide (Below.step (unhide HW) hb)
  replace HB := hide ((unhide HB).step hb)
  replace HZ := hide (Below.step (unhide HZ) hb)
  replace HY := hide ((unhide HY).step hb)
  replace HG := hide ((unhide HG).below hb)
  replace HE := hide ((unhide HE).step hb)
  clear hb
  clear HE
  go_wp2_with fail
  refine (markCraneS_any gHY L0.length L0.length _ 1 _ (unhide HY) (by rw [recCells_length]; omega) hsn0 (by omega) (by omega)).mono ?_
  rintro e v10 ⟨rfl, hk, hG⟩
  clear hG
  replace HW := hide ((unhide HW).trans (hk.below (B := w.heap.size) (unhide HW).size (fun b e => by omega)))
  replace HZ := hide ((unhide HZ).trans (hk.below (B := v3.heap.size) (unhide HZ).size (fun b e => by omega)))
  replace HB := hide ((unhide HB).kept hk (fun e => by have := hsz0; omega))
  replace HG := hide ((unhide HG).kept hk (fun b h1 _ h2 => by omega))
  clear hk
  clear HY
  have hk0 : decide ((1 : Int) + 3 * (L0.length : Int) < 0) = false := by rw [decide_eq_false_iff_not]; omega
  go_wp2_with fail
  refine (eqCraneS_any _ _ M _ (unhide HG).inn ((unhide HSP).below (unhide HZ))).mono ?_
  rintro e v11 ⟨rfl, hb⟩
  replace HW := hide (Below.step (unhide HW) hb)
  replace HB := hide ((unhide HB).step hb)
  replace HZ := hide (Below.step (unhide HZ) hb)
  replace HG := hide ((unhide HG).below hb)
  clear hb
  go_wp2_with fail
  refine (markCraneS_v _ _ _ _ _ M _ (unhide HG) hMl).mono ?_
  rintro e v12 ⟨rfl, hk, hG⟩
  replace HW := hide ((unhide HW).trans (hk.below (B := w.heap.size) (unhide HW).size (fun b e => by omega)))
  replace HZ := hide ((unhide HZ).trans (hk.below (B := v3.heap.size) (unhide HZ).size (fun b e => by omega)))
  replace HB := hide ((unhide HB).kept hk (fun e => by have := hsz0; omega))
  replace HG := hide hG
  clear hk hG hk0
  go_wp2_with fail
  refine (heldCraneS_v _ _ _ _ _ M _ (unhide HG) hMl).mono ?_
  rintro e v13 ⟨rfl, hb⟩
  replace HW := hide (Below.step (unhide HW) hb)
  replace HB := hide ((unhide HB).step hb)
  replace HZ := hide (Below.step (unhide HZ) hb)
  replace HG := hide ((unhide HG).below hb)
  clear hb
  have c0 := (unhide HB).cell (i := 0) rfl
  have c1 := (unhide HB).cell (i := 1) rfl
  go_wp2
  clear c0 c1
  have hd : Below (v13).heap.size (v13) (v13).drew := (Below.refl _ _).drew
  replace HW := hide (Below.step (unhide HW) hd)
  replace HB := hide ((unhide HB).step hd)
  replace HZ := hide (Below.step (unhide HZ) hd)
  replace HG := hide ((unhide HG).below hd)
  clear hd
  have k0 := (unhide HB).cell (i := 0) rfl
  have k1 := (unhide HB).cell (i := 1) rfl
  go_region_held3 (fun w' => w'.cell? ⟨w.heap.size, 0, none⟩ = some (.int .i64 xa) ∧ w'.cell? ⟨w.heap.size, 1, none⟩ = some (.int .i64 xb)) (go_keep) (first
    | (go_at_call 38; refine (toCraneS_any _ L0 _ ((unhide HV0).below (unhide HW)) hsn0).mono ?_; rintro e v14 ⟨gHT, rfl, hgHT, ho, hb⟩; replace HW := hide (Below.step (unhide HW) hb); replace HB := hide ((unhide HB).step hb); replace HZ := hide (Below.step (unhide HZ) hb); replace HG := hide ((unhide HG).below hb); have HT := hide ho; clear ho hb hgHT; have k0 := (unhide HB).cell (i := 0) rfl; have k1 := (unhide HB).cell (i := 1) rfl)
    | (go_at_call 41; refine (toMove_any xa xb _).mono ?_; rintro e v15 ⟨rfl, hb⟩; replace HW := hide (Below.step (unhide HW) hb); replace HB := hide ((unhide HB).step hb); replace HZ := hide (Below.step (unhide HZ) hb); replace HG := hide ((unhide HG).below hb); replace HT := hide ((unhide HT).step hb); clear hb; have k0 := (unhide HB).cell (i := 0) rfl; have k1 := (unhide HB).cell (i := 1) rfl)
    | (go_at_call 24; refine (unhide HIC _ _ (OwnV.recsIn (unhide HT) (Nat.le_refl _) (by unfold maxLen; omega))).mono ?_; rintro e v16 ⟨rah, rnh, rch, rfl, hr, hb⟩; clear HT; replace HW := hide (Below.step (unhide HW) hb); replace HB := hide ((unhide HB).step hb); replace HZ := hide (Below.step (unhide HZ) hb); replace HG := hide ((unhide HG).below hb); have HH := hide hr.intsIn; clear hr hb; have k0 := (unhide HB).cell (i := 0) rfl; have k1 := (unhide HB).cell (i := 1) rfl))
  clear k0 k1
  go_wp2_with fail
  refine (eqCraneS_any _ _ M _ (unhide HH) ((unhide HSP).below (unhide HZ))).mono ?_
  rintro e v17 ⟨rfl, hb⟩
  replace HW := hide (Below.step (unhide HW) hb)
  replace HB := hide ((unhide HB).step hb)
  replace HZ := hide (Below.step (unhide HZ) hb)
  replace HG := hide ((unhide HG).below hb)
  replace HH := hide ((unhide HH).below hb)
  clear hb
  go_wp2_with fail
  refine (heldCraneS_v _ _ _ _ _ M _ (unhide HG) hMl).mono ?_
  rintro e v18 ⟨rfl, hb⟩
  replace HW := hide (Below.step (unhide HW) hb)
  replace HB := hide ((unhide HB).step hb)
  replace HZ := hide (Below.step (unhide HZ) hb)
  replace HG := hide ((unhide HG).below hb)
  replace HH := hide ((unhide HH).below hb)
  clear hb
  go_wp2
  go_ret
  exact ⟨rfl, unhide HW⟩

end Go.Proofs.Ytogoknldhimgfaa

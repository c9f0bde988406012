/- The law of RunSignals, walked. Written by wip/mk20.py. -/
import Derived.Test.YtgmhijbepkobkaaHoH
namespace Go.Proofs.Ytgmhijbepkobkaa
open Go.RowKit

set_option maxRecDepth 100000 in
set_option maxHeartbeats 8000000 in
theorem lawRunSignals_any (h : Ho) (pv : Value) (L : List SignalT) (w : World) (hL : RSignal w pv L) : Calls Try.prog 11 #[h.v, pv] w fun e w' => e = .returned (.bool true) ∧ Below w.heap.size w w' := by
  have HV := hide hL
  obtain ⟨ao, cap, rfl, hl, hm, -⟩ := hL
  unfold maxLen at hm
  have HW := hide (Below.alloc1 w (.cells #[.int .i64 h.q, .int .i64 h.ld, .int .i64 h.he, .int .i64 h.lw, .int .i64 h.hg, .int .i64 h.lm, .int .i64 h.rs] 59))
  have HB := hide (ownV_alloc w #[.int .i64 h.q, .int .i64 h.ld, .int .i64 h.he, .int .i64 h.lw, .int .i64 h.hg, .int .i64 h.lm, .int .i64 h.rs] 59)
  obtain ⟨g0, eg0⟩ : ∃ z, z = w.heap.size := ⟨_, rfl⟩
  obtain ⟨W0, eW⟩ : ∃ z, z = w.alloc (.cells #[.int .i64 h.q, .int .i64 h.ld, .int .i64 h.he, .int .i64 h.lw, .int .i64 h.hg, .int .i64 h.lm, .int .i64 h.rs] 59) := ⟨_, rfl⟩
  have hg0 : w.heap.size ≤ g0 := by omega
  have HSZ := hide fun V (hb : Below w.heap.size w V) => szSignalS_any (.slice ao L.length cap) L 1048576 V ((unhide HV).below hb) (by omega) (by omega)
  have HTH := hide fun W => toHoist_any h.q h.ld h.he h.lw h.hg h.lm h.rs W
  have HTS := hide fun V (hb : Below w.heap.size w V) hs => toSignalS_any (.slice ao L.length cap) L V ((unhide HV).below hb) hs
  have HSP := hide fun v V hv => specRunSignals_any h v L V hv
  have HIP := hide fun v V hv => implRunSignals_any h v L V hv
  unfold Ho.v vHoist at HSP HIP ⊢
  unfold vHoist at HTH
  go_enter Try.func11, Try.ntmps11
  go_upto_region 2 with (fail)
  rw [← eW, ← eg0] at HB
  rw [← eW] at HW
  rw [← eW, ← eg0]
  clear eW eg0
  go_wp2_with fail
  refine (unhide HSZ _ (unhide HW)).mono ?_
  rintro e V1 ⟨l0, rfl, ⟨hp0, hq0, hs⟩, hb⟩
  replace HW := hide (Below.step (unhide HW) hb)
  replace HB := hide (OwnV.step (unhide HB) hb)
  clear hb
  have HS := hide hs
  clear hs HSZ
  by_cases hneg0 : l0 < 0
  · clear HS
    go_wp2
    go_ret
    exact ⟨rfl, unhide HW⟩
  have hsn := unhide HS (by omega)
  clear HS
  have b0 := (unhide HB).cell (i := 0) rfl
  have b1 := (unhide HB).cell (i := 1) rfl
  have b2 := (unhide HB).cell (i := 2) rfl
  have b3 := (unhide HB).cell (i := 3) rfl
  have b4 := (unhide HB).cell (i := 4) rfl
  have b5 := (unhide HB).cell (i := 5) rfl
  have b6 := (unhide HB).cell (i := 6) rfl
  go_wp2_with fail
  refine (unhide HTH _).mono ?_
  rintro e V2 ⟨rfl, hb⟩
  replace HW := hide (Below.step (unhide HW) hb)
  replace HB := hide (OwnV.step (unhide HB) hb)
  clear hb
  clear b0 b1 b2 b3 b4 b5 b6
  go_wp2_with fail
  refine (unhide HTS _ (unhide HW) hsn).mono ?_
  rintro e V3 ⟨g7, rfl, -, ho, hb⟩
  replace HW := hide (Below.step (unhide HW) hb)
  replace HB := hide (OwnV.step (unhide HB) hb)
  clear hb
  have HX0 := hide (OwnV.recsIn ho (Nat.le_refl _) (by unfold maxLen; omega))
  clear ho
  go_wp2_with fail
  refine (unhide HSP _ _ (unhide HX0)).mono ?_
  intro e V4 hsp
  obtain ⟨sa, sn, sc, rfl, ho, hb⟩ := hsp
  replace HW := hide (Below.step (unhide HW) hb)
  replace HB := hide (OwnV.step (unhide HB) hb)
  clear hb
  have HS1 := hide ho.intsIn
  clear ho HX0 HSP
  obtain ⟨y, ey⟩ : ∃ z, z = rsH h L := ⟨_, rfl⟩
  obtain ⟨M, eM⟩ : ∃ z, z = rsC h L := ⟨_, rfl⟩
  have hMl : M.length ≤ 1048576 := by rw [eM]; have := rsC_len h L; omega
  rw [← ey]
  rw [← eM] at HS1
  have HEY : Hid (rsH h L = y) := ey.symm
  have HEM : Hid (rsC h L = M) := eM.symm
  clear ey eM
  have HEH := hide fun W => eqHoist_any y.q y.ld y.he y.lw y.hg y.lm y.rs W
  unfold vHoist at HEH
  unfold Ho.v vHoist
  have HZ := hide (Below.refl V4.heap.size V4)
  have hzw := (unhide HB).lt
  have hzW := (unhide HW).size
  obtain ⟨g5, eG⟩ : ∃ z, z = V4.heap.size := ⟨_, rfl⟩
  obtain ⟨V5, eW⟩ : ∃ z, z = V4.alloc (.cells #[.int .i64 y.q, .int .i64 y.ld, .int .i64 y.he, .int .i64 y.lw, .int .i64 y.hg, .int .i64 y.lm, .int .i64 y.rs] 37) := ⟨_, rfl⟩
  have hb := Below.alloc1 V4 (.cells #[.int .i64 y.q, .int .i64 y.ld, .int .i64 y.he, .int .i64 y.lw, .int .i64 y.hg, .int .i64 y.lm, .int .i64 y.rs] 37)
  have Hg5 := hide (ownV_alloc V4 #[.int .i64 y.q, .int .i64 y.ld, .int .i64 y.he, .int .i64 y.lw, .int .i64 y.hg, .int .i64 y.lm, .int .i64 y.rs] 37)
  go_upto_region 6 with (fail)
  rw [← eW] at hb Hg5 ⊢
  rw [← eG] at Hg5 ⊢
  have hWg5 := (unhide HW).size
  have hszg5 : V4.heap.size ≤ V5.heap.size := hb.size
  replace HW := hide (Below.step (unhide HW) hb)
  replace HB := hide (OwnV.step (unhide HB) hb)
  replace HZ := hide (Below.step (unhide HZ) hb)
  clear hb
  have hltg5 := (unhide Hg5).lt
  clear eW
  have hg50 : g0 < g5 := by omega
  have hgz : V4.heap.size ≤ g5 := by omega
  clear eG
  go_wp2_with fail
  refine (unhide HTS _ (unhide HW) hsn).mono ?_
  rintro e V6 ⟨gx, rfl, hgx, ho, hb⟩
  have hgx5 : g5 < gx := by omega
  replace HW := hide (Below.step (unhide HW) hb)
  replace HB := hide (OwnV.step (unhide HB) hb)
  replace HZ := hide (Below.step (unhide HZ) hb)
  replace Hg5 := hide (OwnV.step (unhide Hg5) hb)
  clear hb
  have HX := hide ho
  have hltx := ho.lt
  clear ho
  have b0 := (unhide HB).cell (i := 0) rfl
  have b1 := (unhide HB).cell (i := 1) rfl
  have b2 := (unhide HB).cell (i := 2) rfl
  have b3 := (unhide HB).cell (i := 3) rfl
  have b4 := (unhide HB).cell (i := 4) rfl
  have b5 := (unhide HB).cell (i := 5) rfl
  have b6 := (unhide HB).cell (i := 6) rfl
  go_wp2_with fail
  refine (unhide HTH _).mono ?_
  rintro e V7 ⟨rfl, hb⟩
  have hsV7 := hb.size
  replace HW := hide (Below.step (unhide HW) hb)
  replace HB := hide (OwnV.step (unhide HB) hb)
  replace HZ := hide (Below.step (unhide HZ) hb)
  replace Hg5 := hide (OwnV.step (unhide Hg5) hb)
  replace HX := hide (OwnV.step (unhide HX) hb)
  clear hb
  clear b0 b1 b2 b3 b4 b5 b6
  go_wp2_with fail
  refine (unhide HIP _ _ (OwnV.recsIn (unhide HX) (Nat.le_refl _) (by unfold maxLen; omega))).mono ?_
  intro e V8 hip
  obtain ⟨ga, gn, gc, rfl, ho, hb⟩ := hip
  rw [unhide HEY]
  rw [unhide HEM] at ho
  unfold Ho.v vHoist
  have hsI := hb.size
  replace HW := hide (Below.step (unhide HW) hb)
  replace HB := hide (OwnV.step (unhide HB) hb)
  replace HZ := hide (Below.step (unhide HZ) hb)
  replace Hg5 := hide (OwnV.step (unhide Hg5) hb)
  replace HX := hide (OwnV.step (unhide HX) hb)
  clear hb
  have HG := hide ho.upto
  clear ho
  skip
  obtain ⟨g7, eG⟩ : ∃ z, z = V8.heap.size := ⟨_, rfl⟩
  obtain ⟨V9, eW⟩ : ∃ z, z = V8.alloc (.cells #[.int .i64 y.q, .int .i64 y.ld, .int .i64 y.he, .int .i64 y.lw, .int .i64 y.hg, .int .i64 y.lm, .int .i64 y.rs] 37) := ⟨_, rfl⟩
  have hb := Below.alloc1 V8 (.cells #[.int .i64 y.q, .int .i64 y.ld, .int .i64 y.he, .int .i64 y.lw, .int .i64 y.hg, .int .i64 y.lm, .int .i64 y.rs] 37)
  have Hg7 := hide (ownV_alloc V8 #[.int .i64 y.q, .int .i64 y.ld, .int .i64 y.he, .int .i64 y.lw, .int .i64 y.hg, .int .i64 y.lm, .int .i64 y.rs] 37)
  go_upto_region 8 with (fail)
  rw [← eW] at hb Hg7 ⊢
  rw [← eG] at Hg7 ⊢
  have hWg7 := (unhide HW).size
  have hszg7 : V8.heap.size ≤ V9.heap.size := hb.size
  replace HW := hide (Below.step (unhide HW) hb)
  replace HB := hide (OwnV.step (unhide HB) hb)
  replace HZ := hide (Below.step (unhide HZ) hb)
  replace Hg5 := hide (OwnV.step (unhide Hg5) hb)
  replace HX := hide (OwnV.step (unhide HX) hb)
  replace HG := hide ((unhide HG).below hb)
  clear hb
  have hltg7 := (unhide Hg7).lt
  clear eW
  have hg75 : gx < g7 := by omega
  clear eG
  have c0 := (unhide Hg7).cell (i := 0) rfl
  have c1 := (unhide Hg7).cell (i := 1) rfl
  have c2 := (unhide Hg7).cell (i := 2) rfl
  have c3 := (unhide Hg7).cell (i := 3) rfl
  have c4 := (unhide Hg7).cell (i := 4) rfl
  have c5 := (unhide Hg7).cell (i := 5) rfl
  have c6 := (unhide Hg7).cell (i := 6) rfl
  have d0 := (unhide Hg5).cell (i := 0) rfl
  have d1 := (unhide Hg5).cell (i := 1) rfl
  have d2 := (unhide Hg5).cell (i := 2) rfl
  have d3 := (unhide Hg5).cell (i := 3) rfl
  have d4 := (unhide Hg5).cell (i := 4) rfl
  have d5 := (unhide Hg5).cell (i := 5) rfl
  have d6 := (unhide Hg5).cell (i := 6) rfl
  go_wp2_with fail
  refine (unhide HEH _).mono ?_
  rintro e V10 ⟨rfl, hb⟩
  replace HW := hide (Below.step (unhide HW) hb)
  replace HB := hide (OwnV.step (unhide HB) hb)
  replace HZ := hide (Below.step (unhide HZ) hb)
  replace Hg5 := hide (OwnV.step (unhide Hg5) hb)
  replace HX := hide (OwnV.step (unhide HX) hb)
  replace HG := hide ((unhide HG).below hb)
  replace Hg7 := hide (OwnV.step (unhide Hg7) hb)
  clear hb
  clear c0 c1 c2 c3 c4 c5 c6 d0 d1 d2 d3 d4 d5 d6
  go_wp2_with fail
  refine (eqBoolS_o _ _ M _ (unhide HG).inn ((unhide HS1).below (unhide HZ))).mono ?_
  rintro e V11 ⟨rfl, hb⟩
  replace HW := hide (Below.step (unhide HW) hb)
  replace HB := hide (OwnV.step (unhide HB) hb)
  replace HZ := hide (Below.step (unhide HZ) hb)
  replace Hg5 := hide (OwnV.step (unhide Hg5) hb)
  replace HX := hide (OwnV.step (unhide HX) hb)
  replace HG := hide ((unhide HG).below hb)
  replace Hg7 := hide (OwnV.step (unhide Hg7) hb)
  clear hb
  go_wp2_with fail
  refine (unhide HTS _ (unhide HW) hsn).mono ?_
  rintro e V12 ⟨ge, rfl, -, ho, hb⟩
  replace HW := hide (Below.step (unhide HW) hb)
  replace HB := hide (OwnV.step (unhide HB) hb)
  replace HZ := hide (Below.step (unhide HZ) hb)
  replace Hg5 := hide (OwnV.step (unhide Hg5) hb)
  replace HX := hide (OwnV.step (unhide HX) hb)
  replace HG := hide ((unhide HG).below hb)
  replace Hg7 := hide (OwnV.step (unhide Hg7) hb)
  clear hb
  have HXE := hide (OwnV.recsIn ho (Nat.le_refl _) (by unfold maxLen; omega))
  clear ho
  go_wp2_with fail
  refine (eqSignalS_any _ _ L _ (OwnV.recsIn (unhide HX) (Nat.le_refl _) (by unfold maxLen; omega)) (unhide HXE)).mono ?_
  rintro e V13 ⟨rfl, hb⟩
  replace HW := hide (Below.step (unhide HW) hb)
  replace HB := hide (OwnV.step (unhide HB) hb)
  replace HZ := hide (Below.step (unhide HZ) hb)
  replace Hg5 := hide (OwnV.step (unhide Hg5) hb)
  replace HX := hide (OwnV.step (unhide HX) hb)
  replace HG := hide ((unhide HG).below hb)
  replace Hg7 := hide (OwnV.step (unhide Hg7) hb)
  clear hb
  clear HXE
  have HMS := hide fun V h => markSignalS_any gx L.length L.length (recCells 2 eSignal L) 1 V h (by rw [recCells_length]; omega) hsn (by omega) (by omega)
  go_wp2_with fail
  refine (unhide HMS _ (unhide HX)).mono ?_
  rintro e V14 ⟨rfl, hk, -⟩
  clear HX HMS
  have hWB := unhide HW
  replace HW := hide (hWB.trans (hk.below hWB.size (fun b e => by omega)))
  clear hWB
  replace HB := hide ((unhide HB).kept hk (fun e => by omega))
  have hWB := unhide HZ
  replace HZ := hide (hWB.trans (hk.below hWB.size (fun b e => by omega)))
  clear hWB
  replace Hg5 := hide ((unhide Hg5).kept hk (fun e => by omega))
  replace HG := hide ((unhide HG).kept hk (fun b h1 h2 e => by omega))
  replace Hg7 := hide ((unhide Hg7).kept hk (fun e => by omega))
  clear hk
  have dn1 : decide ((1 : Int) + 2 * (L.length : Int) < 0) = false := by rw [decide_eq_false_iff_not]; omega
  have c0 := (unhide Hg7).cell (i := 0) rfl
  have c1 := (unhide Hg7).cell (i := 1) rfl
  have c2 := (unhide Hg7).cell (i := 2) rfl
  have c3 := (unhide Hg7).cell (i := 3) rfl
  have c4 := (unhide Hg7).cell (i := 4) rfl
  have c5 := (unhide Hg7).cell (i := 5) rfl
  have c6 := (unhide Hg7).cell (i := 6) rfl
  have d0 := (unhide Hg5).cell (i := 0) rfl
  have d1 := (unhide Hg5).cell (i := 1) rfl
  have d2 := (unhide Hg5).cell (i := 2) rfl
  have d3 := (unhide Hg5).cell (i := 3) rfl
  have d4 := (unhide Hg5).cell (i := 4) rfl
  have d5 := (unhide Hg5).cell (i := 5) rfl
  have d6 := (unhide Hg5).cell (i := 6) rfl
  go_wp2_with fail
  refine (unhide HEH _).mono ?_
  rintro e V15 ⟨rfl, hb⟩
  replace HW := hide (Below.step (unhide HW) hb)
  replace HB := hide (OwnV.step (unhide HB) hb)
  replace HZ := hide (Below.step (unhide HZ) hb)
  replace Hg5 := hide (OwnV.step (unhide Hg5) hb)
  replace HG := hide ((unhide HG).below hb)
  replace Hg7 := hide (OwnV.step (unhide Hg7) hb)
  clear hb
  clear c0 c1 c2 c3 c4 c5 c6 d0 d1 d2 d3 d4 d5 d6
  go_wp2_with fail
  refine (eqBoolS_o _ _ M _ (unhide HG).inn ((unhide HS1).below (unhide HZ))).mono ?_
  rintro e V16 ⟨rfl, hb⟩
  replace HW := hide (Below.step (unhide HW) hb)
  replace HB := hide (OwnV.step (unhide HB) hb)
  replace HZ := hide (Below.step (unhide HZ) hb)
  replace Hg5 := hide (OwnV.step (unhide Hg5) hb)
  replace HG := hide ((unhide HG).below hb)
  replace Hg7 := hide (OwnV.step (unhide Hg7) hb)
  clear hb
  clear dn1
  go_wp2_with fail
  refine (markBoolS_v _ _ _ _ _ M _ (unhide HG) hMl).mono ?_
  rintro e V17 ⟨rfl, hk, hom⟩
  clear HG
  clear Hg7
  have hWB := unhide HW
  replace HW := hide (hWB.trans (hk.below hWB.size (fun b e => by omega)))
  clear hWB
  replace HB := hide ((unhide HB).kept hk (fun e => by omega))
  have hWB := unhide HZ
  replace HZ := hide (hWB.trans (hk.below hWB.size (fun b e => by omega)))
  clear hWB
  replace Hg5 := hide ((unhide Hg5).kept hk (fun e => by omega))
  have HG := hide hom
  clear hk hom
  go_wp2_with fail
  refine (heldBoolS_v _ M _ (unhide HG).inn hMl).mono ?_
  rintro e V18 ⟨rfl, hb⟩
  replace HW := hide (Below.step (unhide HW) hb)
  replace HB := hide (OwnV.step (unhide HB) hb)
  replace HZ := hide (Below.step (unhide HZ) hb)
  replace Hg5 := hide (OwnV.step (unhide Hg5) hb)
  replace HG := hide ((unhide HG).below hb)
  clear hb
  have b0 := (unhide HB).cell (i := 0) rfl
  have b1 := (unhide HB).cell (i := 1) rfl
  have b2 := (unhide HB).cell (i := 2) rfl
  have b3 := (unhide HB).cell (i := 3) rfl
  have b4 := (unhide HB).cell (i := 4) rfl
  have b5 := (unhide HB).cell (i := 5) rfl
  have b6 := (unhide HB).cell (i := 6) rfl
  go_wp2_with fail
  refine (unhide HTH _).mono ?_
  rintro e V19 ⟨rfl, hb⟩
  replace HW := hide (Below.step (unhide HW) hb)
  replace HB := hide (OwnV.step (unhide HB) hb)
  replace HZ := hide (Below.step (unhide HZ) hb)
  replace Hg5 := hide (OwnV.step (unhide Hg5) hb)
  replace HG := hide ((unhide HG).below hb)
  clear hb
  clear b0 b1 b2 b3 b4 b5 b6
  go_wp2_with fail
  refine (unhide HTS _ (unhide HW) hsn).mono ?_
  rintro e V20 ⟨ge, rfl, -, ho, hb⟩
  replace HW := hide (Below.step (unhide HW) hb)
  replace HB := hide (OwnV.step (unhide HB) hb)
  replace HZ := hide (Below.step (unhide HZ) hb)
  replace Hg5 := hide (OwnV.step (unhide Hg5) hb)
  replace HG := hide ((unhide HG).below hb)
  clear hb
  have HXE := hide (OwnV.recsIn ho (Nat.le_refl _) (by unfold maxLen; omega))
  clear ho
  go_wp2_with fail
  refine (unhide HIP _ _ (unhide HXE)).mono ?_
  intro e V21 hip
  obtain ⟨ha, hn, hc, rfl, ho, hb⟩ := hip
  rw [unhide HEY]
  rw [unhide HEM] at ho
  unfold Ho.v vHoist
  replace HW := hide (Below.step (unhide HW) hb)
  replace HB := hide (OwnV.step (unhide HB) hb)
  replace HZ := hide (Below.step (unhide HZ) hb)
  replace Hg5 := hide (OwnV.step (unhide Hg5) hb)
  replace HG := hide ((unhide HG).below hb)
  clear hb
  have HH := hide ho.upto
  clear ho HXE HIP
  obtain ⟨g14, eG⟩ : ∃ z, z = V21.heap.size := ⟨_, rfl⟩
  obtain ⟨V22, eW⟩ : ∃ z, z = V21.alloc (.cells #[.int .i64 y.q, .int .i64 y.ld, .int .i64 y.he, .int .i64 y.lw, .int .i64 y.hg, .int .i64 y.lm, .int .i64 y.rs] 37) := ⟨_, rfl⟩
  have hb := Below.alloc1 V21 (.cells #[.int .i64 y.q, .int .i64 y.ld, .int .i64 y.he, .int .i64 y.lw, .int .i64 y.hg, .int .i64 y.lm, .int .i64 y.rs] 37)
  have Hg14 := hide (ownV_alloc V21 #[.int .i64 y.q, .int .i64 y.ld, .int .i64 y.he, .int .i64 y.lw, .int .i64 y.hg, .int .i64 y.lm, .int .i64 y.rs] 37)
  go_upto_region 25 with (fail)
  rw [← eW] at hb Hg14 ⊢
  rw [← eG] at Hg14 ⊢
  have hWg14 := (unhide HW).size
  have hszg14 : V21.heap.size ≤ V22.heap.size := hb.size
  replace HW := hide (Below.step (unhide HW) hb)
  replace HB := hide (OwnV.step (unhide HB) hb)
  replace HZ := hide (Below.step (unhide HZ) hb)
  replace Hg5 := hide (OwnV.step (unhide Hg5) hb)
  replace HG := hide ((unhide HG).below hb)
  replace HH := hide ((unhide HH).below hb)
  clear hb
  have hltg14 := (unhide Hg14).lt
  clear eW
  clear eG
  have c0 := (unhide Hg14).cell (i := 0) rfl
  have c1 := (unhide Hg14).cell (i := 1) rfl
  have c2 := (unhide Hg14).cell (i := 2) rfl
  have c3 := (unhide Hg14).cell (i := 3) rfl
  have c4 := (unhide Hg14).cell (i := 4) rfl
  have c5 := (unhide Hg14).cell (i := 5) rfl
  have c6 := (unhide Hg14).cell (i := 6) rfl
  have d0 := (unhide Hg5).cell (i := 0) rfl
  have d1 := (unhide Hg5).cell (i := 1) rfl
  have d2 := (unhide Hg5).cell (i := 2) rfl
  have d3 := (unhide Hg5).cell (i := 3) rfl
  have d4 := (unhide Hg5).cell (i := 4) rfl
  have d5 := (unhide Hg5).cell (i := 5) rfl
  have d6 := (unhide Hg5).cell (i := 6) rfl
  go_wp2_with fail
  refine (unhide HEH _).mono ?_
  rintro e V23 ⟨rfl, hb⟩
  replace HW := hide (Below.step (unhide HW) hb)
  replace HB := hide (OwnV.step (unhide HB) hb)
  replace HZ := hide (Below.step (unhide HZ) hb)
  replace Hg5 := hide (OwnV.step (unhide Hg5) hb)
  replace HG := hide ((unhide HG).below hb)
  replace HH := hide ((unhide HH).below hb)
  replace Hg14 := hide (OwnV.step (unhide Hg14) hb)
  clear hb
  clear c0 c1 c2 c3 c4 c5 c6 d0 d1 d2 d3 d4 d5 d6
  go_wp2_with fail
  refine (eqBoolS_o _ _ M _ (unhide HH).inn ((unhide HS1).below (unhide HZ))).mono ?_
  rintro e V24 ⟨rfl, hb⟩
  replace HW := hide (Below.step (unhide HW) hb)
  replace HB := hide (OwnV.step (unhide HB) hb)
  replace HZ := hide (Below.step (unhide HZ) hb)
  replace Hg5 := hide (OwnV.step (unhide Hg5) hb)
  replace HG := hide ((unhide HG).below hb)
  replace HH := hide ((unhide HH).below hb)
  replace Hg14 := hide (OwnV.step (unhide Hg14) hb)
  clear hb
  go_wp2_with fail
  refine (heldBoolS_v _ M _ (unhide HG).inn hMl).mono ?_
  rintro e V25 ⟨rfl, hb⟩
  replace HW := hide (Below.step (unhide HW) hb)
  replace HB := hide (OwnV.step (unhide HB) hb)
  replace HZ := hide (Below.step (unhide HZ) hb)
  replace Hg5 := hide (OwnV.step (unhide Hg5) hb)
  replace HG := hide ((unhide HG).below hb)
  replace HH := hide ((unhide HH).below hb)
  replace Hg14 := hide (OwnV.step (unhide Hg14) hb)
  clear hb
  go_wp2
  go_ret
  exact ⟨rfl, unhide HW⟩

end Go.Proofs.Ytgmhijbepkobkaa

/- The law of DoYard, walked. Written by wip/mkl18.py. -/
import Derived.Test.YtoplnhnkliaggaaYaX1
import Derived.Test.YtoplnhnkliaggaaYaX2
import Derived.Deep.RegionHeld3
import Derived.Deep.DeepCutAuto
namespace Go.Proofs.Ytoplnhnkliaggaa
open Go.RowKit

theorem do_rows {H : Int} {R : List (List Int)} (k b s : Int) (hl : ∀ i, i < R.length → (R.getD i []).length ≤ 1048576) : ∀ i, i < (doY H R k b s).1.length → ((doY H R k b s).1.getD i []).length ≤ 1048576 := fun i hi => by
  by_cases h : YOk H R
  · have h1 := do_ok h k b s
    have h2 := h1.low i hi
    have h3 := h1.h2
    omega
  · rw [do_bad h] at hi ⊢
    exact hl i hi

set_option maxRecDepth 100000 in
set_option maxHeartbeats 16000000 in
theorem lawDoYard_any (s0 : Int) (pv : Value) (R : List (List Int)) (k1 b1 c1 : Int) (w : World) (h : RowsIn w pv R) :
    Calls Try.prog 7 #[yardV s0 pv, vYardOp k1 b1 c1] w fun e w' => e = .returned (.bool true) ∧ Below w.heap.size w w' := by
  have HV := hide h
  obtain ⟨ao, cap, rfl, hc1, hc2⟩ := rows_cap h
  clear h
  have HTP := hide fun V => toYardOp_any k1 b1 c1 V
  have HDR0 := hide fun hl => do_rows (H := s0) (R := R) k1 b1 c1 hl
  have hDR := do_len s0 R k1 b1 c1
  have HSQ0 := hide fun v V (hV : RowsIn V v R) => specDoYard_any s0 v R k1 b1 c1 V hV
  have HPQ0 := hide fun v V (hV : RowsIn V v R) => implDoYard_any s0 v R k1 b1 c1 V hV
  obtain ⟨⟨D1, D2, D3⟩, eD⟩ : ∃ D, D = doY s0 R k1 b1 c1 := ⟨_, rfl⟩
  rw [← eD] at HSQ0 HPQ0 HDR0 hDR
  dsimp only at hDR HDR0
  have HDL := hide hDR
  clear eD hDR
  have hd2 : (D2 != D2) = false := by simp
  have hd3 : (D3 != D3) = false := by simp
  unfold yardV vYardOp at HSQ0 HPQ0 ⊢
  unfold vYardOp at HTP
  go_enter Try.func7, Try.ntmps7
  go_upto_region 2 with (fail)
  obtain ⟨g0, eg0⟩ : ∃ z, z = w.heap.size := ⟨_, rfl⟩
  obtain ⟨W0, eW⟩ : ∃ z, z = (w.alloc (.cells #[.int .i64 s0, .slice ao R.length cap] 45)).alloc (.cells #[.int .i64 k1, .int .i64 b1, .int .i64 c1] 51) := ⟨_, rfl⟩
  have HW : Hid (Below w.heap.size w W0) := by rw [eW]; exact Below.step (Below.alloc1 _ _) (Below.alloc1 _ _)
  have HB : Hid (OwnV W0 g0 [.int .i64 s0, .slice ao R.length cap]) := by rw [eW, eg0]; exact (ownV_alloc _ _ _).step (Below.alloc1 _ _)
  have HO : Hid (OwnV W0 (g0 + 1) [.int .i64 k1, .int .i64 b1, .int .i64 c1]) := by rw [eW, eg0]; exact own_newS _ _ _ _ (by simp)
  rw [← eW, ← eg0]
  have hg0 : w.heap.size ≤ g0 := by omega
  clear eW eg0
  have b0 := (unhide HB).cell (i := 0) rfl
  have b1 := (unhide HB).cell (i := 1) rfl
  have HSZ := hide (szYard_any s0 (.slice ao R.length cap) R W0 ((unhide HV).below (unhide HW)))
  unfold yardV at HSZ
  go_wp2_with fail
  refine (unhide HSZ).mono ?_
  rintro e W1 ⟨l0, rfl, hs, hb⟩
  replace HW := hide (Below.step (unhide HW) hb)
  replace HB := hide (OwnV.step (unhide HB) hb)
  replace HO := hide (OwnV.step (unhide HO) hb)
  clear hb b0 b1 HSZ
  obtain ⟨hp0, hq0, hs⟩ := hs
  have HS := hide hs
  clear hs
  by_cases hneg0 : l0 < 0
  · clear HS
    go_wp2
    go_ret
    exact ⟨rfl, unhide HW⟩
  obtain ⟨hsn, hsl⟩ := unhide HS (by omega)
  have HL := hide hsl
  have HDR := hide (unhide HDR0 hsl)
  clear hsl HS HDR0
  have hDl : D1.length ≤ 1048576 := by have := unhide HDL; omega
  have HTO := hide fun V (hb : Below w.heap.size w V) => toYard_any s0 (.slice ao R.length cap) R V ((unhide HV).below hb) hsn (unhide HL)
  have HSQ := hide fun v V (hV : RowsIn V v R) => unhide HSQ0 v V hV hsn (unhide HL)
  have HPQ := hide fun v V (hV : RowsIn V v R) => unhide HPQ0 v V hV hsn (unhide HL)
  clear HSQ0 HPQ0
  unfold yardV at HTO
  go_upto_region 5 with (fail)
  go_cut [6, 7, 8] (fun s6 s7 s8 wx => ∃ (gw : Nat) (oa : Option Addr) (on oc : Nat), s6 = .pointer (some ⟨gw, 0, none⟩) ∧ s7 = .int .i64 D2 ∧ s8 = .int .i64 D3 ∧ g0 + 1 < gw ∧ Hid (Below w.heap.size w wx) ∧ Hid (OwnV wx g0 [.int .i64 s0, .slice ao R.length cap]) ∧ Hid (OwnV wx (g0 + 1) [.int .i64 k1, .int .i64 b1, .int .i64 c1]) ∧ Hid (OwnV wx gw [.int .i64 s0, .slice oa on oc]) ∧ Hid (RowsIn wx (.slice oa on oc) D1))
  case first =>
    obtain ⟨gm, egm⟩ : ∃ z, z = W1.heap.size := ⟨_, rfl⟩
    have lm0 : g0 + 1 < gm := by rw [egm]; exact (unhide HO).lt
    have hlow : gm ≤ W1.heap.size := Nat.le_of_eq egm
    clear egm
    obtain ⟨wd, ewd⟩ : ∃ z, z = W1.drew := ⟨_, rfl⟩
    have hb : Below W1.heap.size W1 wd := by rw [ewd]; exact (Below.refl _ _).drew
    have hlwd := Nat.le_trans hlow hb.size
    replace HW := hide (Below.step (unhide HW) hb)
    replace HB := hide (OwnV.step (unhide HB) hb)
    replace HO := hide (OwnV.step (unhide HO) hb)
    clear hb hlow
    refine wp_region_held_drew (S := fun w' => w'.cell? ⟨g0, 0, none⟩ = some (.int .i64 s0) ∧ w'.cell? ⟨g0, 1, none⟩ = some (.slice ao R.length cap) ∧ w'.cell? ⟨g0 + 1, 0, none⟩ = some (.int .i64 k1) ∧ w'.cell? ⟨g0 + 1, 1, none⟩ = some (.int .i64 b1) ∧ w'.cell? ⟨g0 + 1, 2, none⟩ = some (.int .i64 c1)) (by kernel_rfl) ⟨by rw [← ewd]; exact (unhide HB).cell (i := 0) rfl, by rw [← ewd]; exact (unhide HB).cell (i := 1) rfl, by rw [← ewd]; exact (unhide HO).cell (i := 0) rfl, by rw [← ewd]; exact (unhide HO).cell (i := 1) rfl, by rw [← ewd]; exact (unhide HO).cell (i := 2) rfl⟩ (fun hHeld => ?_)
    rw [← ewd] at hHeld ⊢
    clear ewd
    refine wpAnyH_take (i := 0) (v := ?_) rfl (by kernel_rfl) (by kernel_rfl) (by kernel_rfl) (fun _ _ _ h => h) (Or.inl ⟨by rfl, ?_⟩) (by assumption) ?_
    rotate_left
    · intro wy hSw
      obtain ⟨hS0, hS1, hS2, hS3, hS4⟩ := hSw
      go_simp
      try with_reducible rfl
    try simp only [Act.put, List.getElem_toArray, List.getElem_cons_zero, List.setIfInBounds_toArray, List.set_cons_zero, List.set_cons_succ]
    refine wpAnyH_take (i := 2) (v := ?_) rfl (by kernel_rfl) (by kernel_rfl) (by kernel_rfl) (fun _ _ _ h => h) (Or.inl ⟨by rfl, ?_⟩) (by assumption) ?_
    rotate_left
    · intro wy hSw
      obtain ⟨hS0, hS1, hS2, hS3, hS4⟩ := hSw
      go_simp
      try with_reducible rfl
    try simp only [Act.put, List.getElem_toArray, List.getElem_cons_succ, List.getElem_cons_zero, List.setIfInBounds_toArray, List.set_cons_zero, List.set_cons_succ]
    refine wpAnyH_ready (rs := [1, 9]) (by kernel_rfl) (by simp) ?_
    refine AllReadyH.cons rfl (fun K hK => ?_) (AllReadyH.cons rfl (fun K hK => ?_) AllReadyH.nil)
    · go_simp
      have HCQ := hide (unhide HTO wd (unhide HW))
      refine (unhide HCQ).mono ?_
      rintro e wc0 ⟨g7, G7, C7, rfl, ho7, hb⟩
      have hlwc0 := Nat.le_trans hlwd hb.size
      replace HW := hide (Below.step (unhide HW) hb)
      replace HB := hide (OwnV.step (unhide HB) hb)
      replace HO := hide (OwnV.step (unhide HO) hb)
      have HI := hide (OwnRows.rowsIn ho7 (Nat.le_refl _) (by unfold maxLen; omega))
      clear ho7
      clear hb HCQ
      refine hK.out _ _ ⟨(unhide HB).cell (i := 0) rfl, (unhide HB).cell (i := 1) rfl, (unhide HO).cell (i := 0) rfl, (unhide HO).cell (i := 1) rfl, (unhide HO).cell (i := 2) rfl⟩ (fun hHeld => ?_)
      clear hK K
      try simp only [Act.put, List.setIfInBounds_toArray, List.set_cons_zero, List.set_cons_succ]
      refine wpAnyH_ready (rs := [3, 9]) (by kernel_rfl) (by simp) ?_
      refine AllReadyH.cons rfl (fun K hK => ?_) (AllReadyH.cons rfl (fun K hK => ?_) AllReadyH.nil)
      · go_simp
        have HCQ := hide (unhide HTP wc0)
        refine (unhide HCQ).mono ?_
        rintro e wc1 ⟨rfl, hb⟩
        have hlwc1 := Nat.le_trans hlwc0 hb.size
        replace HW := hide (Below.step (unhide HW) hb)
        replace HB := hide (OwnV.step (unhide HB) hb)
        replace HO := hide (OwnV.step (unhide HO) hb)
        replace HI := hide ((unhide HI).below hb)
        clear hb HCQ
        refine hK.out _ _ ⟨(unhide HB).cell (i := 0) rfl, (unhide HB).cell (i := 1) rfl, (unhide HO).cell (i := 0) rfl, (unhide HO).cell (i := 1) rfl, (unhide HO).cell (i := 2) rfl⟩ (fun hHeld => ?_)
        clear hK K
        try simp only [Act.put, List.setIfInBounds_toArray, List.set_cons_zero, List.set_cons_succ]
        refine wpAnyH_ready (rs := [4, 9]) (by kernel_rfl) (by simp) ?_
        refine AllReadyH.cons rfl (fun K hK => ?_) (AllReadyH.cons rfl (fun K hK => ?_) AllReadyH.nil)
        · go_simp
          have HCQ := hide (unhide HSQ _ wc1 (unhide HI))
          refine (unhide HCQ).mono ?_
          rintro e wc2 ⟨oa, on, oc, rfl, hin, hb⟩
          have hlwc2 := Nat.le_trans hlwc1 hb.size
          replace HW := hide (Below.step (unhide HW) hb)
          replace HB := hide (OwnV.step (unhide HB) hb)
          replace HO := hide (OwnV.step (unhide HO) hb)
          replace HI := hide ((unhide HI).below hb)
          try dsimp only at hin
          have HIN := hide hin
          clear hin
          try unfold yardV
          try dsimp only
          clear hb HCQ
          refine hK.out _ _ ⟨(unhide HB).cell (i := 0) rfl, (unhide HB).cell (i := 1) rfl, (unhide HO).cell (i := 0) rfl, (unhide HO).cell (i := 1) rfl, (unhide HO).cell (i := 2) rfl⟩ (fun hHeld => ?_)
          clear hK K
          try simp only [Act.put, List.setIfInBounds_toArray, List.set_cons_zero, List.set_cons_succ]
          refine wpAnyH_take (i := 5) (v := ?_) rfl (by kernel_rfl) (by kernel_rfl) (by kernel_rfl) (fun _ _ _ h => h) (Or.inl ⟨by rfl, ?_⟩) (by assumption) ?_
          rotate_left
          · intro wy hSw
            obtain ⟨hS0, hS1, hS2, hS3, hS4⟩ := hSw
            go_simp
            try with_reducible rfl
          try simp only [Act.put, List.getElem_toArray, List.getElem_cons_succ, List.getElem_cons_zero, List.setIfInBounds_toArray, List.set_cons_zero, List.set_cons_succ]
          refine wpAnyH_take (i := 6) (v := ?_) rfl (by kernel_rfl) (by kernel_rfl) (by kernel_rfl) (fun _ _ _ h => h) (Or.inl ⟨by rfl, ?_⟩) (by assumption) ?_
          rotate_left
          · intro wy hSw
            obtain ⟨hS0, hS1, hS2, hS3, hS4⟩ := hSw
            go_simp
            try with_reducible rfl
          try simp only [Act.put, List.getElem_toArray, List.getElem_cons_succ, List.getElem_cons_zero, List.setIfInBounds_toArray, List.set_cons_zero, List.set_cons_succ]
          refine wpAnyH_take (i := 7) (v := ?_) rfl (by kernel_rfl) (by kernel_rfl) (by kernel_rfl) (fun _ _ _ h => h) (Or.inl ⟨by rfl, ?_⟩) (by assumption) ?_
          rotate_left
          · intro wy hSw
            obtain ⟨hS0, hS1, hS2, hS3, hS4⟩ := hSw
            go_simp
            try with_reducible rfl
          try simp only [Act.put, List.getElem_toArray, List.getElem_cons_succ, List.getElem_cons_zero, List.setIfInBounds_toArray, List.set_cons_zero, List.set_cons_succ]
          refine wpAnyH_take (i := 8) (v := ?_) rfl (by kernel_rfl) (by kernel_rfl) (by kernel_rfl) (fun _ _ _ h => h) (Or.inl ⟨by rfl, ?_⟩) (by assumption) ?_
          rotate_left
          · intro wy hSw
            obtain ⟨hS0, hS1, hS2, hS3, hS4⟩ := hSw
            go_simp
            try with_reducible rfl
          try simp only [Act.put, List.getElem_toArray, List.getElem_cons_succ, List.getElem_cons_zero, List.setIfInBounds_toArray, List.set_cons_zero, List.set_cons_succ]
          refine wpAnyH_ready (rs := [9]) (by kernel_rfl) (by simp) ?_
          refine AllReadyH.cons rfl (fun K hK => ?_) AllReadyH.nil
          go_simp
          obtain ⟨gw, egw⟩ : ∃ z, z = wc2.heap.size := ⟨_, rfl⟩
          have hlgb := hlwc2
          rw [← egw] at hlgb
          obtain ⟨wb3, ewb3⟩ : ∃ z, z = wc2.alloc (.cells #[.int .i64 0, .slice none 0 0] 26) := ⟨_, rfl⟩
          have hb : Below wc2.heap.size wc2 wb3 := by rw [ewb3]; exact Below.alloc1 _ _
          have hlwb3 := Nat.le_trans hlwc2 hb.size
          have HBB : Hid (OwnV wb3 gw [.int .i64 0, .slice none 0 0]) := by rw [ewb3, egw]; exact ownV_alloc _ _ _
          rw [← ewb3, ← egw]
          replace HW := hide (Below.step (unhide HW) hb)
          replace HB := hide (OwnV.step (unhide HB) hb)
          replace HO := hide (OwnV.step (unhide HO) hb)
          replace HI := hide ((unhide HI).below hb)
          have HBA := hide hb
          have hgq : wc2.heap.size ≤ gw := Nat.le_of_eq egw.symm
          clear hb ewb3 egw
          refine hK.out _ _ ⟨(unhide HB).cell (i := 0) rfl, (unhide HB).cell (i := 1) rfl, (unhide HO).cell (i := 0) rfl, (unhide HO).cell (i := 1) rfl, (unhide HO).cell (i := 2) rfl⟩ (fun hHeld => ?_)
          clear hK K
          try simp only [Act.put, List.setIfInBounds_toArray, List.set_cons_zero, List.set_cons_succ]
          refine wpAnyH_ready (rs := [10]) (by kernel_rfl) (by simp) ?_
          refine AllReadyH.cons rfl (fun K hK => ?_) AllReadyH.nil
          have rf0 := (unhide HBB).frozen 0
          have r0 := (unhide HBB).cell (i := 0) rfl
          have rf1 := (unhide HBB).frozen 1
          have r1 := (unhide HBB).cell (i := 1) rfl
          have HBN := hide (((unhide HBB).set 0 (.int .i64 s0) (by simp)).set 1 (.slice oa on oc) (by simp))
          have HKS : Hid (Kept (fun b => b = gw) wb3 ((wb3.setCell ⟨gw, 0, none⟩ (.int .i64 s0)).setCell ⟨gw, 1, none⟩ (.slice oa on oc))) := (((Kept.refl (fun b => b = gw) _).setCell (p := ⟨gw, 0, none⟩) rfl _).setCell (p := ⟨gw, 1, none⟩) rfl _)
          have hWB := unhide HW
          replace HW := hide (hWB.trans ((unhide HKS).below hWB.size (fun b e => by omega)))
          clear hWB
          replace HB := hide ((unhide HB).kept (unhide HKS) (fun e => by omega))
          replace HO := hide ((unhide HO).kept (unhide HKS) (fun e => by omega))
          have HRS := hide ((unhide HIN _ (Kept.refl _ _)).below (below_kept (unhide HBA) (unhide HKS) (unhide HBA).size (fun b e => by omega)))
          go_simp
          clear rf0 r0 rf1 r1
          refine hK.out _ _ ⟨(unhide HB).cell (i := 0) rfl, (unhide HB).cell (i := 1) rfl, (unhide HO).cell (i := 0) rfl, (unhide HO).cell (i := 1) rfl, (unhide HO).cell (i := 2) rfl⟩ (fun hHeld => ?_)
          clear hK K
          try simp only [Act.put, List.setIfInBounds_toArray, List.set_cons_zero, List.set_cons_succ]
          refine wpAnyH_take (i := 11) (v := ?_) rfl (by kernel_rfl) (by kernel_rfl) (by kernel_rfl) (fun _ _ _ h => h) (Or.inl ⟨by rfl, ?_⟩) (by assumption) ?_
          rotate_left
          · intro wy hSw
            obtain ⟨hS0, hS1, hS2, hS3, hS4⟩ := hSw
            go_simp
            try with_reducible rfl
          try simp only [Act.put, List.getElem_toArray, List.getElem_cons_succ, List.getElem_cons_zero, List.setIfInBounds_toArray, List.set_cons_zero, List.set_cons_succ]
          refine wpAnyH_take (i := 12) (v := ?_) rfl (by kernel_rfl) (by kernel_rfl) (by kernel_rfl) (fun _ _ _ h => h) (Or.inl ⟨by rfl, ?_⟩) (by assumption) ?_
          rotate_left
          · intro wy hSw
            obtain ⟨hS0, hS1, hS2, hS3, hS4⟩ := hSw
            go_simp
            try with_reducible rfl
          try simp only [Act.put, List.getElem_toArray, List.getElem_cons_succ, List.getElem_cons_zero, List.setIfInBounds_toArray, List.set_cons_zero, List.set_cons_succ]
          refine wpAnyH_done (by kernel_rfl) ?_ _
          go_wp2_with fail
          go_meet
          exact ⟨gw, oa, on, oc, rfl, rfl, rfl, by omega, HW, HB, HO, HBN, HRS⟩
        · go_simp
          obtain ⟨gw, egw⟩ : ∃ z, z = wc1.heap.size := ⟨_, rfl⟩
          have hlgb := hlwc1
          rw [← egw] at hlgb
          obtain ⟨wb2, ewb2⟩ : ∃ z, z = wc1.alloc (.cells #[.int .i64 0, .slice none 0 0] 26) := ⟨_, rfl⟩
          have hb : Below wc1.heap.size wc1 wb2 := by rw [ewb2]; exact Below.alloc1 _ _
          have hlwb2 := Nat.le_trans hlwc1 hb.size
          have HBB : Hid (OwnV wb2 gw [.int .i64 0, .slice none 0 0]) := by rw [ewb2, egw]; exact ownV_alloc _ _ _
          rw [← ewb2, ← egw]
          replace HW := hide (Below.step (unhide HW) hb)
          replace HB := hide (OwnV.step (unhide HB) hb)
          replace HO := hide (OwnV.step (unhide HO) hb)
          replace HI := hide ((unhide HI).below hb)
          clear hb ewb2 egw
          refine hK.out _ _ ⟨(unhide HB).cell (i := 0) rfl, (unhide HB).cell (i := 1) rfl, (unhide HO).cell (i := 0) rfl, (unhide HO).cell (i := 1) rfl, (unhide HO).cell (i := 2) rfl⟩ (fun hHeld => ?_)
          clear hK K
          try simp only [Act.put, List.setIfInBounds_toArray, List.set_cons_zero, List.set_cons_succ]
          refine wpAnyH_ready (rs := [4]) (by kernel_rfl) (by simp) ?_
          refine AllReadyH.cons rfl (fun K hK => ?_) AllReadyH.nil
          go_simp
          have HCQ := hide (unhide HSQ _ wb2 (unhide HI))
          refine (unhide HCQ).mono ?_
          rintro e wc2a ⟨oa, on, oc, rfl, hin, hb⟩
          have hlwc2a := Nat.le_trans hlwb2 hb.size
          have hgbw := (unhide HBB).lt
          replace HW := hide (Below.step (unhide HW) hb)
          replace HB := hide (OwnV.step (unhide HB) hb)
          replace HO := hide (OwnV.step (unhide HO) hb)
          replace HI := hide ((unhide HI).below hb)
          replace HBB := hide (OwnV.step (unhide HBB) hb)
          try dsimp only at hin
          have HIN := hide hin
          clear hin
          try unfold yardV
          try dsimp only
          clear hb HCQ
          refine hK.out _ _ ⟨(unhide HB).cell (i := 0) rfl, (unhide HB).cell (i := 1) rfl, (unhide HO).cell (i := 0) rfl, (unhide HO).cell (i := 1) rfl, (unhide HO).cell (i := 2) rfl⟩ (fun hHeld => ?_)
          clear hK K
          try simp only [Act.put, List.setIfInBounds_toArray, List.set_cons_zero, List.set_cons_succ]
          refine wpAnyH_take (i := 5) (v := ?_) rfl (by kernel_rfl) (by kernel_rfl) (by kernel_rfl) (fun _ _ _ h => h) (Or.inl ⟨by rfl, ?_⟩) (by assumption) ?_
          rotate_left
          · intro wy hSw
            obtain ⟨hS0, hS1, hS2, hS3, hS4⟩ := hSw
            go_simp
            try with_reducible rfl
          try simp only [Act.put, List.getElem_toArray, List.getElem_cons_succ, List.getElem_cons_zero, List.setIfInBounds_toArray, List.set_cons_zero, List.set_cons_succ]
          refine wpAnyH_take (i := 6) (v := ?_) rfl (by kernel_rfl) (by kernel_rfl) (by kernel_rfl) (fun _ _ _ h => h) (Or.inl ⟨by rfl, ?_⟩) (by assumption) ?_
          rotate_left
          · intro wy hSw
            obtain ⟨hS0, hS1, hS2, hS3, hS4⟩ := hSw
            go_simp
            try with_reducible rfl
          try simp only [Act.put, List.getElem_toArray, List.getElem_cons_succ, List.getElem_cons_zero, List.setIfInBounds_toArray, List.set_cons_zero, List.set_cons_succ]
          refine wpAnyH_take (i := 7) (v := ?_) rfl (by kernel_rfl) (by kernel_rfl) (by kernel_rfl) (fun _ _ _ h => h) (Or.inl ⟨by rfl, ?_⟩) (by assumption) ?_
          rotate_left
          · intro wy hSw
            obtain ⟨hS0, hS1, hS2, hS3, hS4⟩ := hSw
            go_simp
            try with_reducible rfl
          try simp only [Act.put, List.getElem_toArray, List.getElem_cons_succ, List.getElem_cons_zero, List.setIfInBounds_toArray, List.set_cons_zero, List.set_cons_succ]
          refine wpAnyH_take (i := 8) (v := ?_) rfl (by kernel_rfl) (by kernel_rfl) (by kernel_rfl) (fun _ _ _ h => h) (Or.inl ⟨by rfl, ?_⟩) (by assumption) ?_
          rotate_left
          · intro wy hSw
            obtain ⟨hS0, hS1, hS2, hS3, hS4⟩ := hSw
            go_simp
            try with_reducible rfl
          try simp only [Act.put, List.getElem_toArray, List.getElem_cons_succ, List.getElem_cons_zero, List.setIfInBounds_toArray, List.set_cons_zero, List.set_cons_succ]
          refine wpAnyH_ready (rs := [10]) (by kernel_rfl) (by simp) ?_
          refine AllReadyH.cons rfl (fun K hK => ?_) AllReadyH.nil
          have rf0 := (unhide HBB).frozen 0
          have r0 := (unhide HBB).cell (i := 0) rfl
          have rf1 := (unhide HBB).frozen 1
          have r1 := (unhide HBB).cell (i := 1) rfl
          have HBN := hide (((unhide HBB).set 0 (.int .i64 s0) (by simp)).set 1 (.slice oa on oc) (by simp))
          have HKS : Hid (Kept (fun b => b = gw) wc2a ((wc2a.setCell ⟨gw, 0, none⟩ (.int .i64 s0)).setCell ⟨gw, 1, none⟩ (.slice oa on oc))) := (((Kept.refl (fun b => b = gw) _).setCell (p := ⟨gw, 0, none⟩) rfl _).setCell (p := ⟨gw, 1, none⟩) rfl _)
          have hWB := unhide HW
          replace HW := hide (hWB.trans ((unhide HKS).below hWB.size (fun b e => by omega)))
          clear hWB
          replace HB := hide ((unhide HB).kept (unhide HKS) (fun e => by omega))
          replace HO := hide ((unhide HO).kept (unhide HKS) (fun e => by omega))
          have HRS := hide (unhide HIN _ ((unhide HKS).mono (fun k _ e => by (have e : k = gw := e); show k < _; omega)))
          go_simp
          clear rf0 r0 rf1 r1
          refine hK.out _ _ ⟨(unhide HB).cell (i := 0) rfl, (unhide HB).cell (i := 1) rfl, (unhide HO).cell (i := 0) rfl, (unhide HO).cell (i := 1) rfl, (unhide HO).cell (i := 2) rfl⟩ (fun hHeld => ?_)
          clear hK K
          try simp only [Act.put, List.setIfInBounds_toArray, List.set_cons_zero, List.set_cons_succ]
          refine wpAnyH_take (i := 11) (v := ?_) rfl (by kernel_rfl) (by kernel_rfl) (by kernel_rfl) (fun _ _ _ h => h) (Or.inl ⟨by rfl, ?_⟩) (by assumption) ?_
          rotate_left
          · intro wy hSw
            obtain ⟨hS0, hS1, hS2, hS3, hS4⟩ := hSw
            go_simp
            try with_reducible rfl
          try simp only [Act.put, List.getElem_toArray, List.getElem_cons_succ, List.getElem_cons_zero, List.setIfInBounds_toArray, List.set_cons_zero, List.set_cons_succ]
          refine wpAnyH_take (i := 12) (v := ?_) rfl (by kernel_rfl) (by kernel_rfl) (by kernel_rfl) (fun _ _ _ h => h) (Or.inl ⟨by rfl, ?_⟩) (by assumption) ?_
          rotate_left
          · intro wy hSw
            obtain ⟨hS0, hS1, hS2, hS3, hS4⟩ := hSw
            go_simp
            try with_reducible rfl
          try simp only [Act.put, List.getElem_toArray, List.getElem_cons_succ, List.getElem_cons_zero, List.setIfInBounds_toArray, List.set_cons_zero, List.set_cons_succ]
          refine wpAnyH_done (by kernel_rfl) ?_ _
          go_wp2_with fail
          go_meet
          exact ⟨gw, oa, on, oc, rfl, rfl, rfl, by omega, HW, HB, HO, HBN, HRS⟩
      · go_simp
        obtain ⟨gw, egw⟩ : ∃ z, z = wc0.heap.size := ⟨_, rfl⟩
        have hlgb := hlwc0
        rw [← egw] at hlgb
        obtain ⟨wb1, ewb1⟩ : ∃ z, z = wc0.alloc (.cells #[.int .i64 0, .slice none 0 0] 26) := ⟨_, rfl⟩
        have hb : Below wc0.heap.size wc0 wb1 := by rw [ewb1]; exact Below.alloc1 _ _
        have hlwb1 := Nat.le_trans hlwc0 hb.size
        have HBB : Hid (OwnV wb1 gw [.int .i64 0, .slice none 0 0]) := by rw [ewb1, egw]; exact ownV_alloc _ _ _
        rw [← ewb1, ← egw]
        replace HW := hide (Below.step (unhide HW) hb)
        replace HB := hide (OwnV.step (unhide HB) hb)
        replace HO := hide (OwnV.step (unhide HO) hb)
        replace HI := hide ((unhide HI).below hb)
        clear hb ewb1 egw
        refine hK.out _ _ ⟨(unhide HB).cell (i := 0) rfl, (unhide HB).cell (i := 1) rfl, (unhide HO).cell (i := 0) rfl, (unhide HO).cell (i := 1) rfl, (unhide HO).cell (i := 2) rfl⟩ (fun hHeld => ?_)
        clear hK K
        try simp only [Act.put, List.setIfInBounds_toArray, List.set_cons_zero, List.set_cons_succ]
        refine wpAnyH_ready (rs := [3]) (by kernel_rfl) (by simp) ?_
        refine AllReadyH.cons rfl (fun K hK => ?_) AllReadyH.nil
        go_simp
        have HCQ := hide (unhide HTP wb1)
        refine (unhide HCQ).mono ?_
        rintro e wc1a ⟨rfl, hb⟩
        have hlwc1a := Nat.le_trans hlwb1 hb.size
        have hgbw := (unhide HBB).lt
        replace HW := hide (Below.step (unhide HW) hb)
        replace HB := hide (OwnV.step (unhide HB) hb)
        replace HO := hide (OwnV.step (unhide HO) hb)
        replace HI := hide ((unhide HI).below hb)
        replace HBB := hide (OwnV.step (unhide HBB) hb)
        clear hb HCQ
        refine hK.out _ _ ⟨(unhide HB).cell (i := 0) rfl, (unhide HB).cell (i := 1) rfl, (unhide HO).cell (i := 0) rfl, (unhide HO).cell (i := 1) rfl, (unhide HO).cell (i := 2) rfl⟩ (fun hHeld => ?_)
        clear hK K
        try simp only [Act.put, List.setIfInBounds_toArray, List.set_cons_zero, List.set_cons_succ]
        refine wpAnyH_ready (rs := [4]) (by kernel_rfl) (by simp) ?_
        refine AllReadyH.cons rfl (fun K hK => ?_) AllReadyH.nil
        go_simp
        have HCQ := hide (unhide HSQ _ wc1a (unhide HI))
        refine (unhide HCQ).mono ?_
        rintro e wc2a ⟨oa, on, oc, rfl, hin, hb⟩
        have hlwc2a := Nat.le_trans hlwc1a hb.size
        have hgbw := (unhide HBB).lt
        replace HW := hide (Below.step (unhide HW) hb)
        replace HB := hide (OwnV.step (unhide HB) hb)
        replace HO := hide (OwnV.step (unhide HO) hb)
        replace HI := hide ((unhide HI).below hb)
        replace HBB := hide (OwnV.step (unhide HBB) hb)
        try dsimp only at hin
        have HIN := hide hin
        clear hin
        try unfold yardV
        try dsimp only
        clear hb HCQ
        refine hK.out _ _ ⟨(unhide HB).cell (i := 0) rfl, (unhide HB).cell (i := 1) rfl, (unhide HO).cell (i := 0) rfl, (unhide HO).cell (i := 1) rfl, (unhide HO).cell (i := 2) rfl⟩ (fun hHeld => ?_)
        clear hK K
        try simp only [Act.put, List.setIfInBounds_toArray, List.set_cons_zero, List.set_cons_succ]
        refine wpAnyH_take (i := 5) (v := ?_) rfl (by kernel_rfl) (by kernel_rfl) (by kernel_rfl) (fun _ _ _ h => h) (Or.inl ⟨by rfl, ?_⟩) (by assumption) ?_
        rotate_left
        · intro wy hSw
          obtain ⟨hS0, hS1, hS2, hS3, hS4⟩ := hSw
          go_simp
          try with_reducible rfl
        try simp only [Act.put, List.getElem_toArray, List.getElem_cons_succ, List.getElem_cons_zero, List.setIfInBounds_toArray, List.set_cons_zero, List.set_cons_succ]
        refine wpAnyH_take (i := 6) (v := ?_) rfl (by kernel_rfl) (by kernel_rfl) (by kernel_rfl) (fun _ _ _ h => h) (Or.inl ⟨by rfl, ?_⟩) (by assumption) ?_
        rotate_left
        · intro wy hSw
          obtain ⟨hS0, hS1, hS2, hS3, hS4⟩ := hSw
          go_simp
          try with_reducible rfl
        try simp only [Act.put, List.getElem_toArray, List.getElem_cons_succ, List.getElem_cons_zero, List.setIfInBounds_toArray, List.set_cons_zero, List.set_cons_succ]
        refine wpAnyH_take (i := 7) (v := ?_) rfl (by kernel_rfl) (by kernel_rfl) (by kernel_rfl) (fun _ _ _ h => h) (Or.inl ⟨by rfl, ?_⟩) (by assumption) ?_
        rotate_left
        · intro wy hSw
          obtain ⟨hS0, hS1, hS2, hS3, hS4⟩ := hSw
          go_simp
          try with_reducible rfl
        try simp only [Act.put, List.getElem_toArray, List.getElem_cons_succ, List.getElem_cons_zero, List.setIfInBounds_toArray, List.set_cons_zero, List.set_cons_succ]
        refine wpAnyH_take (i := 8) (v := ?_) rfl (by kernel_rfl) (by kernel_rfl) (by kernel_rfl) (fun _ _ _ h => h) (Or.inl ⟨by rfl, ?_⟩) (by assumption) ?_
        rotate_left
        · intro wy hSw
          obtain ⟨hS0, hS1, hS2, hS3, hS4⟩ := hSw
          go_simp
          try with_reducible rfl
        try simp only [Act.put, List.getElem_toArray, List.getElem_cons_succ, List.getElem_cons_zero, List.setIfInBounds_toArray, List.set_cons_zero, List.set_cons_succ]
        refine wpAnyH_ready (rs := [10]) (by kernel_rfl) (by simp) ?_
        refine AllReadyH.cons rfl (fun K hK => ?_) AllReadyH.nil
        have rf0 := (unhide HBB).frozen 0
        have r0 := (unhide HBB).cell (i := 0) rfl
        have rf1 := (unhide HBB).frozen 1
        have r1 := (unhide HBB).cell (i := 1) rfl
        have HBN := hide (((unhide HBB).set 0 (.int .i64 s0) (by simp)).set 1 (.slice oa on oc) (by simp))
        have HKS : Hid (Kept (fun b => b = gw) wc2a ((wc2a.setCell ⟨gw, 0, none⟩ (.int .i64 s0)).setCell ⟨gw, 1, none⟩ (.slice oa on oc))) := (((Kept.refl (fun b => b = gw) _).setCell (p := ⟨gw, 0, none⟩) rfl _).setCell (p := ⟨gw, 1, none⟩) rfl _)
        have hWB := unhide HW
        replace HW := hide (hWB.trans ((unhide HKS).below hWB.size (fun b e => by omega)))
        clear hWB
        replace HB := hide ((unhide HB).kept (unhide HKS) (fun e => by omega))
        replace HO := hide ((unhide HO).kept (unhide HKS) (fun e => by omega))
        have HRS := hide (unhide HIN _ ((unhide HKS).mono (fun k _ e => by (have e : k = gw := e); show k < _; omega)))
        go_simp
        clear rf0 r0 rf1 r1
        refine hK.out _ _ ⟨(unhide HB).cell (i := 0) rfl, (unhide HB).cell (i := 1) rfl, (unhide HO).cell (i := 0) rfl, (unhide HO).cell (i := 1) rfl, (unhide HO).cell (i := 2) rfl⟩ (fun hHeld => ?_)
        clear hK K
        try simp only [Act.put, List.setIfInBounds_toArray, List.set_cons_zero, List.set_cons_succ]
        refine wpAnyH_take (i := 11) (v := ?_) rfl (by kernel_rfl) (by kernel_rfl) (by kernel_rfl) (fun _ _ _ h => h) (Or.inl ⟨by rfl, ?_⟩) (by assumption) ?_
        rotate_left
        · intro wy hSw
          obtain ⟨hS0, hS1, hS2, hS3, hS4⟩ := hSw
          go_simp
          try with_reducible rfl
        try simp only [Act.put, List.getElem_toArray, List.getElem_cons_succ, List.getElem_cons_zero, List.setIfInBounds_toArray, List.set_cons_zero, List.set_cons_succ]
        refine wpAnyH_take (i := 12) (v := ?_) rfl (by kernel_rfl) (by kernel_rfl) (by kernel_rfl) (fun _ _ _ h => h) (Or.inl ⟨by rfl, ?_⟩) (by assumption) ?_
        rotate_left
        · intro wy hSw
          obtain ⟨hS0, hS1, hS2, hS3, hS4⟩ := hSw
          go_simp
          try with_reducible rfl
        try simp only [Act.put, List.getElem_toArray, List.getElem_cons_succ, List.getElem_cons_zero, List.setIfInBounds_toArray, List.set_cons_zero, List.set_cons_succ]
        refine wpAnyH_done (by kernel_rfl) ?_ _
        go_wp2_with fail
        go_meet
        exact ⟨gw, oa, on, oc, rfl, rfl, rfl, by omega, HW, HB, HO, HBN, HRS⟩
    · go_simp
      obtain ⟨gw, egw⟩ : ∃ z, z = wd.heap.size := ⟨_, rfl⟩
      have hlgb := hlwd
      rw [← egw] at hlgb
      obtain ⟨wb0, ewb0⟩ : ∃ z, z = wd.alloc (.cells #[.int .i64 0, .slice none 0 0] 26) := ⟨_, rfl⟩
      have hb : Below wd.heap.size wd wb0 := by rw [ewb0]; exact Below.alloc1 _ _
      have hlwb0 := Nat.le_trans hlwd hb.size
      have HBB : Hid (OwnV wb0 gw [.int .i64 0, .slice none 0 0]) := by rw [ewb0, egw]; exact ownV_alloc _ _ _
      rw [← ewb0, ← egw]
      replace HW := hide (Below.step (unhide HW) hb)
      replace HB := hide (OwnV.step (unhide HB) hb)
      replace HO := hide (OwnV.step (unhide HO) hb)
      clear hb ewb0 egw
      refine hK.out _ _ ⟨(unhide HB).cell (i := 0) rfl, (unhide HB).cell (i := 1) rfl, (unhide HO).cell (i := 0) rfl, (unhide HO).cell (i := 1) rfl, (unhide HO).cell (i := 2) rfl⟩ (fun hHeld => ?_)
      clear hK K
      try simp only [Act.put, List.setIfInBounds_toArray, List.set_cons_zero, List.set_cons_succ]
      refine wpAnyH_ready (rs := [1]) (by kernel_rfl) (by simp) ?_
      refine AllReadyH.cons rfl (fun K hK => ?_) AllReadyH.nil
      go_simp
      have HCQ := hide (unhide HTO wb0 (unhide HW))
      refine (unhide HCQ).mono ?_
      rintro e wc0a ⟨g7, G7, C7, rfl, ho7, hb⟩
      have hlwc0a := Nat.le_trans hlwb0 hb.size
      have hgbw := (unhide HBB).lt
      replace HW := hide (Below.step (unhide HW) hb)
      replace HB := hide (OwnV.step (unhide HB) hb)
      replace HO := hide (OwnV.step (unhide HO) hb)
      replace HBB := hide (OwnV.step (unhide HBB) hb)
      have HI := hide (OwnRows.rowsIn ho7 (Nat.le_refl _) (by unfold maxLen; omega))
      clear ho7
      clear hb HCQ
      refine hK.out _ _ ⟨(unhide HB).cell (i := 0) rfl, (unhide HB).cell (i := 1) rfl, (unhide HO).cell (i := 0) rfl, (unhide HO).cell (i := 1) rfl, (unhide HO).cell (i := 2) rfl⟩ (fun hHeld => ?_)
      clear hK K
      try simp only [Act.put, List.setIfInBounds_toArray, List.set_cons_zero, List.set_cons_succ]
      refine wpAnyH_ready (rs := [3]) (by kernel_rfl) (by simp) ?_
      refine AllReadyH.cons rfl (fun K hK => ?_) AllReadyH.nil
      go_simp
      have HCQ := hide (unhide HTP wc0a)
      refine (unhide HCQ).mono ?_
      rintro e wc1a ⟨rfl, hb⟩
      have hlwc1a := Nat.le_trans hlwc0a hb.size
      have hgbw := (unhide HBB).lt
      replace HW := hide (Below.step (unhide HW) hb)
      replace HB := hide (OwnV.step (unhide HB) hb)
      replace HO := hide (OwnV.step (unhide HO) hb)
      replace HBB := hide (OwnV.step (unhide HBB) hb)
      replace HI := hide ((unhide HI).below hb)
      clear hb HCQ
      refine hK.out _ _ ⟨(unhide HB).cell (i := 0) rfl, (unhide HB).cell (i := 1) rfl, (unhide HO).cell (i := 0) rfl, (unhide HO).cell (i := 1) rfl, (unhide HO).cell (i := 2) rfl⟩ (fun hHeld => ?_)
      clear hK K
      try simp only [Act.put, List.setIfInBounds_toArray, List.set_cons_zero, List.set_cons_succ]
      refine wpAnyH_ready (rs := [4]) (by kernel_rfl) (by simp) ?_
      refine AllReadyH.cons rfl (fun K hK => ?_) AllReadyH.nil
      go_simp
      have HCQ := hide (unhide HSQ _ wc1a (unhide HI))
      refine (unhide HCQ).mono ?_
      rintro e wc2a ⟨oa, on, oc, rfl, hin, hb⟩
      have hlwc2a := Nat.le_trans hlwc1a hb.size
      have hgbw := (unhide HBB).lt
      replace HW := hide (Below.step (unhide HW) hb)
      replace HB := hide (OwnV.step (unhide HB) hb)
      replace HO := hide (OwnV.step (unhide HO) hb)
      replace HBB := hide (OwnV.step (unhide HBB) hb)
      replace HI := hide ((unhide HI).below hb)
      try dsimp only at hin
      have HIN := hide hin
      clear hin
      try unfold yardV
      try dsimp only
      clear hb HCQ
      refine hK.out _ _ ⟨(unhide HB).cell (i := 0) rfl, (unhide HB).cell (i := 1) rfl, (unhide HO).cell (i := 0) rfl, (unhide HO).cell (i := 1) rfl, (unhide HO).cell (i := 2) rfl⟩ (fun hHeld => ?_)
      clear hK K
      try simp only [Act.put, List.setIfInBounds_toArray, List.set_cons_zero, List.set_cons_succ]
      refine wpAnyH_take (i := 5) (v := ?_) rfl (by kernel_rfl) (by kernel_rfl) (by kernel_rfl) (fun _ _ _ h => h) (Or.inl ⟨by rfl, ?_⟩) (by assumption) ?_
      rotate_left
      · intro wy hSw
        obtain ⟨hS0, hS1, hS2, hS3, hS4⟩ := hSw
        go_simp
        try with_reducible rfl
      try simp only [Act.put, List.getElem_toArray, List.getElem_cons_succ, List.getElem_cons_zero, List.setIfInBounds_toArray, List.set_cons_zero, List.set_cons_succ]
      refine wpAnyH_take (i := 6) (v := ?_) rfl (by kernel_rfl) (by kernel_rfl) (by kernel_rfl) (fun _ _ _ h => h) (Or.inl ⟨by rfl, ?_⟩) (by assumption) ?_
      rotate_left
      · intro wy hSw
        obtain ⟨hS0, hS1, hS2, hS3, hS4⟩ := hSw
        go_simp
        try with_reducible rfl
      try simp only [Act.put, List.getElem_toArray, List.getElem_cons_succ, List.getElem_cons_zero, List.setIfInBounds_toArray, List.set_cons_zero, List.set_cons_succ]
      refine wpAnyH_take (i := 7) (v := ?_) rfl (by kernel_rfl) (by kernel_rfl) (by kernel_rfl) (fun _ _ _ h => h) (Or.inl ⟨by rfl, ?_⟩) (by assumption) ?_
      rotate_left
      · intro wy hSw
        obtain ⟨hS0, hS1, hS2, hS3, hS4⟩ := hSw
        go_simp
        try with_reducible rfl
      try simp only [Act.put, List.getElem_toArray, List.getElem_cons_succ, List.getElem_cons_zero, List.setIfInBounds_toArray, List.set_cons_zero, List.set_cons_succ]
      refine wpAnyH_take (i := 8) (v := ?_) rfl (by kernel_rfl) (by kernel_rfl) (by kernel_rfl) (fun _ _ _ h => h) (Or.inl ⟨by rfl, ?_⟩) (by assumption) ?_
      rotate_left
      · intro wy hSw
        obtain ⟨hS0, hS1, hS2, hS3, hS4⟩ := hSw
        go_simp
        try with_reducible rfl
      try simp only [Act.put, List.getElem_toArray, List.getElem_cons_succ, List.getElem_cons_zero, List.setIfInBounds_toArray, List.set_cons_zero, List.set_cons_succ]
      refine wpAnyH_ready (rs := [10]) (by kernel_rfl) (by simp) ?_
      refine AllReadyH.cons rfl (fun K hK => ?_) AllReadyH.nil
      have rf0 := (unhide HBB).frozen 0
      have r0 := (unhide HBB).cell (i := 0) rfl
      have rf1 := (unhide HBB).frozen 1
      have r1 := (unhide HBB).cell (i := 1) rfl
      have HBN := hide (((unhide HBB).set 0 (.int .i64 s0) (by simp)).set 1 (.slice oa on oc) (by simp))
      have HKS : Hid (Kept (fun b => b = gw) wc2a ((wc2a.setCell ⟨gw, 0, none⟩ (.int .i64 s0)).setCell ⟨gw, 1, none⟩ (.slice oa on oc))) := (((Kept.refl (fun b => b = gw) _).setCell (p := ⟨gw, 0, none⟩) rfl _).setCell (p := ⟨gw, 1, none⟩) rfl _)
      have hWB := unhide HW
      replace HW := hide (hWB.trans ((unhide HKS).below hWB.size (fun b e => by omega)))
      clear hWB
      replace HB := hide ((unhide HB).kept (unhide HKS) (fun e => by omega))
      replace HO := hide ((unhide HO).kept (unhide HKS) (fun e => by omega))
      have HRS := hide (unhide HIN _ ((unhide HKS).mono (fun k _ e => by (have e : k = gw := e); show k < _; omega)))
      go_simp
      clear rf0 r0 rf1 r1
      refine hK.out _ _ ⟨(unhide HB).cell (i := 0) rfl, (unhide HB).cell (i := 1) rfl, (unhide HO).cell (i := 0) rfl, (unhide HO).cell (i := 1) rfl, (unhide HO).cell (i := 2) rfl⟩ (fun hHeld => ?_)
      clear hK K
      try simp only [Act.put, List.setIfInBounds_toArray, List.set_cons_zero, List.set_cons_succ]
      refine wpAnyH_take (i := 11) (v := ?_) rfl (by kernel_rfl) (by kernel_rfl) (by kernel_rfl) (fun _ _ _ h => h) (Or.inl ⟨by rfl, ?_⟩) (by assumption) ?_
      rotate_left
      · intro wy hSw
        obtain ⟨hS0, hS1, hS2, hS3, hS4⟩ := hSw
        go_simp
        try with_reducible rfl
      try simp only [Act.put, List.getElem_toArray, List.getElem_cons_succ, List.getElem_cons_zero, List.setIfInBounds_toArray, List.set_cons_zero, List.set_cons_succ]
      refine wpAnyH_take (i := 12) (v := ?_) rfl (by kernel_rfl) (by kernel_rfl) (by kernel_rfl) (fun _ _ _ h => h) (Or.inl ⟨by rfl, ?_⟩) (by assumption) ?_
      rotate_left
      · intro wy hSw
        obtain ⟨hS0, hS1, hS2, hS3, hS4⟩ := hSw
        go_simp
        try with_reducible rfl
      try simp only [Act.put, List.getElem_toArray, List.getElem_cons_succ, List.getElem_cons_zero, List.setIfInBounds_toArray, List.set_cons_zero, List.set_cons_succ]
      refine wpAnyH_done (by kernel_rfl) ?_ _
      go_wp2_with fail
      go_meet
      exact ⟨gw, oa, on, oc, rfl, rfl, rfl, by omega, HW, HB, HO, HBN, HRS⟩
  case rest =>
    clear HW HB HO
    obtain ⟨gw, oa, on, oc, rfl, rfl, rfl, hgw, HW, HB, HO, HWB, HSP⟩ := hcut
    obtain ⟨Z5, eZ5⟩ : ∃ z, z = wc := ⟨_, rfl⟩
    have HZ : Hid (Below Z5.heap.size Z5 wc) := by rw [eZ5]; exact Below.refl _ _
    rw [← eZ5] at HSP
    have hgwl : gw < Z5.heap.size := by rw [eZ5]; exact (unhide HWB).lt
    clear eZ5
    have b0 := (unhide HB).cell (i := 0) rfl
    have b1 := (unhide HB).cell (i := 1) rfl
    go_wp2_with fail
    refine (unhide HTO _ (unhide HW)).mono ?_
    rintro e W6 ⟨gx, Gx, Cx, rfl, ho, hb⟩
    have hzx := (unhide HZ).size
    obtain ⟨Bx, eBx⟩ : ∃ z, z = wc.heap.size := ⟨_, rfl⟩
    rw [← eBx] at ho hzx
    have hU := OwnRows.upto ho hsn
    obtain ⟨Ux, eUx⟩ : ∃ z, z = W6.heap.size := ⟨_, rfl⟩
    rw [← eUx] at hU
    have HX := hide hU
    have hBU : Bx ≤ Ux := by rw [eBx, eUx]; exact hb.size
    replace HW := hide (Below.step (unhide HW) hb)
    replace HB := hide (OwnV.step (unhide HB) hb)
    replace HO := hide (OwnV.step (unhide HO) hb)
    replace HWB := hide (OwnV.step (unhide HWB) hb)
    replace HZ := hide (Below.step (unhide HZ) hb)
    clear hb ho hU b0 b1 eBx
    go_upto_region 7 with (fail)
    obtain ⟨W7, eW⟩ : ∃ z, z = W6.alloc (.cells #[.int .i64 s0, .slice (some ⟨gx, 0, none⟩) R.length R.length] 26) := ⟨_, rfl⟩
    have hb : Below W6.heap.size W6 W7 := by rw [eW]; exact Below.alloc1 _ _
    have HXB : Hid (OwnV W7 Ux [.int .i64 s0, .slice (some ⟨gx, 0, none⟩) R.length R.length]) := by rw [eW, eUx]; exact ownV_alloc _ _ _
    rw [← eW, ← eUx]
    replace HW := hide (Below.step (unhide HW) hb)
    replace HB := hide (OwnV.step (unhide HB) hb)
    replace HO := hide (OwnV.step (unhide HO) hb)
    replace HWB := hide (OwnV.step (unhide HWB) hb)
    replace HZ := hide (Below.step (unhide HZ) hb)
    replace HX := hide ((unhide HX).below hb)
    clear hb eW eUx
    go_cut [10, 11, 12] (fun s10 s11 s12 wx => ∃ (gg gz cz Bz Uz : Nat), s10 = .pointer (some ⟨gg, 0, none⟩) ∧ s11 = .int .i64 D2 ∧ s12 = .int .i64 D3 ∧ Ux < gg ∧ Ux < Bz ∧ (gg < Bz ∨ Uz ≤ gg) ∧ Hid (Uz ≤ wx.heap.size) ∧ Hid (Below w.heap.size w wx) ∧ Hid (Below Z5.heap.size Z5 wx) ∧ Hid (OwnV wx g0 [.int .i64 s0, .slice ao R.length cap]) ∧ Hid (OwnV wx (g0 + 1) [.int .i64 k1, .int .i64 b1, .int .i64 c1]) ∧ Hid (OwnV wx gw [.int .i64 s0, .slice oa on oc]) ∧ Hid (OwnV wx Ux [.int .i64 s0, .slice (some ⟨gx, 0, none⟩) R.length R.length]) ∧ Hid (OwnRowsU Bx Ux wx (.slice (some ⟨gx, 0, none⟩) R.length R.length) R) ∧ Hid (OwnV wx gg [.int .i64 s0, .slice (some ⟨gz, 0, none⟩) D1.length cz]) ∧ Hid (OwnRowsU Bz Uz wx (.slice (some ⟨gz, 0, none⟩) D1.length cz) D1))
    case first =>
      obtain ⟨gm, egm⟩ : ∃ z, z = W7.heap.size := ⟨_, rfl⟩
      have lm0 : Ux < gm := by rw [egm]; exact (unhide HXB).lt
      have lm1 : g0 + 1 < gm := by rw [egm]; exact (unhide HO).lt
      have lm2 : gw < gm := by rw [egm]; exact (unhide HWB).lt
      have lm3 : Z5.heap.size ≤ gm := by rw [egm]; exact (unhide HZ).size
      have lm4 : w.heap.size ≤ gm := by rw [egm]; exact (unhide HW).size
      have hlow : gm ≤ W7.heap.size := Nat.le_of_eq egm
      clear egm
      obtain ⟨wd, ewd⟩ : ∃ z, z = W7.drew := ⟨_, rfl⟩
      have hb : Below W7.heap.size W7 wd := by rw [ewd]; exact (Below.refl _ _).drew
      have hlwd := Nat.le_trans hlow hb.size
      replace HW := hide (Below.step (unhide HW) hb)
      replace HZ := hide (Below.step (unhide HZ) hb)
      replace HB := hide (OwnV.step (unhide HB) hb)
      replace HO := hide (OwnV.step (unhide HO) hb)
      replace HWB := hide (OwnV.step (unhide HWB) hb)
      replace HXB := hide (OwnV.step (unhide HXB) hb)
      replace HX := hide ((unhide HX).below hb)
      clear hb hlow
      refine wp_region_held_drew (S := fun w' => w'.cell? ⟨Ux, 0, none⟩ = some (.int .i64 s0) ∧ w'.cell? ⟨Ux, 1, none⟩ = some (.slice (some ⟨gx, 0, none⟩) R.length R.length) ∧ w'.cell? ⟨g0 + 1, 0, none⟩ = some (.int .i64 k1) ∧ w'.cell? ⟨g0 + 1, 1, none⟩ = some (.int .i64 b1) ∧ w'.cell? ⟨g0 + 1, 2, none⟩ = some (.int .i64 c1)) (by kernel_rfl) ⟨by rw [← ewd]; exact (unhide HXB).cell (i := 0) rfl, by rw [← ewd]; exact (unhide HXB).cell (i := 1) rfl, by rw [← ewd]; exact (unhide HO).cell (i := 0) rfl, by rw [← ewd]; exact (unhide HO).cell (i := 1) rfl, by rw [← ewd]; exact (unhide HO).cell (i := 2) rfl⟩ (fun hHeld => ?_)
      rw [← ewd] at hHeld ⊢
      clear ewd
      refine wpAnyH_take (i := 0) (v := ?_) rfl (by kernel_rfl) (by kernel_rfl) (by kernel_rfl) (fun _ _ _ h => h) (Or.inl ⟨by rfl, ?_⟩) (by assumption) ?_
      rotate_left
      · intro wy hSw
        obtain ⟨hS0, hS1, hS2, hS3, hS4⟩ := hSw
        go_simp
        try with_reducible rfl
      try simp only [Act.put, List.getElem_toArray, List.getElem_cons_zero, List.setIfInBounds_toArray, List.set_cons_zero, List.set_cons_succ]
      refine wpAnyH_take (i := 1) (v := ?_) rfl (by kernel_rfl) (by kernel_rfl) (by kernel_rfl) (fun _ _ _ h => h) (Or.inl ⟨by rfl, ?_⟩) (by assumption) ?_
      rotate_left
      · intro wy hSw
        obtain ⟨hS0, hS1, hS2, hS3, hS4⟩ := hSw
        go_simp
        try with_reducible rfl
      try simp only [Act.put, List.getElem_toArray, List.getElem_cons_succ, List.getElem_cons_zero, List.setIfInBounds_toArray, List.set_cons_zero, List.set_cons_succ]
      refine wpAnyH_ready (rs := [2, 8]) (by kernel_rfl) (by simp) ?_
      refine AllReadyH.cons rfl (fun K hK => ?_) (AllReadyH.cons rfl (fun K hK => ?_) AllReadyH.nil)
      · go_simp
        have HCQ := hide (unhide HTP wd)
        refine (unhide HCQ).mono ?_
        rintro e wc0 ⟨rfl, hb⟩
        have hlwc0 := Nat.le_trans hlwd hb.size
        replace HW := hide (Below.step (unhide HW) hb)
        replace HZ := hide (Below.step (unhide HZ) hb)
        replace HB := hide (OwnV.step (unhide HB) hb)
        replace HO := hide (OwnV.step (unhide HO) hb)
        replace HWB := hide (OwnV.step (unhide HWB) hb)
        replace HXB := hide (OwnV.step (unhide HXB) hb)
        replace HX := hide ((unhide HX).below hb)
        clear hb HCQ
        refine hK.out _ _ ⟨(unhide HXB).cell (i := 0) rfl, (unhide HXB).cell (i := 1) rfl, (unhide HO).cell (i := 0) rfl, (unhide HO).cell (i := 1) rfl, (unhide HO).cell (i := 2) rfl⟩ (fun hHeld => ?_)
        clear hK K
        try simp only [Act.put, List.setIfInBounds_toArray, List.set_cons_zero, List.set_cons_succ]
        refine wpAnyH_ready (rs := [3, 8]) (by kernel_rfl) (by simp) ?_
        refine AllReadyH.cons rfl (fun K hK => ?_) (AllReadyH.cons rfl (fun K hK => ?_) AllReadyH.nil)
        · go_simp
          have HCQ := hide (unhide HPQ _ wc0 (unhide HX).inn)
          refine (unhide HCQ).mono ?_
          rintro e wc1 ⟨gz, Gz, Cz, cz, rfl, hz1, hz2, hOR, hb⟩
          have hlwc1 := Nat.le_trans hlwc0 hb.size
          replace HW := hide (Below.step (unhide HW) hb)
          replace HZ := hide (Below.step (unhide HZ) hb)
          replace HB := hide (OwnV.step (unhide HB) hb)
          replace HO := hide (OwnV.step (unhide HO) hb)
          replace HWB := hide (OwnV.step (unhide HWB) hb)
          replace HXB := hide (OwnV.step (unhide HXB) hb)
          replace HX := hide ((unhide HX).below hb)
          have hU := OwnRowsV.upto (Or.inr ⟨gz, Gz, Cz, cz, rfl, hz1, hz2, hOR⟩)
          dsimp only at hU
          obtain ⟨Bz, eBz⟩ : ∃ z, z = wc0.heap.size := ⟨_, rfl⟩
          obtain ⟨Uz, eUz⟩ : ∃ z, z = wc1.heap.size := ⟨_, rfl⟩
          rw [← eBz, ← eUz] at hU
          have HQ := hide hU
          have hlBz : gm ≤ Bz := by rw [eBz]; exact hlwc0
          try (have hgB : gg < Bz := by rw [eBz]; exact hgbw)
          have HUZ : Hid (Uz ≤ wc1.heap.size) := Nat.le_of_eq eUz
          have EUZ := hide eUz
          clear hU hOR hz1 hz2 eBz eUz
          try unfold yardV
          try dsimp only
          clear hb HCQ
          refine hK.out _ _ ⟨(unhide HXB).cell (i := 0) rfl, (unhide HXB).cell (i := 1) rfl, (unhide HO).cell (i := 0) rfl, (unhide HO).cell (i := 1) rfl, (unhide HO).cell (i := 2) rfl⟩ (fun hHeld => ?_)
          clear hK K
          try simp only [Act.put, List.setIfInBounds_toArray, List.set_cons_zero, List.set_cons_succ]
          refine wpAnyH_take (i := 4) (v := ?_) rfl (by kernel_rfl) (by kernel_rfl) (by kernel_rfl) (fun _ _ _ h => h) (Or.inl ⟨by rfl, ?_⟩) (by assumption) ?_
          rotate_left
          · intro wy hSw
            obtain ⟨hS0, hS1, hS2, hS3, hS4⟩ := hSw
            go_simp
            try with_reducible rfl
          try simp only [Act.put, List.getElem_toArray, List.getElem_cons_succ, List.getElem_cons_zero, List.setIfInBounds_toArray, List.set_cons_zero, List.set_cons_succ]
          refine wpAnyH_take (i := 5) (v := ?_) rfl (by kernel_rfl) (by kernel_rfl) (by kernel_rfl) (fun _ _ _ h => h) (Or.inl ⟨by rfl, ?_⟩) (by assumption) ?_
          rotate_left
          · intro wy hSw
            obtain ⟨hS0, hS1, hS2, hS3, hS4⟩ := hSw
            go_simp
            try with_reducible rfl
          try simp only [Act.put, List.getElem_toArray, List.getElem_cons_succ, List.getElem_cons_zero, List.setIfInBounds_toArray, List.set_cons_zero, List.set_cons_succ]
          refine wpAnyH_take (i := 6) (v := ?_) rfl (by kernel_rfl) (by kernel_rfl) (by kernel_rfl) (fun _ _ _ h => h) (Or.inl ⟨by rfl, ?_⟩) (by assumption) ?_
          rotate_left
          · intro wy hSw
            obtain ⟨hS0, hS1, hS2, hS3, hS4⟩ := hSw
            go_simp
            try with_reducible rfl
          try simp only [Act.put, List.getElem_toArray, List.getElem_cons_succ, List.getElem_cons_zero, List.setIfInBounds_toArray, List.set_cons_zero, List.set_cons_succ]
          refine wpAnyH_take (i := 7) (v := ?_) rfl (by kernel_rfl) (by kernel_rfl) (by kernel_rfl) (fun _ _ _ h => h) (Or.inl ⟨by rfl, ?_⟩) (by assumption) ?_
          rotate_left
          · intro wy hSw
            obtain ⟨hS0, hS1, hS2, hS3, hS4⟩ := hSw
            go_simp
            try with_reducible rfl
          try simp only [Act.put, List.getElem_toArray, List.getElem_cons_succ, List.getElem_cons_zero, List.setIfInBounds_toArray, List.set_cons_zero, List.set_cons_succ]
          refine wpAnyH_ready (rs := [8]) (by kernel_rfl) (by simp) ?_
          refine AllReadyH.cons rfl (fun K hK => ?_) AllReadyH.nil
          go_simp
          obtain ⟨gg, egg⟩ : ∃ z, z = wc1.heap.size := ⟨_, rfl⟩
          have hlgb := hlwc1
          rw [← egg] at hlgb
          obtain ⟨wb2, ewb2⟩ : ∃ z, z = wc1.alloc (.cells #[.int .i64 0, .slice none 0 0] 26) := ⟨_, rfl⟩
          have hb : Below wc1.heap.size wc1 wb2 := by rw [ewb2]; exact Below.alloc1 _ _
          have hlwb2 := Nat.le_trans hlwc1 hb.size
          have HBB : Hid (OwnV wb2 gg [.int .i64 0, .slice none 0 0]) := by rw [ewb2, egg]; exact ownV_alloc _ _ _
          rw [← ewb2, ← egg]
          replace HW := hide (Below.step (unhide HW) hb)
          replace HZ := hide (Below.step (unhide HZ) hb)
          replace HB := hide (OwnV.step (unhide HB) hb)
          replace HO := hide (OwnV.step (unhide HO) hb)
          replace HWB := hide (OwnV.step (unhide HWB) hb)
          replace HXB := hide (OwnV.step (unhide HXB) hb)
          replace HX := hide ((unhide HX).below hb)
          replace HQ := hide ((unhide HQ).below hb)
          replace HUZ := hide (Nat.le_trans (unhide HUZ) hb.size)
          have HBA := hide hb
          have hgq : wc1.heap.size ≤ gg := Nat.le_of_eq egg.symm
          have hgU : Uz ≤ gg := by rw [unhide EUZ, egg]; exact Nat.le_refl _
          clear hb ewb2 egg
          refine hK.out _ _ ⟨(unhide HXB).cell (i := 0) rfl, (unhide HXB).cell (i := 1) rfl, (unhide HO).cell (i := 0) rfl, (unhide HO).cell (i := 1) rfl, (unhide HO).cell (i := 2) rfl⟩ (fun hHeld => ?_)
          clear hK K
          try simp only [Act.put, List.setIfInBounds_toArray, List.set_cons_zero, List.set_cons_succ]
          refine wpAnyH_ready (rs := [9]) (by kernel_rfl) (by simp) ?_
          refine AllReadyH.cons rfl (fun K hK => ?_) AllReadyH.nil
          have rf0 := (unhide HBB).frozen 0
          have r0 := (unhide HBB).cell (i := 0) rfl
          have rf1 := (unhide HBB).frozen 1
          have r1 := (unhide HBB).cell (i := 1) rfl
          have HBN := hide (((unhide HBB).set 0 (.int .i64 s0) (by simp)).set 1 (.slice (some ⟨gz, 0, none⟩) D1.length cz) (by simp))
          have HKS : Hid (Kept (fun b => b = gg) wb2 ((wb2.setCell ⟨gg, 0, none⟩ (.int .i64 s0)).setCell ⟨gg, 1, none⟩ (.slice (some ⟨gz, 0, none⟩) D1.length cz))) := (((Kept.refl (fun b => b = gg) _).setCell (p := ⟨gg, 0, none⟩) rfl _).setCell (p := ⟨gg, 1, none⟩) rfl _)
          have hWB := unhide HW
          replace HW := hide (hWB.trans ((unhide HKS).below hWB.size (fun b e => by omega)))
          clear hWB
          have hWB := unhide HZ
          replace HZ := hide (hWB.trans ((unhide HKS).below hWB.size (fun b e => by omega)))
          clear hWB
          replace HB := hide ((unhide HB).kept (unhide HKS) (fun e => by omega))
          replace HO := hide ((unhide HO).kept (unhide HKS) (fun e => by omega))
          replace HWB := hide ((unhide HWB).kept (unhide HKS) (fun e => by omega))
          replace HXB := hide ((unhide HXB).kept (unhide HKS) (fun e => by omega))
          replace HX := hide ((unhide HX).kept (unhide HKS) (fun b h1 h2 e => by omega))
          replace HQ := hide ((unhide HQ).kept (unhide HKS) (fun b h1 h2 e => by omega))
          replace HUZ := hide (Nat.le_trans (unhide HUZ) (unhide HKS).size)
          go_simp
          clear rf0 r0 rf1 r1
          refine hK.out _ _ ⟨(unhide HXB).cell (i := 0) rfl, (unhide HXB).cell (i := 1) rfl, (unhide HO).cell (i := 0) rfl, (unhide HO).cell (i := 1) rfl, (unhide HO).cell (i := 2) rfl⟩ (fun hHeld => ?_)
          clear hK K
          try simp only [Act.put, List.setIfInBounds_toArray, List.set_cons_zero, List.set_cons_succ]
          refine wpAnyH_take (i := 10) (v := ?_) rfl (by kernel_rfl) (by kernel_rfl) (by kernel_rfl) (fun _ _ _ h => h) (Or.inl ⟨by rfl, ?_⟩) (by assumption) ?_
          rotate_left
          · intro wy hSw
            obtain ⟨hS0, hS1, hS2, hS3, hS4⟩ := hSw
            go_simp
            try with_reducible rfl
          try simp only [Act.put, List.getElem_toArray, List.getElem_cons_succ, List.getElem_cons_zero, List.setIfInBounds_toArray, List.set_cons_zero, List.set_cons_succ]
          refine wpAnyH_take (i := 11) (v := ?_) rfl (by kernel_rfl) (by kernel_rfl) (by kernel_rfl) (fun _ _ _ h => h) (Or.inl ⟨by rfl, ?_⟩) (by assumption) ?_
          rotate_left
          · intro wy hSw
            obtain ⟨hS0, hS1, hS2, hS3, hS4⟩ := hSw
            go_simp
            try with_reducible rfl
          try simp only [Act.put, List.getElem_toArray, List.getElem_cons_succ, List.getElem_cons_zero, List.setIfInBounds_toArray, List.set_cons_zero, List.set_cons_succ]
          refine wpAnyH_done (by kernel_rfl) ?_ _
          go_wp2_with fail
          go_meet
          exact ⟨gg, gz, cz, Bz, Uz, rfl, rfl, rfl, by omega, by omega, by omega, HUZ, HW, HZ, HB, HO, HWB, HXB, HX, HBN, HQ⟩
        · go_simp
          obtain ⟨gg, egg⟩ : ∃ z, z = wc0.heap.size := ⟨_, rfl⟩
          have hlgb := hlwc0
          rw [← egg] at hlgb
          obtain ⟨wb1, ewb1⟩ : ∃ z, z = wc0.alloc (.cells #[.int .i64 0, .slice none 0 0] 26) := ⟨_, rfl⟩
          have hb : Below wc0.heap.size wc0 wb1 := by rw [ewb1]; exact Below.alloc1 _ _
          have hlwb1 := Nat.le_trans hlwc0 hb.size
          have HBB : Hid (OwnV wb1 gg [.int .i64 0, .slice none 0 0]) := by rw [ewb1, egg]; exact ownV_alloc _ _ _
          rw [← ewb1, ← egg]
          replace HW := hide (Below.step (unhide HW) hb)
          replace HZ := hide (Below.step (unhide HZ) hb)
          replace HB := hide (OwnV.step (unhide HB) hb)
          replace HO := hide (OwnV.step (unhide HO) hb)
          replace HWB := hide (OwnV.step (unhide HWB) hb)
          replace HXB := hide (OwnV.step (unhide HXB) hb)
          replace HX := hide ((unhide HX).below hb)
          clear hb ewb1 egg
          refine hK.out _ _ ⟨(unhide HXB).cell (i := 0) rfl, (unhide HXB).cell (i := 1) rfl, (unhide HO).cell (i := 0) rfl, (unhide HO).cell (i := 1) rfl, (unhide HO).cell (i := 2) rfl⟩ (fun hHeld => ?_)
          clear hK K
          try simp only [Act.put, List.setIfInBounds_toArray, List.set_cons_zero, List.set_cons_succ]
          refine wpAnyH_ready (rs := [3]) (by kernel_rfl) (by simp) ?_
          refine AllReadyH.cons rfl (fun K hK => ?_) AllReadyH.nil
          go_simp
          have HCQ := hide (unhide HPQ _ wb1 (unhide HX).inn)
          refine (unhide HCQ).mono ?_
          rintro e wc1a ⟨gz, Gz, Cz, cz, rfl, hz1, hz2, hOR, hb⟩
          have hlwc1a := Nat.le_trans hlwb1 hb.size
          have hgbw := (unhide HBB).lt
          replace HW := hide (Below.step (unhide HW) hb)
          replace HZ := hide (Below.step (unhide HZ) hb)
          replace HB := hide (OwnV.step (unhide HB) hb)
          replace HO := hide (OwnV.step (unhide HO) hb)
          replace HWB := hide (OwnV.step (unhide HWB) hb)
          replace HXB := hide (OwnV.step (unhide HXB) hb)
          replace HX := hide ((unhide HX).below hb)
          replace HBB := hide (OwnV.step (unhide HBB) hb)
          have hU := OwnRowsV.upto (Or.inr ⟨gz, Gz, Cz, cz, rfl, hz1, hz2, hOR⟩)
          dsimp only at hU
          obtain ⟨Bz, eBz⟩ : ∃ z, z = wb1.heap.size := ⟨_, rfl⟩
          obtain ⟨Uz, eUz⟩ : ∃ z, z = wc1a.heap.size := ⟨_, rfl⟩
          rw [← eBz, ← eUz] at hU
          have HQ := hide hU
          have hlBz : gm ≤ Bz := by rw [eBz]; exact hlwb1
          try (have hgB : gg < Bz := by rw [eBz]; exact hgbw)
          have HUZ : Hid (Uz ≤ wc1a.heap.size) := Nat.le_of_eq eUz
          have EUZ := hide eUz
          clear hU hOR hz1 hz2 eBz eUz
          try unfold yardV
          try dsimp only
          clear hb HCQ
          refine hK.out _ _ ⟨(unhide HXB).cell (i := 0) rfl, (unhide HXB).cell (i := 1) rfl, (unhide HO).cell (i := 0) rfl, (unhide HO).cell (i := 1) rfl, (unhide HO).cell (i := 2) rfl⟩ (fun hHeld => ?_)
          clear hK K
          try simp only [Act.put, List.setIfInBounds_toArray, List.set_cons_zero, List.set_cons_succ]
          refine wpAnyH_take (i := 4) (v := ?_) rfl (by kernel_rfl) (by kernel_rfl) (by kernel_rfl) (fun _ _ _ h => h) (Or.inl ⟨by rfl, ?_⟩) (by assumption) ?_
          rotate_left
          · intro wy hSw
            obtain ⟨hS0, hS1, hS2, hS3, hS4⟩ := hSw
            go_simp
            try with_reducible rfl
          try simp only [Act.put, List.getElem_toArray, List.getElem_cons_succ, List.getElem_cons_zero, List.setIfInBounds_toArray, List.set_cons_zero, List.set_cons_succ]
          refine wpAnyH_take (i := 5) (v := ?_) rfl (by kernel_rfl) (by kernel_rfl) (by kernel_rfl) (fun _ _ _ h => h) (Or.inl ⟨by rfl, ?_⟩) (by assumption) ?_
          rotate_left
          · intro wy hSw
            obtain ⟨hS0, hS1, hS2, hS3, hS4⟩ := hSw
            go_simp
            try with_reducible rfl
          try simp only [Act.put, List.getElem_toArray, List.getElem_cons_succ, List.getElem_cons_zero, List.setIfInBounds_toArray, List.set_cons_zero, List.set_cons_succ]
          refine wpAnyH_take (i := 6) (v := ?_) rfl (by kernel_rfl) (by kernel_rfl) (by kernel_rfl) (fun _ _ _ h => h) (Or.inl ⟨by rfl, ?_⟩) (by assumption) ?_
          rotate_left
          · intro wy hSw
            obtain ⟨hS0, hS1, hS2, hS3, hS4⟩ := hSw
            go_simp
            try with_reducible rfl
          try simp only [Act.put, List.getElem_toArray, List.getElem_cons_succ, List.getElem_cons_zero, List.setIfInBounds_toArray, List.set_cons_zero, List.set_cons_succ]
          refine wpAnyH_take (i := 7) (v := ?_) rfl (by kernel_rfl) (by kernel_rfl) (by kernel_rfl) (fun _ _ _ h => h) (Or.inl ⟨by rfl, ?_⟩) (by assumption) ?_
          rotate_left
          · intro wy hSw
            obtain ⟨hS0, hS1, hS2, hS3, hS4⟩ := hSw
            go_simp
            try with_reducible rfl
          try simp only [Act.put, List.getElem_toArray, List.getElem_cons_succ, List.getElem_cons_zero, List.setIfInBounds_toArray, List.set_cons_zero, List.set_cons_succ]
          refine wpAnyH_ready (rs := [9]) (by kernel_rfl) (by simp) ?_
          refine AllReadyH.cons rfl (fun K hK => ?_) AllReadyH.nil
          have rf0 := (unhide HBB).frozen 0
          have r0 := (unhide HBB).cell (i := 0) rfl
          have rf1 := (unhide HBB).frozen 1
          have r1 := (unhide HBB).cell (i := 1) rfl
          have HBN := hide (((unhide HBB).set 0 (.int .i64 s0) (by simp)).set 1 (.slice (some ⟨gz, 0, none⟩) D1.length cz) (by simp))
          have HKS : Hid (Kept (fun b => b = gg) wc1a ((wc1a.setCell ⟨gg, 0, none⟩ (.int .i64 s0)).setCell ⟨gg, 1, none⟩ (.slice (some ⟨gz, 0, none⟩) D1.length cz))) := (((Kept.refl (fun b => b = gg) _).setCell (p := ⟨gg, 0, none⟩) rfl _).setCell (p := ⟨gg, 1, none⟩) rfl _)
          have hWB := unhide HW
          replace HW := hide (hWB.trans ((unhide HKS).below hWB.size (fun b e => by omega)))
          clear hWB
          have hWB := unhide HZ
          replace HZ := hide (hWB.trans ((unhide HKS).below hWB.size (fun b e => by omega)))
          clear hWB
          replace HB := hide ((unhide HB).kept (unhide HKS) (fun e => by omega))
          replace HO := hide ((unhide HO).kept (unhide HKS) (fun e => by omega))
          replace HWB := hide ((unhide HWB).kept (unhide HKS) (fun e => by omega))
          replace HXB := hide ((unhide HXB).kept (unhide HKS) (fun e => by omega))
          replace HX := hide ((unhide HX).kept (unhide HKS) (fun b h1 h2 e => by omega))
          replace HQ := hide ((unhide HQ).kept (unhide HKS) (fun b h1 h2 e => by omega))
          replace HUZ := hide (Nat.le_trans (unhide HUZ) (unhide HKS).size)
          go_simp
          clear rf0 r0 rf1 r1
          refine hK.out _ _ ⟨(unhide HXB).cell (i := 0) rfl, (unhide HXB).cell (i := 1) rfl, (unhide HO).cell (i := 0) rfl, (unhide HO).cell (i := 1) rfl, (unhide HO).cell (i := 2) rfl⟩ (fun hHeld => ?_)
          clear hK K
          try simp only [Act.put, List.setIfInBounds_toArray, List.set_cons_zero, List.set_cons_succ]
          refine wpAnyH_take (i := 10) (v := ?_) rfl (by kernel_rfl) (by kernel_rfl) (by kernel_rfl) (fun _ _ _ h => h) (Or.inl ⟨by rfl, ?_⟩) (by assumption) ?_
          rotate_left
          · intro wy hSw
            obtain ⟨hS0, hS1, hS2, hS3, hS4⟩ := hSw
            go_simp
            try with_reducible rfl
          try simp only [Act.put, List.getElem_toArray, List.getElem_cons_succ, List.getElem_cons_zero, List.setIfInBounds_toArray, List.set_cons_zero, List.set_cons_succ]
          refine wpAnyH_take (i := 11) (v := ?_) rfl (by kernel_rfl) (by kernel_rfl) (by kernel_rfl) (fun _ _ _ h => h) (Or.inl ⟨by rfl, ?_⟩) (by assumption) ?_
          rotate_left
          · intro wy hSw
            obtain ⟨hS0, hS1, hS2, hS3, hS4⟩ := hSw
            go_simp
            try with_reducible rfl
          try simp only [Act.put, List.getElem_toArray, List.getElem_cons_succ, List.getElem_cons_zero, List.setIfInBounds_toArray, List.set_cons_zero, List.set_cons_succ]
          refine wpAnyH_done (by kernel_rfl) ?_ _
          go_wp2_with fail
          go_meet
          exact ⟨gg, gz, cz, Bz, Uz, rfl, rfl, rfl, by omega, by omega, by omega, HUZ, HW, HZ, HB, HO, HWB, HXB, HX, HBN, HQ⟩
      · go_simp
        obtain ⟨gg, egg⟩ : ∃ z, z = wd.heap.size := ⟨_, rfl⟩
        have hlgb := hlwd
        rw [← egg] at hlgb
        obtain ⟨wb0, ewb0⟩ : ∃ z, z = wd.alloc (.cells #[.int .i64 0, .slice none 0 0] 26) := ⟨_, rfl⟩
        have hb : Below wd.heap.size wd wb0 := by rw [ewb0]; exact Below.alloc1 _ _
        have hlwb0 := Nat.le_trans hlwd hb.size
        have HBB : Hid (OwnV wb0 gg [.int .i64 0, .slice none 0 0]) := by rw [ewb0, egg]; exact ownV_alloc _ _ _
        rw [← ewb0, ← egg]
        replace HW := hide (Below.step (unhide HW) hb)
        replace HZ := hide (Below.step (unhide HZ) hb)
        replace HB := hide (OwnV.step (unhide HB) hb)
        replace HO := hide (OwnV.step (unhide HO) hb)
        replace HWB := hide (OwnV.step (unhide HWB) hb)
        replace HXB := hide (OwnV.step (unhide HXB) hb)
        replace HX := hide ((unhide HX).below hb)
        clear hb ewb0 egg
        refine hK.out _ _ ⟨(unhide HXB).cell (i := 0) rfl, (unhide HXB).cell (i := 1) rfl, (unhide HO).cell (i := 0) rfl, (unhide HO).cell (i := 1) rfl, (unhide HO).cell (i := 2) rfl⟩ (fun hHeld => ?_)
        clear hK K
        try simp only [Act.put, List.setIfInBounds_toArray, List.set_cons_zero, List.set_cons_succ]
        refine wpAnyH_ready (rs := [2]) (by kernel_rfl) (by simp) ?_
        refine AllReadyH.cons rfl (fun K hK => ?_) AllReadyH.nil
        go_simp
        have HCQ := hide (unhide HTP wb0)
        refine (unhide HCQ).mono ?_
        rintro e wc0a ⟨rfl, hb⟩
        have hlwc0a := Nat.le_trans hlwb0 hb.size
        have hgbw := (unhide HBB).lt
        replace HW := hide (Below.step (unhide HW) hb)
        replace HZ := hide (Below.step (unhide HZ) hb)
        replace HB := hide (OwnV.step (unhide HB) hb)
        replace HO := hide (OwnV.step (unhide HO) hb)
        replace HWB := hide (OwnV.step (unhide HWB) hb)
        replace HXB := hide (OwnV.step (unhide HXB) hb)
        replace HX := hide ((unhide HX).below hb)
        replace HBB := hide (OwnV.step (unhide HBB) hb)
        clear hb HCQ
        refine hK.out _ _ ⟨(unhide HXB).cell (i := 0) rfl, (unhide HXB).cell (i := 1) rfl, (unhide HO).cell (i := 0) rfl, (unhide HO).cell (i := 1) rfl, (unhide HO).cell (i := 2) rfl⟩ (fun hHeld => ?_)
        clear hK K
        try simp only [Act.put, List.setIfInBounds_toArray, List.set_cons_zero, List.set_cons_succ]
        refine wpAnyH_ready (rs := [3]) (by kernel_rfl) (by simp) ?_
        refine AllReadyH.cons rfl (fun K hK => ?_) AllReadyH.nil
        go_simp
        have HCQ := hide (unhide HPQ _ wc0a (unhide HX).inn)
        refine (unhide HCQ).mono ?_
        rintro e wc1a ⟨gz, Gz, Cz, cz, rfl, hz1, hz2, hOR, hb⟩
        have hlwc1a := Nat.le_trans hlwc0a hb.size
        have hgbw := (unhide HBB).lt
        replace HW := hide (Below.step (unhide HW) hb)
        replace HZ := hide (Below.step (unhide HZ) hb)
        replace HB := hide (OwnV.step (unhide HB) hb)
        replace HO := hide (OwnV.step (unhide HO) hb)
        replace HWB := hide (OwnV.step (unhide HWB) hb)
        replace HXB := hide (OwnV.step (unhide HXB) hb)
        replace HX := hide ((unhide HX).below hb)
        replace HBB := hide (OwnV.step (unhide HBB) hb)
        have hU := OwnRowsV.upto (Or.inr ⟨gz, Gz, Cz, cz, rfl, hz1, hz2, hOR⟩)
        dsimp only at hU
        obtain ⟨Bz, eBz⟩ : ∃ z, z = wc0a.heap.size := ⟨_, rfl⟩
        obtain ⟨Uz, eUz⟩ : ∃ z, z = wc1a.heap.size := ⟨_, rfl⟩
        rw [← eBz, ← eUz] at hU
        have HQ := hide hU
        have hlBz : gm ≤ Bz := by rw [eBz]; exact hlwc0a
        try (have hgB : gg < Bz := by rw [eBz]; exact hgbw)
        have HUZ : Hid (Uz ≤ wc1a.heap.size) := Nat.le_of_eq eUz
        have EUZ := hide eUz
        clear hU hOR hz1 hz2 eBz eUz
        try unfold yardV
        try dsimp only
        clear hb HCQ
        refine hK.out _ _ ⟨(unhide HXB).cell (i := 0) rfl, (unhide HXB).cell (i := 1) rfl, (unhide HO).cell (i := 0) rfl, (unhide HO).cell (i := 1) rfl, (unhide HO).cell (i := 2) rfl⟩ (fun hHeld => ?_)
        clear hK K
        try simp only [Act.put, List.setIfInBounds_toArray, List.set_cons_zero, List.set_cons_succ]
        refine wpAnyH_take (i := 4) (v := ?_) rfl (by kernel_rfl) (by kernel_rfl) (by kernel_rfl) (fun _ _ _ h => h) (Or.inl ⟨by rfl, ?_⟩) (by assumption) ?_
        rotate_left
        · intro wy hSw
          obtain ⟨hS0, hS1, hS2, hS3, hS4⟩ := hSw
          go_simp
          try with_reducible rfl
        try simp only [Act.put, List.getElem_toArray, List.getElem_cons_succ, List.getElem_cons_zero, List.setIfInBounds_toArray, List.set_cons_zero, List.set_cons_succ]
        refine wpAnyH_take (i := 5) (v := ?_) rfl (by kernel_rfl) (by kernel_rfl) (by kernel_rfl) (fun _ _ _ h => h) (Or.inl ⟨by rfl, ?_⟩) (by assumption) ?_
        rotate_left
        · intro wy hSw
          obtain ⟨hS0, hS1, hS2, hS3, hS4⟩ := hSw
          go_simp
          try with_reducible rfl
        try simp only [Act.put, List.getElem_toArray, List.getElem_cons_succ, List.getElem_cons_zero, List.setIfInBounds_toArray, List.set_cons_zero, List.set_cons_succ]
        refine wpAnyH_take (i := 6) (v := ?_) rfl (by kernel_rfl) (by kernel_rfl) (by kernel_rfl) (fun _ _ _ h => h) (Or.inl ⟨by rfl, ?_⟩) (by assumption) ?_
        rotate_left
        · intro wy hSw
          obtain ⟨hS0, hS1, hS2, hS3, hS4⟩ := hSw
          go_simp
          try with_reducible rfl
        try simp only [Act.put, List.getElem_toArray, List.getElem_cons_succ, List.getElem_cons_zero, List.setIfInBounds_toArray, List.set_cons_zero, List.set_cons_succ]
        refine wpAnyH_take (i := 7) (v := ?_) rfl (by kernel_rfl) (by kernel_rfl) (by kernel_rfl) (fun _ _ _ h => h) (Or.inl ⟨by rfl, ?_⟩) (by assumption) ?_
        rotate_left
        · intro wy hSw
          obtain ⟨hS0, hS1, hS2, hS3, hS4⟩ := hSw
          go_simp
          try with_reducible rfl
        try simp only [Act.put, List.getElem_toArray, List.getElem_cons_succ, List.getElem_cons_zero, List.setIfInBounds_toArray, List.set_cons_zero, List.set_cons_succ]
        refine wpAnyH_ready (rs := [9]) (by kernel_rfl) (by simp) ?_
        refine AllReadyH.cons rfl (fun K hK => ?_) AllReadyH.nil
        have rf0 := (unhide HBB).frozen 0
        have r0 := (unhide HBB).cell (i := 0) rfl
        have rf1 := (unhide HBB).frozen 1
        have r1 := (unhide HBB).cell (i := 1) rfl
        have HBN := hide (((unhide HBB).set 0 (.int .i64 s0) (by simp)).set 1 (.slice (some ⟨gz, 0, none⟩) D1.length cz) (by simp))
        have HKS : Hid (Kept (fun b => b = gg) wc1a ((wc1a.setCell ⟨gg, 0, none⟩ (.int .i64 s0)).setCell ⟨gg, 1, none⟩ (.slice (some ⟨gz, 0, none⟩) D1.length cz))) := (((Kept.refl (fun b => b = gg) _).setCell (p := ⟨gg, 0, none⟩) rfl _).setCell (p := ⟨gg, 1, none⟩) rfl _)
        have hWB := unhide HW
        replace HW := hide (hWB.trans ((unhide HKS).below hWB.size (fun b e => by omega)))
        clear hWB
        have hWB := unhide HZ
        replace HZ := hide (hWB.trans ((unhide HKS).below hWB.size (fun b e => by omega)))
        clear hWB
        replace HB := hide ((unhide HB).kept (unhide HKS) (fun e => by omega))
        replace HO := hide ((unhide HO).kept (unhide HKS) (fun e => by omega))
        replace HWB := hide ((unhide HWB).kept (unhide HKS) (fun e => by omega))
        replace HXB := hide ((unhide HXB).kept (unhide HKS) (fun e => by omega))
        replace HX := hide ((unhide HX).kept (unhide HKS) (fun b h1 h2 e => by omega))
        replace HQ := hide ((unhide HQ).kept (unhide HKS) (fun b h1 h2 e => by omega))
        replace HUZ := hide (Nat.le_trans (unhide HUZ) (unhide HKS).size)
        go_simp
        clear rf0 r0 rf1 r1
        refine hK.out _ _ ⟨(unhide HXB).cell (i := 0) rfl, (unhide HXB).cell (i := 1) rfl, (unhide HO).cell (i := 0) rfl, (unhide HO).cell (i := 1) rfl, (unhide HO).cell (i := 2) rfl⟩ (fun hHeld => ?_)
        clear hK K
        try simp only [Act.put, List.setIfInBounds_toArray, List.set_cons_zero, List.set_cons_succ]
        refine wpAnyH_take (i := 10) (v := ?_) rfl (by kernel_rfl) (by kernel_rfl) (by kernel_rfl) (fun _ _ _ h => h) (Or.inl ⟨by rfl, ?_⟩) (by assumption) ?_
        rotate_left
        · intro wy hSw
          obtain ⟨hS0, hS1, hS2, hS3, hS4⟩ := hSw
          go_simp
          try with_reducible rfl
        try simp only [Act.put, List.getElem_toArray, List.getElem_cons_succ, List.getElem_cons_zero, List.setIfInBounds_toArray, List.set_cons_zero, List.set_cons_succ]
        refine wpAnyH_take (i := 11) (v := ?_) rfl (by kernel_rfl) (by kernel_rfl) (by kernel_rfl) (fun _ _ _ h => h) (Or.inl ⟨by rfl, ?_⟩) (by assumption) ?_
        rotate_left
        · intro wy hSw
          obtain ⟨hS0, hS1, hS2, hS3, hS4⟩ := hSw
          go_simp
          try with_reducible rfl
        try simp only [Act.put, List.getElem_toArray, List.getElem_cons_succ, List.getElem_cons_zero, List.setIfInBounds_toArray, List.set_cons_zero, List.set_cons_succ]
        refine wpAnyH_done (by kernel_rfl) ?_ _
        go_wp2_with fail
        go_meet
        exact ⟨gg, gz, cz, Bz, Uz, rfl, rfl, rfl, by omega, by omega, by omega, HUZ, HW, HZ, HB, HO, HWB, HXB, HX, HBN, HQ⟩
    case rest =>
      clear HW HZ HB HO HWB HXB HX
      obtain ⟨gg, gz, cz, Bz, Uz, rfl, rfl, rfl, hgg1, hgz1, hgg2, HUZ, HW, HZ, HB, HO, HWB, HXB, HX, HGB, HQ⟩ := hcut
      have gg0 := (unhide HGB).cell (i := 0) rfl
      have gg1 := (unhide HGB).cell (i := 1) rfl
      have uu0 := (unhide HWB).cell (i := 0) rfl
      have uu1 := (unhide HWB).cell (i := 1) rfl
      have HEE := hide (eqYard_any s0 (.slice (some ⟨gz, 0, none⟩) D1.length cz) (.slice oa on oc) D1 _ ((unhide HQ).inn) ((unhide HSP).below (unhide HZ)))
      unfold yardV at HEE
      go_wp2_with fail
      refine (unhide HEE).mono ?_
      rintro e W8 ⟨rfl, hb⟩
      replace HW := hide (Below.step (unhide HW) hb)
      replace HZ := hide (Below.step (unhide HZ) hb)
      replace HB := hide (OwnV.step (unhide HB) hb)
      replace HO := hide (OwnV.step (unhide HO) hb)
      replace HWB := hide (OwnV.step (unhide HWB) hb)
      replace HXB := hide (OwnV.step (unhide HXB) hb)
      replace HX := hide ((unhide HX).below hb)
      replace HGB := hide (OwnV.step (unhide HGB) hb)
      replace HQ := hide ((unhide HQ).below hb)
      replace HUZ := hide (Nat.le_trans (unhide HUZ) hb.size)
      clear hb HEE gg0 gg1 uu0 uu1
      have b0 := (unhide HB).cell (i := 0) rfl
      have b1 := (unhide HB).cell (i := 1) rfl
      have x0 := (unhide HXB).cell (i := 0) rfl
      have x1 := (unhide HXB).cell (i := 1) rfl
      go_upto_region 10 with (fail)
      clear b0 b1 x0 x1
      obtain ⟨wd, ewd⟩ : ∃ z, z = W8.drew := ⟨_, rfl⟩
      have hb : Below W8.heap.size W8 wd := by rw [ewd]; exact (Below.refl _ _).drew
      replace HW := hide (Below.step (unhide HW) hb)
      replace HZ := hide (Below.step (unhide HZ) hb)
      replace HB := hide (OwnV.step (unhide HB) hb)
      replace HO := hide (OwnV.step (unhide HO) hb)
      replace HWB := hide (OwnV.step (unhide HWB) hb)
      replace HXB := hide (OwnV.step (unhide HXB) hb)
      replace HX := hide ((unhide HX).below hb)
      replace HGB := hide (OwnV.step (unhide HGB) hb)
      replace HQ := hide ((unhide HQ).below hb)
      replace HUZ := hide (Nat.le_trans (unhide HUZ) hb.size)
      clear hb
      refine wp_region_held_drew (S := fun w' => w'.cell? ⟨g0, 0, none⟩ = some (.int .i64 s0) ∧ w'.cell? ⟨g0, 1, none⟩ = some (.slice ao R.length cap) ∧ w'.cell? ⟨Ux, 0, none⟩ = some (.int .i64 s0) ∧ w'.cell? ⟨Ux, 1, none⟩ = some (.slice (some ⟨gx, 0, none⟩) R.length R.length)) (by kernel_rfl) ⟨by rw [← ewd]; exact (unhide HB).cell (i := 0) rfl, by rw [← ewd]; exact (unhide HB).cell (i := 1) rfl, by rw [← ewd]; exact (unhide HXB).cell (i := 0) rfl, by rw [← ewd]; exact (unhide HXB).cell (i := 1) rfl⟩ (fun hHeld => ?_)
      rw [← ewd] at hHeld ⊢
      clear ewd
      refine wpAnyH_take (i := 0) (v := ?_) rfl (by kernel_rfl) (by kernel_rfl) (by kernel_rfl) (fun _ _ _ h => h) (Or.inl ⟨by rfl, ?_⟩) (by assumption) ?_
      rotate_left
      · intro wy hSw
        obtain ⟨hS0, hS1, hS2, hS3⟩ := hSw
        go_simp
        try with_reducible rfl
      try simp only [Act.put, List.getElem_toArray, List.getElem_cons_zero, List.setIfInBounds_toArray, List.set_cons_zero, List.set_cons_succ]
      refine wpAnyH_take (i := 1) (v := ?_) rfl (by kernel_rfl) (by kernel_rfl) (by kernel_rfl) (fun _ _ _ h => h) (Or.inl ⟨by rfl, ?_⟩) (by assumption) ?_
      rotate_left
      · intro wy hSw
        obtain ⟨hS0, hS1, hS2, hS3⟩ := hSw
        go_simp
        try with_reducible rfl
      try simp only [Act.put, List.getElem_toArray, List.getElem_cons_succ, List.getElem_cons_zero, List.setIfInBounds_toArray, List.set_cons_zero, List.set_cons_succ]
      refine wpAnyH_ready (rs := [2]) (by kernel_rfl) (by simp) ?_
      refine AllReadyH.cons rfl (fun K hK => ?_) AllReadyH.nil
      go_simp
      refine (unhide HTO _ (unhide HW)).mono ?_
      rintro e W9 ⟨g7, G7, C7, rfl, ho7, hb⟩
      replace HW := hide (Below.step (unhide HW) hb)
      replace HZ := hide (Below.step (unhide HZ) hb)
      replace HB := hide (OwnV.step (unhide HB) hb)
      replace HO := hide (OwnV.step (unhide HO) hb)
      replace HWB := hide (OwnV.step (unhide HWB) hb)
      replace HXB := hide (OwnV.step (unhide HXB) hb)
      replace HX := hide ((unhide HX).below hb)
      replace HGB := hide (OwnV.step (unhide HGB) hb)
      replace HQ := hide ((unhide HQ).below hb)
      replace HUZ := hide (Nat.le_trans (unhide HUZ) hb.size)
      have HI := hide (OwnRows.rowsIn ho7 (Nat.le_refl _) (by unfold maxLen; omega))
      clear hb ho7
      refine hK.out _ _ ⟨(unhide HB).cell (i := 0) rfl, (unhide HB).cell (i := 1) rfl, (unhide HXB).cell (i := 0) rfl, (unhide HXB).cell (i := 1) rfl⟩ (fun hHeld => ?_)
      clear hK K
      try simp only [Act.put, List.setIfInBounds_toArray, List.set_cons_zero, List.set_cons_succ]
      refine wpAnyH_ready (rs := [3]) (by kernel_rfl) (by simp) ?_
      refine AllReadyH.cons rfl (fun K hK => ?_) AllReadyH.nil
      have HEE := hide (eqYard_any s0 (.slice (some ⟨gx, 0, none⟩) R.length R.length) (.slice (some ⟨g7, 0, none⟩) R.length R.length) R W9 (unhide HX).inn (unhide HI))
      unfold yardV at HEE
      go_simp
      refine (unhide HEE).mono ?_
      rintro e W10 ⟨rfl, hb⟩
      replace HW := hide (Below.step (unhide HW) hb)
      replace HZ := hide (Below.step (unhide HZ) hb)
      replace HB := hide (OwnV.step (unhide HB) hb)
      replace HO := hide (OwnV.step (unhide HO) hb)
      replace HWB := hide (OwnV.step (unhide HWB) hb)
      replace HXB := hide (OwnV.step (unhide HXB) hb)
      replace HX := hide ((unhide HX).below hb)
      replace HGB := hide (OwnV.step (unhide HGB) hb)
      replace HQ := hide ((unhide HQ).below hb)
      replace HUZ := hide (Nat.le_trans (unhide HUZ) hb.size)
      clear hb HEE HI
      refine hK.out _ _ ⟨(unhide HB).cell (i := 0) rfl, (unhide HB).cell (i := 1) rfl, (unhide HXB).cell (i := 0) rfl, (unhide HXB).cell (i := 1) rfl⟩ (fun hHeld => ?_)
      clear hK K
      try simp only [Act.put, List.setIfInBounds_toArray, List.set_cons_zero, List.set_cons_succ]
      refine wpAnyH_take (i := 4) (v := ?_) rfl (by kernel_rfl) (by kernel_rfl) (by kernel_rfl) (fun _ _ _ h => h) (Or.inl ⟨by rfl, ?_⟩) (by assumption) ?_
      rotate_left
      · intro wy hSw
        obtain ⟨hS0, hS1, hS2, hS3⟩ := hSw
        go_simp
        try with_reducible rfl
      try simp only [Act.put, List.getElem_toArray, List.getElem_cons_succ, List.getElem_cons_zero, List.setIfInBounds_toArray, List.set_cons_zero, List.set_cons_succ]
      refine wpAnyH_done (by kernel_rfl) ?_ _
      have x0 := (unhide HXB).cell (i := 0) rfl
      have x1 := (unhide HXB).cell (i := 1) rfl
      have HEE := hide (markYard_v s0 Bx Ux _ _ _ R W10 (unhide HX) hsn (unhide HL))
      unfold yardV at HEE
      have hpk := pre_le (unhide HL) R.length (Nat.le_refl _)
      generalize pre R R.length = pk at HEE hpk
      go_wp2_with fail
      refine (unhide HEE).mono ?_
      rintro e W11 ⟨rfl, hk, _⟩
      have hWB := unhide HW
      replace HW := hide (hWB.trans ((hk).below hWB.size (fun b e => by omega)))
      clear hWB
      have hWB := unhide HZ
      replace HZ := hide (hWB.trans ((hk).below hWB.size (fun b e => by omega)))
      clear hWB
      replace HB := hide ((unhide HB).kept (hk) (fun e => by omega))
      replace HO := hide ((unhide HO).kept (hk) (fun e => by omega))
      replace HWB := hide ((unhide HWB).kept (hk) (fun e => by omega))
      replace HGB := hide ((unhide HGB).kept (hk) (fun e => by omega))
      replace HQ := hide ((unhide HQ).kept (hk) (fun b h1 h2 e => by omega))
      replace HUZ := hide (Nat.le_trans (unhide HUZ) (hk).size)
      clear hk HEE HX HXB x0 x1
      have hpk0 : ¬ (1 + (pk : Int) < 0) := by omega
      have gg0 := (unhide HGB).cell (i := 0) rfl
      have gg1 := (unhide HGB).cell (i := 1) rfl
      have uu0 := (unhide HWB).cell (i := 0) rfl
      have uu1 := (unhide HWB).cell (i := 1) rfl
      have HEE := hide (eqYard_any s0 (.slice (some ⟨gz, 0, none⟩) D1.length cz) (.slice oa on oc) D1 _ ((unhide HQ).inn) ((unhide HSP).below (unhide HZ)))
      unfold yardV at HEE
      go_wp2_with fail
      refine (unhide HEE).mono ?_
      rintro e W12 ⟨rfl, hb⟩
      replace HW := hide (Below.step (unhide HW) hb)
      replace HZ := hide (Below.step (unhide HZ) hb)
      replace HB := hide (OwnV.step (unhide HB) hb)
      replace HO := hide (OwnV.step (unhide HO) hb)
      replace HWB := hide (OwnV.step (unhide HWB) hb)
      replace HGB := hide (OwnV.step (unhide HGB) hb)
      replace HQ := hide ((unhide HQ).below hb)
      replace HUZ := hide (Nat.le_trans (unhide HUZ) hb.size)
      clear hb HEE gg0 gg1 uu0 uu1
      have gg0 := (unhide HGB).cell (i := 0) rfl
      have gg1 := (unhide HGB).cell (i := 1) rfl
      have HEE := hide (markYard_v s0 Bz Uz _ _ _ D1 W12 (unhide HQ) hDl (unhide HDR))
      unfold yardV at HEE
      have hpm := pre_le (unhide HDR) D1.length (Nat.le_refl _)
      go_wp2_with fail
      refine (unhide HEE).mono ?_
      rintro e W13 ⟨rfl, hk, hGM⟩
      have hWB := unhide HW
      replace HW := hide (hWB.trans ((hk).below hWB.size (fun b e => by omega)))
      clear hWB
      have hWB := unhide HZ
      replace HZ := hide (hWB.trans ((hk).below hWB.size (fun b e => by omega)))
      clear hWB
      replace HB := hide ((unhide HB).kept (hk) (fun e => by omega))
      replace HO := hide ((unhide HO).kept (hk) (fun e => by omega))
      replace HWB := hide ((unhide HWB).kept (hk) (fun e => by omega))
      replace HGB := hide ((unhide HGB).kept (hk) (fun e => by omega))
      replace HUZ := hide (Nat.le_trans (unhide HUZ) (hk).size)
      clear HQ
      have HGM := hide hGM
      clear hk hGM HEE gg0 gg1
      have gg0 := (unhide HGB).cell (i := 0) rfl
      have gg1 := (unhide HGB).cell (i := 1) rfl
      have HEE := hide (heldYard_v s0 (.slice (some ⟨gz, 0, none⟩) D1.length cz) D1 _ (unhide HGM).inn hDl (unhide HDR))
      unfold yardV at HEE
      go_wp2_with fail
      refine (unhide HEE).mono ?_
      rintro e W14 ⟨rfl, hb⟩
      replace HW := hide (Below.step (unhide HW) hb)
      replace HZ := hide (Below.step (unhide HZ) hb)
      replace HB := hide (OwnV.step (unhide HB) hb)
      replace HO := hide (OwnV.step (unhide HO) hb)
      replace HWB := hide (OwnV.step (unhide HWB) hb)
      replace HGB := hide (OwnV.step (unhide HGB) hb)
      replace HGM := hide ((unhide HGM).below hb)
      replace HUZ := hide (Nat.le_trans (unhide HUZ) hb.size)
      clear hb HEE gg0 gg1
      obtain ⟨pm, epm⟩ : ∃ z, z = pre D1 D1.length := ⟨_, rfl⟩
      rw [← epm] at hpm ⊢
      have HPM := hide epm
      clear epm
      have hpm0 : ¬ (1 + (pm : Int) < 0) := by omega
      have hpm1 : ((1 + (pm : Int)) != (1 + (pm : Int))) = false := by simp
      go_upto_region 24 with (fail)
      go_cut [16, 17, 18] (fun s16 s17 s18 wx => ∃ (gh hz hc By Uy : Nat), s16 = .pointer (some ⟨gh, 0, none⟩) ∧ s17 = .int .i64 D2 ∧ s18 = .int .i64 D3 ∧ Hid (Below w.heap.size w wx) ∧ Hid (Below Z5.heap.size Z5 wx) ∧ Hid (OwnV wx gw [.int .i64 s0, .slice oa on oc]) ∧ Hid (OwnV wx gg [.int .i64 s0, .slice (some ⟨gz, 0, none⟩) D1.length cz]) ∧ Hid (OwnRowsU Bz Uz wx (.slice (some ⟨gz, 0, none⟩) D1.length cz) (mrows 1 D1)) ∧ Hid (OwnV wx gh [.int .i64 s0, .slice (some ⟨hz, 0, none⟩) D1.length hc]) ∧ Hid (OwnRowsU By Uy wx (.slice (some ⟨hz, 0, none⟩) D1.length hc) D1))
      case first =>
        obtain ⟨gm, egm⟩ : ∃ z, z = W14.heap.size := ⟨_, rfl⟩
        have lm0 : g0 + 1 < gm := by rw [egm]; exact (unhide HO).lt
        have lm1 : gw < gm := by rw [egm]; exact (unhide HWB).lt
        have lm2 : gg < gm := by rw [egm]; exact (unhide HGB).lt
        have lm3 : Uz ≤ gm := by rw [egm]; exact (unhide HUZ)
        have lm4 : Z5.heap.size ≤ gm := by rw [egm]; exact (unhide HZ).size
        have lm5 : w.heap.size ≤ gm := by rw [egm]; exact (unhide HW).size
        have hlow : gm ≤ W14.heap.size := Nat.le_of_eq egm
        clear egm
        obtain ⟨wd, ewd⟩ : ∃ z, z = W14.drew := ⟨_, rfl⟩
        have hb : Below W14.heap.size W14 wd := by rw [ewd]; exact (Below.refl _ _).drew
        have hlwd := Nat.le_trans hlow hb.size
        replace HW := hide (Below.step (unhide HW) hb)
        replace HZ := hide (Below.step (unhide HZ) hb)
        replace HB := hide (OwnV.step (unhide HB) hb)
        replace HO := hide (OwnV.step (unhide HO) hb)
        replace HWB := hide (OwnV.step (unhide HWB) hb)
        replace HGB := hide (OwnV.step (unhide HGB) hb)
        replace HGM := hide ((unhide HGM).below hb)
        replace HUZ := hide (Nat.le_trans (unhide HUZ) hb.size)
        clear hb hlow
        refine wp_region_held_drew (S := fun w' => w'.cell? ⟨g0, 0, none⟩ = some (.int .i64 s0) ∧ w'.cell? ⟨g0, 1, none⟩ = some (.slice ao R.length cap) ∧ w'.cell? ⟨g0 + 1, 0, none⟩ = some (.int .i64 k1) ∧ w'.cell? ⟨g0 + 1, 1, none⟩ = some (.int .i64 b1) ∧ w'.cell? ⟨g0 + 1, 2, none⟩ = some (.int .i64 c1)) (by kernel_rfl) ⟨by rw [← ewd]; exact (unhide HB).cell (i := 0) rfl, by rw [← ewd]; exact (unhide HB).cell (i := 1) rfl, by rw [← ewd]; exact (unhide HO).cell (i := 0) rfl, by rw [← ewd]; exact (unhide HO).cell (i := 1) rfl, by rw [← ewd]; exact (unhide HO).cell (i := 2) rfl⟩ (fun hHeld => ?_)
        rw [← ewd] at hHeld ⊢
        clear ewd
        refine wpAnyH_take (i := 0) (v := ?_) rfl (by kernel_rfl) (by kernel_rfl) (by kernel_rfl) (fun _ _ _ h => h) (Or.inl ⟨by rfl, ?_⟩) (by assumption) ?_
        rotate_left
        · intro wy hSw
          obtain ⟨hS0, hS1, hS2, hS3, hS4⟩ := hSw
          go_simp
          try with_reducible rfl
        try simp only [Act.put, List.getElem_toArray, List.getElem_cons_zero, List.setIfInBounds_toArray, List.set_cons_zero, List.set_cons_succ]
        refine wpAnyH_take (i := 2) (v := ?_) rfl (by kernel_rfl) (by kernel_rfl) (by kernel_rfl) (fun _ _ _ h => h) (Or.inl ⟨by rfl, ?_⟩) (by assumption) ?_
        rotate_left
        · intro wy hSw
          obtain ⟨hS0, hS1, hS2, hS3, hS4⟩ := hSw
          go_simp
          try with_reducible rfl
        try simp only [Act.put, List.getElem_toArray, List.getElem_cons_succ, List.getElem_cons_zero, List.setIfInBounds_toArray, List.set_cons_zero, List.set_cons_succ]
        refine wpAnyH_ready (rs := [1, 9]) (by kernel_rfl) (by simp) ?_
        refine AllReadyH.cons rfl (fun K hK => ?_) (AllReadyH.cons rfl (fun K hK => ?_) AllReadyH.nil)
        · go_simp
          have HCQ := hide (unhide HTO wd (unhide HW))
          refine (unhide HCQ).mono ?_
          rintro e wc0 ⟨g7, G7, C7, rfl, ho7, hb⟩
          have hlwc0 := Nat.le_trans hlwd hb.size
          replace HW := hide (Below.step (unhide HW) hb)
          replace HZ := hide (Below.step (unhide HZ) hb)
          replace HB := hide (OwnV.step (unhide HB) hb)
          replace HO := hide (OwnV.step (unhide HO) hb)
          replace HWB := hide (OwnV.step (unhide HWB) hb)
          replace HGB := hide (OwnV.step (unhide HGB) hb)
          replace HGM := hide ((unhide HGM).below hb)
          replace HUZ := hide (Nat.le_trans (unhide HUZ) hb.size)
          have HI := hide (OwnRows.rowsIn ho7 (Nat.le_refl _) (by unfold maxLen; omega))
          clear ho7
          clear hb HCQ
          refine hK.out _ _ ⟨(unhide HB).cell (i := 0) rfl, (unhide HB).cell (i := 1) rfl, (unhide HO).cell (i := 0) rfl, (unhide HO).cell (i := 1) rfl, (unhide HO).cell (i := 2) rfl⟩ (fun hHeld => ?_)
          clear hK K
          try simp only [Act.put, List.setIfInBounds_toArray, List.set_cons_zero, List.set_cons_succ]
          refine wpAnyH_ready (rs := [3, 9]) (by kernel_rfl) (by simp) ?_
          refine AllReadyH.cons rfl (fun K hK => ?_) (AllReadyH.cons rfl (fun K hK => ?_) AllReadyH.nil)
          · go_simp
            have HCQ := hide (unhide HTP wc0)
            refine (unhide HCQ).mono ?_
            rintro e wc1 ⟨rfl, hb⟩
            have hlwc1 := Nat.le_trans hlwc0 hb.size
            replace HW := hide (Below.step (unhide HW) hb)
            replace HZ := hide (Below.step (unhide HZ) hb)
            replace HB := hide (OwnV.step (unhide HB) hb)
            replace HO := hide (OwnV.step (unhide HO) hb)
            replace HWB := hide (OwnV.step (unhide HWB) hb)
            replace HGB := hide (OwnV.step (unhide HGB) hb)
            replace HGM := hide ((unhide HGM).below hb)
            replace HUZ := hide (Nat.le_trans (unhide HUZ) hb.size)
            replace HI := hide ((unhide HI).below hb)
            clear hb HCQ
            refine hK.out _ _ ⟨(unhide HB).cell (i := 0) rfl, (unhide HB).cell (i := 1) rfl, (unhide HO).cell (i := 0) rfl, (unhide HO).cell (i := 1) rfl, (unhide HO).cell (i := 2) rfl⟩ (fun hHeld => ?_)
            clear hK K
            try simp only [Act.put, List.setIfInBounds_toArray, List.set_cons_zero, List.set_cons_succ]
            refine wpAnyH_ready (rs := [4, 9]) (by kernel_rfl) (by simp) ?_
            refine AllReadyH.cons rfl (fun K hK => ?_) (AllReadyH.cons rfl (fun K hK => ?_) AllReadyH.nil)
            · go_simp
              have HCQ := hide (unhide HPQ _ wc1 (unhide HI))
              refine (unhide HCQ).mono ?_
              rintro e wc2 ⟨hz, Gz, Cz, hc, rfl, hz1, hz2, hOR, hb⟩
              have hlwc2 := Nat.le_trans hlwc1 hb.size
              replace HW := hide (Below.step (unhide HW) hb)
              replace HZ := hide (Below.step (unhide HZ) hb)
              replace HB := hide (OwnV.step (unhide HB) hb)
              replace HO := hide (OwnV.step (unhide HO) hb)
              replace HWB := hide (OwnV.step (unhide HWB) hb)
              replace HGB := hide (OwnV.step (unhide HGB) hb)
              replace HGM := hide ((unhide HGM).below hb)
              replace HUZ := hide (Nat.le_trans (unhide HUZ) hb.size)
              replace HI := hide ((unhide HI).below hb)
              have hU := OwnRowsV.upto (Or.inr ⟨hz, Gz, Cz, hc, rfl, hz1, hz2, hOR⟩)
              dsimp only at hU
              obtain ⟨By, eBy⟩ : ∃ z, z = wc1.heap.size := ⟨_, rfl⟩
              obtain ⟨Uy, eUy⟩ : ∃ z, z = wc2.heap.size := ⟨_, rfl⟩
              rw [← eBy, ← eUy] at hU
              have HQ := hide hU
              have hlBy : gm ≤ By := by rw [eBy]; exact hlwc1
              try (have hgB : gh < By := by rw [eBy]; exact hgbw)
              have HUY : Hid (Uy ≤ wc2.heap.size) := Nat.le_of_eq eUy
              have EUY := hide eUy
              clear hU hOR hz1 hz2 eBy eUy
              try unfold yardV
              try dsimp only
              clear hb HCQ
              refine hK.out _ _ ⟨(unhide HB).cell (i := 0) rfl, (unhide HB).cell (i := 1) rfl, (unhide HO).cell (i := 0) rfl, (unhide HO).cell (i := 1) rfl, (unhide HO).cell (i := 2) rfl⟩ (fun hHeld => ?_)
              clear hK K
              try simp only [Act.put, List.setIfInBounds_toArray, List.set_cons_zero, List.set_cons_succ]
              refine wpAnyH_take (i := 5) (v := ?_) rfl (by kernel_rfl) (by kernel_rfl) (by kernel_rfl) (fun _ _ _ h => h) (Or.inl ⟨by rfl, ?_⟩) (by assumption) ?_
              rotate_left
              · intro wy hSw
                obtain ⟨hS0, hS1, hS2, hS3, hS4⟩ := hSw
                go_simp
                try with_reducible rfl
              try simp only [Act.put, List.getElem_toArray, List.getElem_cons_succ, List.getElem_cons_zero, List.setIfInBounds_toArray, List.set_cons_zero, List.set_cons_succ]
              refine wpAnyH_take (i := 6) (v := ?_) rfl (by kernel_rfl) (by kernel_rfl) (by kernel_rfl) (fun _ _ _ h => h) (Or.inl ⟨by rfl, ?_⟩) (by assumption) ?_
              rotate_left
              · intro wy hSw
                obtain ⟨hS0, hS1, hS2, hS3, hS4⟩ := hSw
                go_simp
                try with_reducible rfl
              try simp only [Act.put, List.getElem_toArray, List.getElem_cons_succ, List.getElem_cons_zero, List.setIfInBounds_toArray, List.set_cons_zero, List.set_cons_succ]
              refine wpAnyH_take (i := 7) (v := ?_) rfl (by kernel_rfl) (by kernel_rfl) (by kernel_rfl) (fun _ _ _ h => h) (Or.inl ⟨by rfl, ?_⟩) (by assumption) ?_
              rotate_left
              · intro wy hSw
                obtain ⟨hS0, hS1, hS2, hS3, hS4⟩ := hSw
                go_simp
                try with_reducible rfl
              try simp only [Act.put, List.getElem_toArray, List.getElem_cons_succ, List.getElem_cons_zero, List.setIfInBounds_toArray, List.set_cons_zero, List.set_cons_succ]
              refine wpAnyH_take (i := 8) (v := ?_) rfl (by kernel_rfl) (by kernel_rfl) (by kernel_rfl) (fun _ _ _ h => h) (Or.inl ⟨by rfl, ?_⟩) (by assumption) ?_
              rotate_left
              · intro wy hSw
                obtain ⟨hS0, hS1, hS2, hS3, hS4⟩ := hSw
                go_simp
                try with_reducible rfl
              try simp only [Act.put, List.getElem_toArray, List.getElem_cons_succ, List.getElem_cons_zero, List.setIfInBounds_toArray, List.set_cons_zero, List.set_cons_succ]
              refine wpAnyH_ready (rs := [9]) (by kernel_rfl) (by simp) ?_
              refine AllReadyH.cons rfl (fun K hK => ?_) AllReadyH.nil
              go_simp
              obtain ⟨gh, egh⟩ : ∃ z, z = wc2.heap.size := ⟨_, rfl⟩
              have hlgb := hlwc2
              rw [← egh] at hlgb
              obtain ⟨wb3, ewb3⟩ : ∃ z, z = wc2.alloc (.cells #[.int .i64 0, .slice none 0 0] 26) := ⟨_, rfl⟩
              have hb : Below wc2.heap.size wc2 wb3 := by rw [ewb3]; exact Below.alloc1 _ _
              have hlwb3 := Nat.le_trans hlwc2 hb.size
              have HBB : Hid (OwnV wb3 gh [.int .i64 0, .slice none 0 0]) := by rw [ewb3, egh]; exact ownV_alloc _ _ _
              rw [← ewb3, ← egh]
              replace HW := hide (Below.step (unhide HW) hb)
              replace HZ := hide (Below.step (unhide HZ) hb)
              replace HB := hide (OwnV.step (unhide HB) hb)
              replace HO := hide (OwnV.step (unhide HO) hb)
              replace HWB := hide (OwnV.step (unhide HWB) hb)
              replace HGB := hide (OwnV.step (unhide HGB) hb)
              replace HGM := hide ((unhide HGM).below hb)
              replace HUZ := hide (Nat.le_trans (unhide HUZ) hb.size)
              replace HI := hide ((unhide HI).below hb)
              replace HQ := hide ((unhide HQ).below hb)
              have HBA := hide hb
              have hgq : wc2.heap.size ≤ gh := Nat.le_of_eq egh.symm
              have hgU : Uy ≤ gh := by rw [unhide EUY, egh]; exact Nat.le_refl _
              clear hb ewb3 egh
              refine hK.out _ _ ⟨(unhide HB).cell (i := 0) rfl, (unhide HB).cell (i := 1) rfl, (unhide HO).cell (i := 0) rfl, (unhide HO).cell (i := 1) rfl, (unhide HO).cell (i := 2) rfl⟩ (fun hHeld => ?_)
              clear hK K
              try simp only [Act.put, List.setIfInBounds_toArray, List.set_cons_zero, List.set_cons_succ]
              refine wpAnyH_ready (rs := [10]) (by kernel_rfl) (by simp) ?_
              refine AllReadyH.cons rfl (fun K hK => ?_) AllReadyH.nil
              have rf0 := (unhide HBB).frozen 0
              have r0 := (unhide HBB).cell (i := 0) rfl
              have rf1 := (unhide HBB).frozen 1
              have r1 := (unhide HBB).cell (i := 1) rfl
              have HBN := hide (((unhide HBB).set 0 (.int .i64 s0) (by simp)).set 1 (.slice (some ⟨hz, 0, none⟩) D1.length hc) (by simp))
              have HKS : Hid (Kept (fun b => b = gh) wb3 ((wb3.setCell ⟨gh, 0, none⟩ (.int .i64 s0)).setCell ⟨gh, 1, none⟩ (.slice (some ⟨hz, 0, none⟩) D1.length hc))) := (((Kept.refl (fun b => b = gh) _).setCell (p := ⟨gh, 0, none⟩) rfl _).setCell (p := ⟨gh, 1, none⟩) rfl _)
              have hWB := unhide HW
              replace HW := hide (hWB.trans ((unhide HKS).below hWB.size (fun b e => by omega)))
              clear hWB
              have hWB := unhide HZ
              replace HZ := hide (hWB.trans ((unhide HKS).below hWB.size (fun b e => by omega)))
              clear hWB
              replace HB := hide ((unhide HB).kept (unhide HKS) (fun e => by omega))
              replace HO := hide ((unhide HO).kept (unhide HKS) (fun e => by omega))
              replace HWB := hide ((unhide HWB).kept (unhide HKS) (fun e => by omega))
              replace HGB := hide ((unhide HGB).kept (unhide HKS) (fun e => by omega))
              replace HGM := hide ((unhide HGM).kept (unhide HKS) (fun b h1 h2 e => by omega))
              replace HUZ := hide (Nat.le_trans (unhide HUZ) (unhide HKS).size)
              replace HQ := hide ((unhide HQ).kept (unhide HKS) (fun b h1 h2 e => by omega))
              go_simp
              clear rf0 r0 rf1 r1
              refine hK.out _ _ ⟨(unhide HB).cell (i := 0) rfl, (unhide HB).cell (i := 1) rfl, (unhide HO).cell (i := 0) rfl, (unhide HO).cell (i := 1) rfl, (unhide HO).cell (i := 2) rfl⟩ (fun hHeld => ?_)
              clear hK K
              try simp only [Act.put, List.setIfInBounds_toArray, List.set_cons_zero, List.set_cons_succ]
              refine wpAnyH_take (i := 11) (v := ?_) rfl (by kernel_rfl) (by kernel_rfl) (by kernel_rfl) (fun _ _ _ h => h) (Or.inl ⟨by rfl, ?_⟩) (by assumption) ?_
              rotate_left
              · intro wy hSw
                obtain ⟨hS0, hS1, hS2, hS3, hS4⟩ := hSw
                go_simp
                try with_reducible rfl
              try simp only [Act.put, List.getElem_toArray, List.getElem_cons_succ, List.getElem_cons_zero, List.setIfInBounds_toArray, List.set_cons_zero, List.set_cons_succ]
              refine wpAnyH_take (i := 12) (v := ?_) rfl (by kernel_rfl) (by kernel_rfl) (by kernel_rfl) (fun _ _ _ h => h) (Or.inl ⟨by rfl, ?_⟩) (by assumption) ?_
              rotate_left
              · intro wy hSw
                obtain ⟨hS0, hS1, hS2, hS3, hS4⟩ := hSw
                go_simp
                try with_reducible rfl
              try simp only [Act.put, List.getElem_toArray, List.getElem_cons_succ, List.getElem_cons_zero, List.setIfInBounds_toArray, List.set_cons_zero, List.set_cons_succ]
              refine wpAnyH_done (by kernel_rfl) ?_ _
              go_wp2_with fail
              go_meet
              exact ⟨gh, hz, hc, By, Uy, rfl, rfl, rfl, HW, HZ, HWB, HGB, HGM, HBN, HQ⟩
            · go_simp
              obtain ⟨gh, egh⟩ : ∃ z, z = wc1.heap.size := ⟨_, rfl⟩
              have hlgb := hlwc1
              rw [← egh] at hlgb
              obtain ⟨wb2, ewb2⟩ : ∃ z, z = wc1.alloc (.cells #[.int .i64 0, .slice none 0 0] 26) := ⟨_, rfl⟩
              have hb : Below wc1.heap.size wc1 wb2 := by rw [ewb2]; exact Below.alloc1 _ _
              have hlwb2 := Nat.le_trans hlwc1 hb.size
              have HBB : Hid (OwnV wb2 gh [.int .i64 0, .slice none 0 0]) := by rw [ewb2, egh]; exact ownV_alloc _ _ _
              rw [← ewb2, ← egh]
              replace HW := hide (Below.step (unhide HW) hb)
              replace HZ := hide (Below.step (unhide HZ) hb)
              replace HB := hide (OwnV.step (unhide HB) hb)
              replace HO := hide (OwnV.step (unhide HO) hb)
              replace HWB := hide (OwnV.step (unhide HWB) hb)
              replace HGB := hide (OwnV.step (unhide HGB) hb)
              replace HGM := hide ((unhide HGM).below hb)
              replace HUZ := hide (Nat.le_trans (unhide HUZ) hb.size)
              replace HI := hide ((unhide HI).below hb)
              clear hb ewb2 egh
              refine hK.out _ _ ⟨(unhide HB).cell (i := 0) rfl, (unhide HB).cell (i := 1) rfl, (unhide HO).cell (i := 0) rfl, (unhide HO).cell (i := 1) rfl, (unhide HO).cell (i := 2) rfl⟩ (fun hHeld => ?_)
              clear hK K
              try simp only [Act.put, List.setIfInBounds_toArray, List.set_cons_zero, List.set_cons_succ]
              refine wpAnyH_ready (rs := [4]) (by kernel_rfl) (by simp) ?_
              refine AllReadyH.cons rfl (fun K hK => ?_) AllReadyH.nil
              go_simp
              have HCQ := hide (unhide HPQ _ wb2 (unhide HI))
              refine (unhide HCQ).mono ?_
              rintro e wc2a ⟨hz, Gz, Cz, hc, rfl, hz1, hz2, hOR, hb⟩
              have hlwc2a := Nat.le_trans hlwb2 hb.size
              have hgbw := (unhide HBB).lt
              replace HW := hide (Below.step (unhide HW) hb)
              replace HZ := hide (Below.step (unhide HZ) hb)
              replace HB := hide (OwnV.step (unhide HB) hb)
              replace HO := hide (OwnV.step (unhide HO) hb)
              replace HWB := hide (OwnV.step (unhide HWB) hb)
              replace HGB := hide (OwnV.step (unhide HGB) hb)
              replace HGM := hide ((unhide HGM).below hb)
              replace HUZ := hide (Nat.le_trans (unhide HUZ) hb.size)
              replace HI := hide ((unhide HI).below hb)
              replace HBB := hide (OwnV.step (unhide HBB) hb)
              have hU := OwnRowsV.upto (Or.inr ⟨hz, Gz, Cz, hc, rfl, hz1, hz2, hOR⟩)
              dsimp only at hU
              obtain ⟨By, eBy⟩ : ∃ z, z = wb2.heap.size := ⟨_, rfl⟩
              obtain ⟨Uy, eUy⟩ : ∃ z, z = wc2a.heap.size := ⟨_, rfl⟩
              rw [← eBy, ← eUy] at hU
              have HQ := hide hU
              have hlBy : gm ≤ By := by rw [eBy]; exact hlwb2
              try (have hgB : gh < By := by rw [eBy]; exact hgbw)
              have HUY : Hid (Uy ≤ wc2a.heap.size) := Nat.le_of_eq eUy
              have EUY := hide eUy
              clear hU hOR hz1 hz2 eBy eUy
              try unfold yardV
              try dsimp only
              clear hb HCQ
              refine hK.out _ _ ⟨(unhide HB).cell (i := 0) rfl, (unhide HB).cell (i := 1) rfl, (unhide HO).cell (i := 0) rfl, (unhide HO).cell (i := 1) rfl, (unhide HO).cell (i := 2) rfl⟩ (fun hHeld => ?_)
              clear hK K
              try simp only [Act.put, List.setIfInBounds_toArray, List.set_cons_zero, List.set_cons_succ]
              refine wpAnyH_take (i := 5) (v := ?_) rfl (by kernel_rfl) (by kernel_rfl) (by kernel_rfl) (fun _ _ _ h => h) (Or.inl ⟨by rfl, ?_⟩) (by assumption) ?_
              rotate_left
              · intro wy hSw
                obtain ⟨hS0, hS1, hS2, hS3, hS4⟩ := hSw
                go_simp
                try with_reducible rfl
              try simp only [Act.put, List.getElem_toArray, List.getElem_cons_succ, List.getElem_cons_zero, List.setIfInBounds_toArray, List.set_cons_zero, List.set_cons_succ]
              refine wpAnyH_take (i := 6) (v := ?_) rfl (by kernel_rfl) (by kernel_rfl) (by kernel_rfl) (fun _ _ _ h => h) (Or.inl ⟨by rfl, ?_⟩) (by assumption) ?_
              rotate_left
              · intro wy hSw
                obtain ⟨hS0, hS1, hS2, hS3, hS4⟩ := hSw
                go_simp
                try with_reducible rfl
              try simp only [Act.put, List.getElem_toArray, List.getElem_cons_succ, List.getElem_cons_zero, List.setIfInBounds_toArray, List.set_cons_zero, List.set_cons_succ]
              refine wpAnyH_take (i := 7) (v := ?_) rfl (by kernel_rfl) (by kernel_rfl) (by kernel_rfl) (fun _ _ _ h => h) (Or.inl ⟨by rfl, ?_⟩) (by assumption) ?_
              rotate_left
              · intro wy hSw
                obtain ⟨hS0, hS1, hS2, hS3, hS4⟩ := hSw
                go_simp
                try with_reducible rfl
              try simp only [Act.put, List.getElem_toArray, List.getElem_cons_succ, List.getElem_cons_zero, List.setIfInBounds_toArray, List.set_cons_zero, List.set_cons_succ]
              refine wpAnyH_take (i := 8) (v := ?_) rfl (by kernel_rfl) (by kernel_rfl) (by kernel_rfl) (fun _ _ _ h => h) (Or.inl ⟨by rfl, ?_⟩) (by assumption) ?_
              rotate_left
              · intro wy hSw
                obtain ⟨hS0, hS1, hS2, hS3, hS4⟩ := hSw
                go_simp
                try with_reducible rfl
              try simp only [Act.put, List.getElem_toArray, List.getElem_cons_succ, List.getElem_cons_zero, List.setIfInBounds_toArray, List.set_cons_zero, List.set_cons_succ]
              refine wpAnyH_ready (rs := [10]) (by kernel_rfl) (by simp) ?_
              refine AllReadyH.cons rfl (fun K hK => ?_) AllReadyH.nil
              have rf0 := (unhide HBB).frozen 0
              have r0 := (unhide HBB).cell (i := 0) rfl
              have rf1 := (unhide HBB).frozen 1
              have r1 := (unhide HBB).cell (i := 1) rfl
              have HBN := hide (((unhide HBB).set 0 (.int .i64 s0) (by simp)).set 1 (.slice (some ⟨hz, 0, none⟩) D1.length hc) (by simp))
              have HKS : Hid (Kept (fun b => b = gh) wc2a ((wc2a.setCell ⟨gh, 0, none⟩ (.int .i64 s0)).setCell ⟨gh, 1, none⟩ (.slice (some ⟨hz, 0, none⟩) D1.length hc))) := (((Kept.refl (fun b => b = gh) _).setCell (p := ⟨gh, 0, none⟩) rfl _).setCell (p := ⟨gh, 1, none⟩) rfl _)
              have hWB := unhide HW
              replace HW := hide (hWB.trans ((unhide HKS).below hWB.size (fun b e => by omega)))
              clear hWB
              have hWB := unhide HZ
              replace HZ := hide (hWB.trans ((unhide HKS).below hWB.size (fun b e => by omega)))
              clear hWB
              replace HB := hide ((unhide HB).kept (unhide HKS) (fun e => by omega))
              replace HO := hide ((unhide HO).kept (unhide HKS) (fun e => by omega))
              replace HWB := hide ((unhide HWB).kept (unhide HKS) (fun e => by omega))
              replace HGB := hide ((unhide HGB).kept (unhide HKS) (fun e => by omega))
              replace HGM := hide ((unhide HGM).kept (unhide HKS) (fun b h1 h2 e => by omega))
              replace HUZ := hide (Nat.le_trans (unhide HUZ) (unhide HKS).size)
              replace HQ := hide ((unhide HQ).kept (unhide HKS) (fun b h1 h2 e => by omega))
              go_simp
              clear rf0 r0 rf1 r1
              refine hK.out _ _ ⟨(unhide HB).cell (i := 0) rfl, (unhide HB).cell (i := 1) rfl, (unhide HO).cell (i := 0) rfl, (unhide HO).cell (i := 1) rfl, (unhide HO).cell (i := 2) rfl⟩ (fun hHeld => ?_)
              clear hK K
              try simp only [Act.put, List.setIfInBounds_toArray, List.set_cons_zero, List.set_cons_succ]
              refine wpAnyH_take (i := 11) (v := ?_) rfl (by kernel_rfl) (by kernel_rfl) (by kernel_rfl) (fun _ _ _ h => h) (Or.inl ⟨by rfl, ?_⟩) (by assumption) ?_
              rotate_left
              · intro wy hSw
                obtain ⟨hS0, hS1, hS2, hS3, hS4⟩ := hSw
                go_simp
                try with_reducible rfl
              try simp only [Act.put, List.getElem_toArray, List.getElem_cons_succ, List.getElem_cons_zero, List.setIfInBounds_toArray, List.set_cons_zero, List.set_cons_succ]
              refine wpAnyH_take (i := 12) (v := ?_) rfl (by kernel_rfl) (by kernel_rfl) (by kernel_rfl) (fun _ _ _ h => h) (Or.inl ⟨by rfl, ?_⟩) (by assumption) ?_
              rotate_left
              · intro wy hSw
                obtain ⟨hS0, hS1, hS2, hS3, hS4⟩ := hSw
                go_simp
                try with_reducible rfl
              try simp only [Act.put, List.getElem_toArray, List.getElem_cons_succ, List.getElem_cons_zero, List.setIfInBounds_toArray, List.set_cons_zero, List.set_cons_succ]
              refine wpAnyH_done (by kernel_rfl) ?_ _
              go_wp2_with fail
              go_meet
              exact ⟨gh, hz, hc, By, Uy, rfl, rfl, rfl, HW, HZ, HWB, HGB, HGM, HBN, HQ⟩
          · go_simp
            obtain ⟨gh, egh⟩ : ∃ z, z = wc0.heap.size := ⟨_, rfl⟩
            have hlgb := hlwc0
            rw [← egh] at hlgb
            obtain ⟨wb1, ewb1⟩ : ∃ z, z = wc0.alloc (.cells #[.int .i64 0, .slice none 0 0] 26) := ⟨_, rfl⟩
            have hb : Below wc0.heap.size wc0 wb1 := by rw [ewb1]; exact Below.alloc1 _ _
            have hlwb1 := Nat.le_trans hlwc0 hb.size
            have HBB : Hid (OwnV wb1 gh [.int .i64 0, .slice none 0 0]) := by rw [ewb1, egh]; exact ownV_alloc _ _ _
            rw [← ewb1, ← egh]
            replace HW := hide (Below.step (unhide HW) hb)
            replace HZ := hide (Below.step (unhide HZ) hb)
            replace HB := hide (OwnV.step (unhide HB) hb)
            replace HO := hide (OwnV.step (unhide HO) hb)
            replace HWB := hide (OwnV.step (unhide HWB) hb)
            replace HGB := hide (OwnV.step (unhide HGB) hb)
            replace HGM := hide ((unhide HGM).below hb)
            replace HUZ := hide (Nat.le_trans (unhide HUZ) hb.size)
            replace HI := hide ((unhide HI).below hb)
            clear hb ewb1 egh
            refine hK.out _ _ ⟨(unhide HB).cell (i := 0) rfl, (unhide HB).cell (i := 1) rfl, (unhide HO).cell (i := 0) rfl, (unhide HO).cell (i := 1) rfl, (unhide HO).cell (i := 2) rfl⟩ (fun hHeld => ?_)
            clear hK K
            try simp only [Act.put, List.setIfInBounds_toArray, List.set_cons_zero, List.set_cons_succ]
            refine wpAnyH_ready (rs := [3]) (by kernel_rfl) (by simp) ?_
            refine AllReadyH.cons rfl (fun K hK => ?_) AllReadyH.nil
            go_simp
            have HCQ := hide (unhide HTP wb1)
            refine (unhide HCQ).mono ?_
            rintro e wc1a ⟨rfl, hb⟩
            have hlwc1a := Nat.le_trans hlwb1 hb.size
            have hgbw := (unhide HBB).lt
            replace HW := hide (Below.step (unhide HW) hb)
            replace HZ := hide (Below.step (unhide HZ) hb)
            replace HB := hide (OwnV.step (unhide HB) hb)
            replace HO := hide (OwnV.step (unhide HO) hb)
            replace HWB := hide (OwnV.step (unhide HWB) hb)
            replace HGB := hide (OwnV.step (unhide HGB) hb)
            replace HGM := hide ((unhide HGM).below hb)
            replace HUZ := hide (Nat.le_trans (unhide HUZ) hb.size)
            replace HI := hide ((unhide HI).below hb)
            replace HBB := hide (OwnV.step (unhide HBB) hb)
            clear hb HCQ
            refine hK.out _ _ ⟨(unhide HB).cell (i := 0) rfl, (unhide HB).cell (i := 1) rfl, (unhide HO).cell (i := 0) rfl, (unhide HO).cell (i := 1) rfl, (unhide HO).cell (i := 2) rfl⟩ (fun hHeld => ?_)
            clear hK K
            try simp only [Act.put, List.setIfInBounds_toArray, List.set_cons_zero, List.set_cons_succ]
            refine wpAnyH_ready (rs := [4]) (by kernel_rfl) (by simp) ?_
            refine AllReadyH.cons rfl (fun K hK => ?_) AllReadyH.nil
            go_simp
            have HCQ := hide (unhide HPQ _ wc1a (unhide HI))
            refine (unhide HCQ).mono ?_
            rintro e wc2a ⟨hz, Gz, Cz, hc, rfl, hz1, hz2, hOR, hb⟩
            have hlwc2a := Nat.le_trans hlwc1a hb.size
            have hgbw := (unhide HBB).lt
            replace HW := hide (Below.step (unhide HW) hb)
            replace HZ := hide (Below.step (unhide HZ) hb)
            replace HB := hide (OwnV.step (unhide HB) hb)
            replace HO := hide (OwnV.step (unhide HO) hb)
            replace HWB := hide (OwnV.step (unhide HWB) hb)
            replace HGB := hide (OwnV.step (unhide HGB) hb)
            replace HGM := hide ((unhide HGM).below hb)
            replace HUZ := hide (Nat.le_trans (unhide HUZ) hb.size)
            replace HI := hide ((unhide HI).below hb)
            replace HBB := hide (OwnV.step (unhide HBB) hb)
            have hU := OwnRowsV.upto (Or.inr ⟨hz, Gz, Cz, hc, rfl, hz1, hz2, hOR⟩)
            dsimp only at hU
            obtain ⟨By, eBy⟩ : ∃ z, z = wc1a.heap.size := ⟨_, rfl⟩
            obtain ⟨Uy, eUy⟩ : ∃ z, z = wc2a.heap.size := ⟨_, rfl⟩
            rw [← eBy, ← eUy] at hU
            have HQ := hide hU
            have hlBy : gm ≤ By := by rw [eBy]; exact hlwc1a
            try (have hgB : gh < By := by rw [eBy]; exact hgbw)
            have HUY : Hid (Uy ≤ wc2a.heap.size) := Nat.le_of_eq eUy
            have EUY := hide eUy
            clear hU hOR hz1 hz2 eBy eUy
            try unfold yardV
            try dsimp only
            clear hb HCQ
            refine hK.out _ _ ⟨(unhide HB).cell (i := 0) rfl, (unhide HB).cell (i := 1) rfl, (unhide HO).cell (i := 0) rfl, (unhide HO).cell (i := 1) rfl, (unhide HO).cell (i := 2) rfl⟩ (fun hHeld => ?_)
            clear hK K
            try simp only [Act.put, List.setIfInBounds_toArray, List.set_cons_zero, List.set_cons_succ]
            refine wpAnyH_take (i := 5) (v := ?_) rfl (by kernel_rfl) (by kernel_rfl) (by kernel_rfl) (fun _ _ _ h => h) (Or.inl ⟨by rfl, ?_⟩) (by assumption) ?_
            rotate_left
            · intro wy hSw
              obtain ⟨hS0, hS1, hS2, hS3, hS4⟩ := hSw
              go_simp
              try with_reducible rfl
            try simp only [Act.put, List.getElem_toArray, List.getElem_cons_succ, List.getElem_cons_zero, List.setIfInBounds_toArray, List.set_cons_zero, List.set_cons_succ]
            refine wpAnyH_take (i := 6) (v := ?_) rfl (by kernel_rfl) (by kernel_rfl) (by kernel_rfl) (fun _ _ _ h => h) (Or.inl ⟨by rfl, ?_⟩) (by assumption) ?_
            rotate_left
            · intro wy hSw
              obtain ⟨hS0, hS1, hS2, hS3, hS4⟩ := hSw
              go_simp
              try with_reducible rfl
            try simp only [Act.put, List.getElem_toArray, List.getElem_cons_succ, List.getElem_cons_zero, List.setIfInBounds_toArray, List.set_cons_zero, List.set_cons_succ]
            refine wpAnyH_take (i := 7) (v := ?_) rfl (by kernel_rfl) (by kernel_rfl) (by kernel_rfl) (fun _ _ _ h => h) (Or.inl ⟨by rfl, ?_⟩) (by assumption) ?_
            rotate_left
            · intro wy hSw
              obtain ⟨hS0, hS1, hS2, hS3, hS4⟩ := hSw
              go_simp
              try with_reducible rfl
            try simp only [Act.put, List.getElem_toArray, List.getElem_cons_succ, List.getElem_cons_zero, List.setIfInBounds_toArray, List.set_cons_zero, List.set_cons_succ]
            refine wpAnyH_take (i := 8) (v := ?_) rfl (by kernel_rfl) (by kernel_rfl) (by kernel_rfl) (fun _ _ _ h => h) (Or.inl ⟨by rfl, ?_⟩) (by assumption) ?_
            rotate_left
            · intro wy hSw
              obtain ⟨hS0, hS1, hS2, hS3, hS4⟩ := hSw
              go_simp
              try with_reducible rfl
            try simp only [Act.put, List.getElem_toArray, List.getElem_cons_succ, List.getElem_cons_zero, List.setIfInBounds_toArray, List.set_cons_zero, List.set_cons_succ]
            refine wpAnyH_ready (rs := [10]) (by kernel_rfl) (by simp) ?_
            refine AllReadyH.cons rfl (fun K hK => ?_) AllReadyH.nil
            have rf0 := (unhide HBB).frozen 0
            have r0 := (unhide HBB).cell (i := 0) rfl
            have rf1 := (unhide HBB).frozen 1
            have r1 := (unhide HBB).cell (i := 1) rfl
            have HBN := hide (((unhide HBB).set 0 (.int .i64 s0) (by simp)).set 1 (.slice (some ⟨hz, 0, none⟩) D1.length hc) (by simp))
            have HKS : Hid (Kept (fun b => b = gh) wc2a ((wc2a.setCell ⟨gh, 0, none⟩ (.int .i64 s0)).setCell ⟨gh, 1, none⟩ (.slice (some ⟨hz, 0, none⟩) D1.length hc))) := (((Kept.refl (fun b => b = gh) _).setCell (p := ⟨gh, 0, none⟩) rfl _).setCell (p := ⟨gh, 1, none⟩) rfl _)
            have hWB := unhide HW
            replace HW := hide (hWB.trans ((unhide HKS).below hWB.size (fun b e => by omega)))
            clear hWB
            have hWB := unhide HZ
            replace HZ := hide (hWB.trans ((unhide HKS).below hWB.size (fun b e => by omega)))
            clear hWB
            replace HB := hide ((unhide HB).kept (unhide HKS) (fun e => by omega))
            replace HO := hide ((unhide HO).kept (unhide HKS) (fun e => by omega))
            replace HWB := hide ((unhide HWB).kept (unhide HKS) (fun e => by omega))
            replace HGB := hide ((unhide HGB).kept (unhide HKS) (fun e => by omega))
            replace HGM := hide ((unhide HGM).kept (unhide HKS) (fun b h1 h2 e => by omega))
            replace HUZ := hide (Nat.le_trans (unhide HUZ) (unhide HKS).size)
            replace HQ := hide ((unhide HQ).kept (unhide HKS) (fun b h1 h2 e => by omega))
            go_simp
            clear rf0 r0 rf1 r1
            refine hK.out _ _ ⟨(unhide HB).cell (i := 0) rfl, (unhide HB).cell (i := 1) rfl, (unhide HO).cell (i := 0) rfl, (unhide HO).cell (i := 1) rfl, (unhide HO).cell (i := 2) rfl⟩ (fun hHeld => ?_)
            clear hK K
            try simp only [Act.put, List.setIfInBounds_toArray, List.set_cons_zero, List.set_cons_succ]
            refine wpAnyH_take (i := 11) (v := ?_) rfl (by kernel_rfl) (by kernel_rfl) (by kernel_rfl) (fun _ _ _ h => h) (Or.inl ⟨by rfl, ?_⟩) (by assumption) ?_
            rotate_left
            · intro wy hSw
              obtain ⟨hS0, hS1, hS2, hS3, hS4⟩ := hSw
              go_simp
              try with_reducible rfl
            try simp only [Act.put, List.getElem_toArray, List.getElem_cons_succ, List.getElem_cons_zero, List.setIfInBounds_toArray, List.set_cons_zero, List.set_cons_succ]
            refine wpAnyH_take (i := 12) (v := ?_) rfl (by kernel_rfl) (by kernel_rfl) (by kernel_rfl) (fun _ _ _ h => h) (Or.inl ⟨by rfl, ?_⟩) (by assumption) ?_
            rotate_left
            · intro wy hSw
              obtain ⟨hS0, hS1, hS2, hS3, hS4⟩ := hSw
              go_simp
              try with_reducible rfl
            try simp only [Act.put, List.getElem_toArray, List.getElem_cons_succ, List.getElem_cons_zero, List.setIfInBounds_toArray, List.set_cons_zero, List.set_cons_succ]
            refine wpAnyH_done (by kernel_rfl) ?_ _
            go_wp2_with fail
            go_meet
            exact ⟨gh, hz, hc, By, Uy, rfl, rfl, rfl, HW, HZ, HWB, HGB, HGM, HBN, HQ⟩
        · go_simp
          obtain ⟨gh, egh⟩ : ∃ z, z = wd.heap.size := ⟨_, rfl⟩
          have hlgb := hlwd
          rw [← egh] at hlgb
          obtain ⟨wb0, ewb0⟩ : ∃ z, z = wd.alloc (.cells #[.int .i64 0, .slice none 0 0] 26) := ⟨_, rfl⟩
          have hb : Below wd.heap.size wd wb0 := by rw [ewb0]; exact Below.alloc1 _ _
          have hlwb0 := Nat.le_trans hlwd hb.size
          have HBB : Hid (OwnV wb0 gh [.int .i64 0, .slice none 0 0]) := by rw [ewb0, egh]; exact ownV_alloc _ _ _
          rw [← ewb0, ← egh]
          replace HW := hide (Below.step (unhide HW) hb)
          replace HZ := hide (Below.step (unhide HZ) hb)
          replace HB := hide (OwnV.step (unhide HB) hb)
          replace HO := hide (OwnV.step (unhide HO) hb)
          replace HWB := hide (OwnV.step (unhide HWB) hb)
          replace HGB := hide (OwnV.step (unhide HGB) hb)
          replace HGM := hide ((unhide HGM).below hb)
          replace HUZ := hide (Nat.le_trans (unhide HUZ) hb.size)
          clear hb ewb0 egh
          refine hK.out _ _ ⟨(unhide HB).cell (i := 0) rfl, (unhide HB).cell (i := 1) rfl, (unhide HO).cell (i := 0) rfl, (unhide HO).cell (i := 1) rfl, (unhide HO).cell (i := 2) rfl⟩ (fun hHeld => ?_)
          clear hK K
          try simp only [Act.put, List.setIfInBounds_toArray, List.set_cons_zero, List.set_cons_succ]
          refine wpAnyH_ready (rs := [1]) (by kernel_rfl) (by simp) ?_
          refine AllReadyH.cons rfl (fun K hK => ?_) AllReadyH.nil
          go_simp
          have HCQ := hide (unhide HTO wb0 (unhide HW))
          refine (unhide HCQ).mono ?_
          rintro e wc0a ⟨g7, G7, C7, rfl, ho7, hb⟩
          have hlwc0a := Nat.le_trans hlwb0 hb.size
          have hgbw := (unhide HBB).lt
          replace HW := hide (Below.step (unhide HW) hb)
          replace HZ := hide (Below.step (unhide HZ) hb)
          replace HB := hide (OwnV.step (unhide HB) hb)
          replace HO := hide (OwnV.step (unhide HO) hb)
          replace HWB := hide (OwnV.step (unhide HWB) hb)
          replace HGB := hide (OwnV.step (unhide HGB) hb)
          replace HGM := hide ((unhide HGM).below hb)
          replace HUZ := hide (Nat.le_trans (unhide HUZ) hb.size)
          replace HBB := hide (OwnV.step (unhide HBB) hb)
          have HI := hide (OwnRows.rowsIn ho7 (Nat.le_refl _) (by unfold maxLen; omega))
          clear ho7
          clear hb HCQ
          refine hK.out _ _ ⟨(unhide HB).cell (i := 0) rfl, (unhide HB).cell (i := 1) rfl, (unhide HO).cell (i := 0) rfl, (unhide HO).cell (i := 1) rfl, (unhide HO).cell (i := 2) rfl⟩ (fun hHeld => ?_)
          clear hK K
          try simp only [Act.put, List.setIfInBounds_toArray, List.set_cons_zero, List.set_cons_succ]
          refine wpAnyH_ready (rs := [3]) (by kernel_rfl) (by simp) ?_
          refine AllReadyH.cons rfl (fun K hK => ?_) AllReadyH.nil
          go_simp
          have HCQ := hide (unhide HTP wc0a)
          refine (unhide HCQ).mono ?_
          rintro e wc1a ⟨rfl, hb⟩
          have hlwc1a := Nat.le_trans hlwc0a hb.size
          have hgbw := (unhide HBB).lt
          replace HW := hide (Below.step (unhide HW) hb)
          replace HZ := hide (Below.step (unhide HZ) hb)
          replace HB := hide (OwnV.step (unhide HB) hb)
          replace HO := hide (OwnV.step (unhide HO) hb)
          replace HWB := hide (OwnV.step (unhide HWB) hb)
          replace HGB := hide (OwnV.step (unhide HGB) hb)
          replace HGM := hide ((unhide HGM).below hb)
          replace HUZ := hide (Nat.le_trans (unhide HUZ) hb.size)
          replace HBB := hide (OwnV.step (unhide HBB) hb)
          replace HI := hide ((unhide HI).below hb)
          clear hb HCQ
          refine hK.out _ _ ⟨(unhide HB).cell (i := 0) rfl, (unhide HB).cell (i := 1) rfl, (unhide HO).cell (i := 0) rfl, (unhide HO).cell (i := 1) rfl, (unhide HO).cell (i := 2) rfl⟩ (fun hHeld => ?_)
          clear hK K
          try simp only [Act.put, List.setIfInBounds_toArray, List.set_cons_zero, List.set_cons_succ]
          refine wpAnyH_ready (rs := [4]) (by kernel_rfl) (by simp) ?_
          refine AllReadyH.cons rfl (fun K hK => ?_) AllReadyH.nil
          go_simp
          have HCQ := hide (unhide HPQ _ wc1a (unhide HI))
          refine (unhide HCQ).mono ?_
          rintro e wc2a ⟨hz, Gz, Cz, hc, rfl, hz1, hz2, hOR, hb⟩
          have hlwc2a := Nat.le_trans hlwc1a hb.size
          have hgbw := (unhide HBB).lt
          replace HW := hide (Below.step (unhide HW) hb)
          replace HZ := hide (Below.step (unhide HZ) hb)
          replace HB := hide (OwnV.step (unhide HB) hb)
          replace HO := hide (OwnV.step (unhide HO) hb)
          replace HWB := hide (OwnV.step (unhide HWB) hb)
          replace HGB := hide (OwnV.step (unhide HGB) hb)
          replace HGM := hide ((unhide HGM).below hb)
          replace HUZ := hide (Nat.le_trans (unhide HUZ) hb.size)
          replace HBB := hide (OwnV.step (unhide HBB) hb)
          replace HI := hide ((unhide HI).below hb)
          have hU := OwnRowsV.upto (Or.inr ⟨hz, Gz, Cz, hc, rfl, hz1, hz2, hOR⟩)
          dsimp only at hU
          obtain ⟨By, eBy⟩ : ∃ z, z = wc1a.heap.size := ⟨_, rfl⟩
          obtain ⟨Uy, eUy⟩ : ∃ z, z = wc2a.heap.size := ⟨_, rfl⟩
          rw [← eBy, ← eUy] at hU
          have HQ := hide hU
          have hlBy : gm ≤ By := by rw [eBy]; exact hlwc1a
          try (have hgB : gh < By := by rw [eBy]; exact hgbw)
          have HUY : Hid (Uy ≤ wc2a.heap.size) := Nat.le_of_eq eUy
          have EUY := hide eUy
          clear hU hOR hz1 hz2 eBy eUy
          try unfold yardV
          try dsimp only
          clear hb HCQ
          refine hK.out _ _ ⟨(unhide HB).cell (i := 0) rfl, (unhide HB).cell (i := 1) rfl, (unhide HO).cell (i := 0) rfl, (unhide HO).cell (i := 1) rfl, (unhide HO).cell (i := 2) rfl⟩ (fun hHeld => ?_)
          clear hK K
          try simp only [Act.put, List.setIfInBounds_toArray, List.set_cons_zero, List.set_cons_succ]
          refine wpAnyH_take (i := 5) (v := ?_) rfl (by kernel_rfl) (by kernel_rfl) (by kernel_rfl) (fun _ _ _ h => h) (Or.inl ⟨by rfl, ?_⟩) (by assumption) ?_
          rotate_left
          · intro wy hSw
            obtain ⟨hS0, hS1, hS2, hS3, hS4⟩ := hSw
            go_simp
            try with_reducible rfl
          try simp only [Act.put, List.getElem_toArray, List.getElem_cons_succ, List.getElem_cons_zero, List.setIfInBounds_toArray, List.set_cons_zero, List.set_cons_succ]
          refine wpAnyH_take (i := 6) (v := ?_) rfl (by kernel_rfl) (by kernel_rfl) (by kernel_rfl) (fun _ _ _ h => h) (Or.inl ⟨by rfl, ?_⟩) (by assumption) ?_
          rotate_left
          · intro wy hSw
            obtain ⟨hS0, hS1, hS2, hS3, hS4⟩ := hSw
            go_simp
            try with_reducible rfl
          try simp only [Act.put, List.getElem_toArray, List.getElem_cons_succ, List.getElem_cons_zero, List.setIfInBounds_toArray, List.set_cons_zero, List.set_cons_succ]
          refine wpAnyH_take (i := 7) (v := ?_) rfl (by kernel_rfl) (by kernel_rfl) (by kernel_rfl) (fun _ _ _ h => h) (Or.inl ⟨by rfl, ?_⟩) (by assumption) ?_
          rotate_left
          · intro wy hSw
            obtain ⟨hS0, hS1, hS2, hS3, hS4⟩ := hSw
            go_simp
            try with_reducible rfl
          try simp only [Act.put, List.getElem_toArray, List.getElem_cons_succ, List.getElem_cons_zero, List.setIfInBounds_toArray, List.set_cons_zero, List.set_cons_succ]
          refine wpAnyH_take (i := 8) (v := ?_) rfl (by kernel_rfl) (by kernel_rfl) (by kernel_rfl) (fun _ _ _ h => h) (Or.inl ⟨by rfl, ?_⟩) (by assumption) ?_
          rotate_left
          · intro wy hSw
            obtain ⟨hS0, hS1, hS2, hS3, hS4⟩ := hSw
            go_simp
            try with_reducible rfl
          try simp only [Act.put, List.getElem_toArray, List.getElem_cons_succ, List.getElem_cons_zero, List.setIfInBounds_toArray, List.set_cons_zero, List.set_cons_succ]
          refine wpAnyH_ready (rs := [10]) (by kernel_rfl) (by simp) ?_
          refine AllReadyH.cons rfl (fun K hK => ?_) AllReadyH.nil
          have rf0 := (unhide HBB).frozen 0
          have r0 := (unhide HBB).cell (i := 0) rfl
          have rf1 := (unhide HBB).frozen 1
          have r1 := (unhide HBB).cell (i := 1) rfl
          have HBN := hide (((unhide HBB).set 0 (.int .i64 s0) (by simp)).set 1 (.slice (some ⟨hz, 0, none⟩) D1.length hc) (by simp))
          have HKS : Hid (Kept (fun b => b = gh) wc2a ((wc2a.setCell ⟨gh, 0, none⟩ (.int .i64 s0)).setCell ⟨gh, 1, none⟩ (.slice (some ⟨hz, 0, none⟩) D1.length hc))) := (((Kept.refl (fun b => b = gh) _).setCell (p := ⟨gh, 0, none⟩) rfl _).setCell (p := ⟨gh, 1, none⟩) rfl _)
          have hWB := unhide HW
          replace HW := hide (hWB.trans ((unhide HKS).below hWB.size (fun b e => by omega)))
          clear hWB
          have hWB := unhide HZ
          replace HZ := hide (hWB.trans ((unhide HKS).below hWB.size (fun b e => by omega)))
          clear hWB
          replace HB := hide ((unhide HB).kept (unhide HKS) (fun e => by omega))
          replace HO := hide ((unhide HO).kept (unhide HKS) (fun e => by omega))
          replace HWB := hide ((unhide HWB).kept (unhide HKS) (fun e => by omega))
          replace HGB := hide ((unhide HGB).kept (unhide HKS) (fun e => by omega))
          replace HGM := hide ((unhide HGM).kept (unhide HKS) (fun b h1 h2 e => by omega))
          replace HUZ := hide (Nat.le_trans (unhide HUZ) (unhide HKS).size)
          replace HQ := hide ((unhide HQ).kept (unhide HKS) (fun b h1 h2 e => by omega))
          go_simp
          clear rf0 r0 rf1 r1
          refine hK.out _ _ ⟨(unhide HB).cell (i := 0) rfl, (unhide HB).cell (i := 1) rfl, (unhide HO).cell (i := 0) rfl, (unhide HO).cell (i := 1) rfl, (unhide HO).cell (i := 2) rfl⟩ (fun hHeld => ?_)
          clear hK K
          try simp only [Act.put, List.setIfInBounds_toArray, List.set_cons_zero, List.set_cons_succ]
          refine wpAnyH_take (i := 11) (v := ?_) rfl (by kernel_rfl) (by kernel_rfl) (by kernel_rfl) (fun _ _ _ h => h) (Or.inl ⟨by rfl, ?_⟩) (by assumption) ?_
          rotate_left
          · intro wy hSw
            obtain ⟨hS0, hS1, hS2, hS3, hS4⟩ := hSw
            go_simp
            try with_reducible rfl
          try simp only [Act.put, List.getElem_toArray, List.getElem_cons_succ, List.getElem_cons_zero, List.setIfInBounds_toArray, List.set_cons_zero, List.set_cons_succ]
          refine wpAnyH_take (i := 12) (v := ?_) rfl (by kernel_rfl) (by kernel_rfl) (by kernel_rfl) (fun _ _ _ h => h) (Or.inl ⟨by rfl, ?_⟩) (by assumption) ?_
          rotate_left
          · intro wy hSw
            obtain ⟨hS0, hS1, hS2, hS3, hS4⟩ := hSw
            go_simp
            try with_reducible rfl
          try simp only [Act.put, List.getElem_toArray, List.getElem_cons_succ, List.getElem_cons_zero, List.setIfInBounds_toArray, List.set_cons_zero, List.set_cons_succ]
          refine wpAnyH_done (by kernel_rfl) ?_ _
          go_wp2_with fail
          go_meet
          exact ⟨gh, hz, hc, By, Uy, rfl, rfl, rfl, HW, HZ, HWB, HGB, HGM, HBN, HQ⟩
      case rest =>
        clear HW HZ HB HO HWB HGB HGM HUZ
        obtain ⟨gh, hz, hc, By, Uy, rfl, rfl, rfl, HW, HZ, HWB, HGB, HGM, HHB, HQ⟩ := hcut
        have hh0 := (unhide HHB).cell (i := 0) rfl
        have hh1 := (unhide HHB).cell (i := 1) rfl
        have uu0 := (unhide HWB).cell (i := 0) rfl
        have uu1 := (unhide HWB).cell (i := 1) rfl
        have HEE := hide (eqYard_any s0 (.slice (some ⟨hz, 0, none⟩) D1.length hc) (.slice oa on oc) D1 _ ((unhide HQ).inn) ((unhide HSP).below (unhide HZ)))
        unfold yardV at HEE
        go_wp2_with fail
        refine (unhide HEE).mono ?_
        rintro e W16 ⟨rfl, hb⟩
        replace HW := hide (Below.step (unhide HW) hb)
        replace HZ := hide (Below.step (unhide HZ) hb)
        replace HWB := hide (OwnV.step (unhide HWB) hb)
        replace HGB := hide (OwnV.step (unhide HGB) hb)
        replace HGM := hide ((unhide HGM).below hb)
        replace HHB := hide (OwnV.step (unhide HHB) hb)
        replace HQ := hide ((unhide HQ).below hb)
        clear hb HEE hh0 hh1 uu0 uu1
        have gg0 := (unhide HGB).cell (i := 0) rfl
        have gg1 := (unhide HGB).cell (i := 1) rfl
        have HEE := hide (heldYard_v s0 (.slice (some ⟨gz, 0, none⟩) D1.length cz) D1 _ (unhide HGM).inn hDl (unhide HDR))
        unfold yardV at HEE
        go_wp2_with fail
        refine (unhide HEE).mono ?_
        rw [← unhide HPM]
        rintro e W17 ⟨rfl, hb⟩
        replace HW := hide (Below.step (unhide HW) hb)
        clear hb HEE gg0 gg1
        go_wp2
        go_ret
        exact ⟨rfl, unhide HW⟩

end Go.Proofs.Ytoplnhnkliaggaa

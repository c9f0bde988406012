/- The law of DoSignal, walked. Written by wip/mk20.py. -/
import Derived.Test.YtgmhijbepkobkaaHoH
namespace Go.Proofs.Ytgmhijbepkobkaa
open Go.RowKit

set_option maxRecDepth 100000 in
set_option maxHeartbeats 8000000 in
theorem lawDoSignal_any (h : Ho) (k m : Int) (w : World) : Calls Try.prog 10 #[h.v, vSignal k m] w fun e w' => e = .returned (.bool true) ∧ Below w.heap.size w w' := by
  have HT1 := hide fun W => toHoist_any h.q h.ld h.he h.lw h.hg h.lm h.rs W
  have HT2 := hide fun W => toSignal_any k m W
  have HS := hide fun W => specDoSignal_any h k m W
  have HI := hide fun W => implDoSignal_any h k m W
  obtain ⟨⟨y, b⟩, ez⟩ : ∃ r, r = sigH h k m := ⟨_, rfl⟩
  rw [← ez] at HS HI
  dsimp only at HS HI
  have HE := hide fun W => eqHoist_any y.q y.ld y.he y.lw y.hg y.lm y.rs W
  clear ez
  unfold Ho.v vHoist vSignal at HS HI
  unfold vHoist at HT1 HE
  unfold vSignal at HT2
  unfold Ho.v vHoist vSignal
  go_enter Try.func10, Try.ntmps10
  go_upto_region 1 with (fail)
  obtain ⟨g0, eg0⟩ : ∃ z, z = w.heap.size := ⟨_, rfl⟩
  obtain ⟨W0, eW⟩ : ∃ z, z = (w.alloc (.cells #[.int .i64 h.q, .int .i64 h.ld, .int .i64 h.he, .int .i64 h.lw, .int .i64 h.hg, .int .i64 h.lm, .int .i64 h.rs] 59)).alloc (.cells #[.int .i64 k, .int .i64 m] 62) := ⟨_, rfl⟩
  have HB0 := hide (bk_two w #[.int .i64 h.q, .int .i64 h.ld, .int .i64 h.he, .int .i64 h.lw, .int .i64 h.hg, .int .i64 h.lm, .int .i64 h.rs] #[.int .i64 k, .int .i64 m] 59 62)
  rw [← eW] at HB0 ⊢
  have HW : Hid (Below w.heap.size w W0) := (unhide HB0).below
  have HB : Hid (OwnV W0 g0 [.int .i64 h.q, .int .i64 h.ld, .int .i64 h.he, .int .i64 h.lw, .int .i64 h.hg, .int .i64 h.lm, .int .i64 h.rs]) := by rw [eg0]; exact (unhide HB0).ownV (k := 0) rfl
  have HS2 : Hid (OwnV W0 (g0 + 1) [.int .i64 k, .int .i64 m]) := by rw [eg0]; exact (unhide HB0).ownV (k := 1) rfl
  rw [← eg0]
  have hg0 : w.heap.size ≤ g0 := by omega
  have hgl := (unhide HS2).lt
  clear HB0 eW eg0
  go_cut [5, 6] (fun s1 s2 wx => ∃ (g5 : Nat), s1 = .pointer (some ⟨g5, 0, none⟩) ∧ s2 = .bool b ∧ g0 + 1 < g5 ∧ Hid (Below w.heap.size w wx) ∧ Hid (OwnV wx g0 [.int .i64 h.q, .int .i64 h.ld, .int .i64 h.he, .int .i64 h.lw, .int .i64 h.hg, .int .i64 h.lm, .int .i64 h.rs]) ∧ Hid (OwnV wx (g0 + 1) [.int .i64 k, .int .i64 m]) ∧ Hid (OwnV wx g5 [.int .i64 y.q, .int .i64 y.ld, .int .i64 y.he, .int .i64 y.lw, .int .i64 y.hg, .int .i64 y.lm, .int .i64 y.rs]))
  case first =>
    obtain ⟨wd, ewd⟩ : ∃ z, z = W0.drew := ⟨_, rfl⟩
    have hb : Below W0.heap.size W0 wd := by rw [ewd]; exact (Below.refl _ _).drew
    replace HW := hide (Below.step (unhide HW) hb)
    replace HB := hide (OwnV.step (unhide HB) hb)
    replace HS2 := hide (OwnV.step (unhide HS2) hb)
    have hszd := hb.size
    clear hb
    refine wp_region_held_drew (S := fun w' => w'.cell? ⟨g0, 0, none⟩ = some (.int .i64 h.q) ∧ w'.cell? ⟨g0, 1, none⟩ = some (.int .i64 h.ld) ∧ w'.cell? ⟨g0, 2, none⟩ = some (.int .i64 h.he) ∧ w'.cell? ⟨g0, 3, none⟩ = some (.int .i64 h.lw) ∧ w'.cell? ⟨g0, 4, none⟩ = some (.int .i64 h.hg) ∧ w'.cell? ⟨g0, 5, none⟩ = some (.int .i64 h.lm) ∧ w'.cell? ⟨g0, 6, none⟩ = some (.int .i64 h.rs) ∧ w'.cell? ⟨g0 + 1, 0, none⟩ = some (.int .i64 k) ∧ w'.cell? ⟨g0 + 1, 1, none⟩ = some (.int .i64 m)) (by kernel_rfl) ⟨by rw [← ewd]; exact (unhide HB).cell (i := 0) rfl, by rw [← ewd]; exact (unhide HB).cell (i := 1) rfl, by rw [← ewd]; exact (unhide HB).cell (i := 2) rfl, by rw [← ewd]; exact (unhide HB).cell (i := 3) rfl, by rw [← ewd]; exact (unhide HB).cell (i := 4) rfl, by rw [← ewd]; exact (unhide HB).cell (i := 5) rfl, by rw [← ewd]; exact (unhide HB).cell (i := 6) rfl, by rw [← ewd]; exact (unhide HS2).cell (i := 0) rfl, by rw [← ewd]; exact (unhide HS2).cell (i := 1) rfl⟩ (fun hHeld => ?_)
    rw [← ewd] at hHeld ⊢
    clear ewd
    refine wpAnyH_take (i := 0) (v := ?_) rfl (by kernel_rfl) (by kernel_rfl) (by kernel_rfl) (fun _ _ _ h => h) (Or.inl ⟨by rfl, ?_⟩) (by assumption) ?_
    rotate_left
    · intro wy hSw
      obtain ⟨hS0, hS1, hS2, hS3, hS4, hS5, hS6, hS7, hS8⟩ := hSw
      go_simp
      try with_reducible rfl
    try simp only [Act.put, List.getElem_toArray, List.getElem_cons_zero, List.setIfInBounds_toArray, List.set_cons_zero, List.set_cons_succ]
    refine wpAnyH_take (i := 2) (v := ?_) rfl (by kernel_rfl) (by kernel_rfl) (by kernel_rfl) (fun _ _ _ h => h) (Or.inl ⟨by rfl, ?_⟩) (by assumption) ?_
    rotate_left
    · intro wy hSw
      obtain ⟨hS0, hS1, hS2, hS3, hS4, hS5, hS6, hS7, hS8⟩ := hSw
      go_simp
      try with_reducible rfl
    try simp only [Act.put, List.getElem_toArray, List.getElem_cons_succ, List.getElem_cons_zero, List.setIfInBounds_toArray, List.set_cons_zero, List.set_cons_succ]
    refine wpAnyH_ready (rs := [1, 8]) (by kernel_rfl) (by simp) ?_
    refine AllReadyH.cons rfl (fun K hK => ?_) (AllReadyH.cons rfl (fun K hK => ?_) AllReadyH.nil)
    · go_simp
      have HCQ := hide (unhide HT1 wd)
      refine (unhide HCQ).mono ?_
      rintro e wc0 ⟨rfl, hb⟩
      replace HW := hide (Below.step (unhide HW) hb)
      replace HB := hide (OwnV.step (unhide HB) hb)
      replace HS2 := hide (OwnV.step (unhide HS2) hb)
      have hswc0 := hb.size
      clear hb HCQ
      refine hK.out _ _ ⟨(unhide HB).cell (i := 0) rfl, (unhide HB).cell (i := 1) rfl, (unhide HB).cell (i := 2) rfl, (unhide HB).cell (i := 3) rfl, (unhide HB).cell (i := 4) rfl, (unhide HB).cell (i := 5) rfl, (unhide HB).cell (i := 6) rfl, (unhide HS2).cell (i := 0) rfl, (unhide HS2).cell (i := 1) rfl⟩ (fun hHeld => ?_)
      clear hK K
      try simp only [Act.put, List.setIfInBounds_toArray, List.set_cons_zero, List.set_cons_succ]
      refine wpAnyH_ready (rs := [3, 8]) (by kernel_rfl) (by simp) ?_
      refine AllReadyH.cons rfl (fun K hK => ?_) (AllReadyH.cons rfl (fun K hK => ?_) AllReadyH.nil)
      · go_simp
        have HCQ := hide (unhide HT2 wc0)
        refine (unhide HCQ).mono ?_
        rintro e wc1 ⟨rfl, hb⟩
        replace HW := hide (Below.step (unhide HW) hb)
        replace HB := hide (OwnV.step (unhide HB) hb)
        replace HS2 := hide (OwnV.step (unhide HS2) hb)
        have hswc1 := hb.size
        clear hb HCQ
        refine hK.out _ _ ⟨(unhide HB).cell (i := 0) rfl, (unhide HB).cell (i := 1) rfl, (unhide HB).cell (i := 2) rfl, (unhide HB).cell (i := 3) rfl, (unhide HB).cell (i := 4) rfl, (unhide HB).cell (i := 5) rfl, (unhide HB).cell (i := 6) rfl, (unhide HS2).cell (i := 0) rfl, (unhide HS2).cell (i := 1) rfl⟩ (fun hHeld => ?_)
        clear hK K
        try simp only [Act.put, List.setIfInBounds_toArray, List.set_cons_zero, List.set_cons_succ]
        refine wpAnyH_ready (rs := [4, 8]) (by kernel_rfl) (by simp) ?_
        refine AllReadyH.cons rfl (fun K hK => ?_) (AllReadyH.cons rfl (fun K hK => ?_) AllReadyH.nil)
        · go_simp
          have HCQ := hide (unhide HS wc1)
          refine (unhide HCQ).mono ?_
          rintro e wc2 ⟨rfl, hb⟩
          replace HW := hide (Below.step (unhide HW) hb)
          replace HB := hide (OwnV.step (unhide HB) hb)
          replace HS2 := hide (OwnV.step (unhide HS2) hb)
          have hswc2 := hb.size
          clear hb HCQ
          refine hK.out _ _ ⟨(unhide HB).cell (i := 0) rfl, (unhide HB).cell (i := 1) rfl, (unhide HB).cell (i := 2) rfl, (unhide HB).cell (i := 3) rfl, (unhide HB).cell (i := 4) rfl, (unhide HB).cell (i := 5) rfl, (unhide HB).cell (i := 6) rfl, (unhide HS2).cell (i := 0) rfl, (unhide HS2).cell (i := 1) rfl⟩ (fun hHeld => ?_)
          clear hK K
          try simp only [Act.put, List.setIfInBounds_toArray, List.set_cons_zero, List.set_cons_succ]
          refine wpAnyH_take (i := 5) (v := ?_) rfl (by kernel_rfl) (by kernel_rfl) (by kernel_rfl) (fun _ _ _ h => h) (Or.inl ⟨by rfl, ?_⟩) (by assumption) ?_
          rotate_left
          · intro wy hSw
            obtain ⟨hS0, hS1, hS2, hS3, hS4, hS5, hS6, hS7, hS8⟩ := hSw
            go_simp
            try with_reducible rfl
          try simp only [Act.put, List.getElem_toArray, List.getElem_cons_succ, List.getElem_cons_zero, List.setIfInBounds_toArray, List.set_cons_zero, List.set_cons_succ]
          refine wpAnyH_take (i := 6) (v := ?_) rfl (by kernel_rfl) (by kernel_rfl) (by kernel_rfl) (fun _ _ _ h => h) (Or.inl ⟨by rfl, ?_⟩) (by assumption) ?_
          rotate_left
          · intro wy hSw
            obtain ⟨hS0, hS1, hS2, hS3, hS4, hS5, hS6, hS7, hS8⟩ := hSw
            go_simp
            try with_reducible rfl
          try simp only [Act.put, List.getElem_toArray, List.getElem_cons_succ, List.getElem_cons_zero, List.setIfInBounds_toArray, List.set_cons_zero, List.set_cons_succ]
          refine wpAnyH_take (i := 7) (v := ?_) rfl (by kernel_rfl) (by kernel_rfl) (by kernel_rfl) (fun _ _ _ h => h) (Or.inl ⟨by rfl, ?_⟩) (by assumption) ?_
          rotate_left
          · intro wy hSw
            obtain ⟨hS0, hS1, hS2, hS3, hS4, hS5, hS6, hS7, hS8⟩ := hSw
            go_simp
            try with_reducible rfl
          try simp only [Act.put, List.getElem_toArray, List.getElem_cons_succ, List.getElem_cons_zero, List.setIfInBounds_toArray, List.set_cons_zero, List.set_cons_succ]
          refine wpAnyH_ready (rs := [8]) (by kernel_rfl) (by simp) ?_
          refine AllReadyH.cons rfl (fun K hK => ?_) AllReadyH.nil
          go_simp
          obtain ⟨g5, eg5⟩ : ∃ z, z = wc2.heap.size := ⟨_, rfl⟩
          obtain ⟨wb3, ewb3⟩ : ∃ z, z = wc2.alloc (.cells #[.int .i64 0, .int .i64 0, .int .i64 0, .int .i64 0, .int .i64 0, .int .i64 0, .int .i64 0] 37) := ⟨_, rfl⟩
          have hb : Below wc2.heap.size wc2 wb3 := by rw [ewb3]; exact Below.alloc1 _ _
          have HN : Hid (OwnV wb3 g5 [.int .i64 0, .int .i64 0, .int .i64 0, .int .i64 0, .int .i64 0, .int .i64 0, .int .i64 0]) := by rw [ewb3, eg5]; exact ownV_alloc _ _ _
          rw [← ewb3, ← eg5]
          replace HW := hide (Below.step (unhide HW) hb)
          replace HB := hide (OwnV.step (unhide HB) hb)
          replace HS2 := hide (OwnV.step (unhide HS2) hb)
          have hgn : g0 + 1 < g5 := by omega
          clear hb ewb3 eg5
          refine hK.out _ _ ⟨(unhide HB).cell (i := 0) rfl, (unhide HB).cell (i := 1) rfl, (unhide HB).cell (i := 2) rfl, (unhide HB).cell (i := 3) rfl, (unhide HB).cell (i := 4) rfl, (unhide HB).cell (i := 5) rfl, (unhide HB).cell (i := 6) rfl, (unhide HS2).cell (i := 0) rfl, (unhide HS2).cell (i := 1) rfl⟩ (fun hHeld => ?_)
          clear hK K
          try simp only [Act.put, List.setIfInBounds_toArray, List.set_cons_zero, List.set_cons_succ]
          refine wpAnyH_ready (rs := [9]) (by kernel_rfl) (by simp) ?_
          refine AllReadyH.cons rfl (fun K hK => ?_) AllReadyH.nil
          have rf0 := (unhide HN).frozen 0
          have r0 := (unhide HN).cell (i := 0) rfl
          have rf1 := (unhide HN).frozen 1
          have r1 := (unhide HN).cell (i := 1) rfl
          have rf2 := (unhide HN).frozen 2
          have r2 := (unhide HN).cell (i := 2) rfl
          have rf3 := (unhide HN).frozen 3
          have r3 := (unhide HN).cell (i := 3) rfl
          have rf4 := (unhide HN).frozen 4
          have r4 := (unhide HN).cell (i := 4) rfl
          have rf5 := (unhide HN).frozen 5
          have r5 := (unhide HN).cell (i := 5) rfl
          have rf6 := (unhide HN).frozen 6
          have r6 := (unhide HN).cell (i := 6) rfl
          have HBN := hide ((((((((unhide HN).set 0 (.int .i64 y.q) (by simp)).set 1 (.int .i64 y.ld) (by simp)).set 2 (.int .i64 y.he) (by simp)).set 3 (.int .i64 y.lw) (by simp)).set 4 (.int .i64 y.hg) (by simp)).set 5 (.int .i64 y.lm) (by simp)).set 6 (.int .i64 y.rs) (by simp))
          have HKS : Hid (Kept (fun b => b = g5) wb3 (((((((wb3.setCell ⟨g5, 0, none⟩ (.int .i64 y.q)).setCell ⟨g5, 1, none⟩ (.int .i64 y.ld)).setCell ⟨g5, 2, none⟩ (.int .i64 y.he)).setCell ⟨g5, 3, none⟩ (.int .i64 y.lw)).setCell ⟨g5, 4, none⟩ (.int .i64 y.hg)).setCell ⟨g5, 5, none⟩ (.int .i64 y.lm)).setCell ⟨g5, 6, none⟩ (.int .i64 y.rs))) := ((((((((Kept.refl (fun b => b = g5) _).setCell (p := ⟨g5, 0, none⟩) rfl _).setCell (p := ⟨g5, 1, none⟩) rfl _).setCell (p := ⟨g5, 2, none⟩) rfl _).setCell (p := ⟨g5, 3, none⟩) rfl _).setCell (p := ⟨g5, 4, none⟩) rfl _).setCell (p := ⟨g5, 5, none⟩) rfl _).setCell (p := ⟨g5, 6, none⟩) rfl _)
          have hWB := unhide HW
          replace HW := hide (hWB.trans ((unhide HKS).below hWB.size (fun b e => by omega)))
          clear hWB
          replace HB := hide ((unhide HB).kept (unhide HKS) (fun e => by omega))
          replace HS2 := hide ((unhide HS2).kept (unhide HKS) (fun e => by omega))
          go_simp
          clear rf0 r0 rf1 r1 rf2 r2 rf3 r3 rf4 r4 rf5 r5 rf6 r6
          refine hK.out _ _ ⟨(unhide HB).cell (i := 0) rfl, (unhide HB).cell (i := 1) rfl, (unhide HB).cell (i := 2) rfl, (unhide HB).cell (i := 3) rfl, (unhide HB).cell (i := 4) rfl, (unhide HB).cell (i := 5) rfl, (unhide HB).cell (i := 6) rfl, (unhide HS2).cell (i := 0) rfl, (unhide HS2).cell (i := 1) rfl⟩ (fun hHeld => ?_)
          clear hK K
          try simp only [Act.put, List.setIfInBounds_toArray, List.set_cons_zero, List.set_cons_succ]
          refine wpAnyH_take (i := 10) (v := ?_) rfl (by kernel_rfl) (by kernel_rfl) (by kernel_rfl) (fun _ _ _ h => h) (Or.inl ⟨by rfl, ?_⟩) (by assumption) ?_
          rotate_left
          · intro wy hSw
            obtain ⟨hS0, hS1, hS2, hS3, hS4, hS5, hS6, hS7, hS8⟩ := hSw
            go_simp
            try with_reducible rfl
          try simp only [Act.put, List.getElem_toArray, List.getElem_cons_succ, List.getElem_cons_zero, List.setIfInBounds_toArray, List.set_cons_zero, List.set_cons_succ]
          refine wpAnyH_done (by kernel_rfl) ?_ _
          go_wp2
          go_meet
          exact ⟨g5, by trivial, by trivial, hgn, HW, HB, HS2, HBN⟩
        · go_simp
          obtain ⟨g5, eg5⟩ : ∃ z, z = wc1.heap.size := ⟨_, rfl⟩
          obtain ⟨wb2, ewb2⟩ : ∃ z, z = wc1.alloc (.cells #[.int .i64 0, .int .i64 0, .int .i64 0, .int .i64 0, .int .i64 0, .int .i64 0, .int .i64 0] 37) := ⟨_, rfl⟩
          have hb : Below wc1.heap.size wc1 wb2 := by rw [ewb2]; exact Below.alloc1 _ _
          have HN : Hid (OwnV wb2 g5 [.int .i64 0, .int .i64 0, .int .i64 0, .int .i64 0, .int .i64 0, .int .i64 0, .int .i64 0]) := by rw [ewb2, eg5]; exact ownV_alloc _ _ _
          rw [← ewb2, ← eg5]
          replace HW := hide (Below.step (unhide HW) hb)
          replace HB := hide (OwnV.step (unhide HB) hb)
          replace HS2 := hide (OwnV.step (unhide HS2) hb)
          have hgn : g0 + 1 < g5 := by omega
          clear hb ewb2 eg5
          refine hK.out _ _ ⟨(unhide HB).cell (i := 0) rfl, (unhide HB).cell (i := 1) rfl, (unhide HB).cell (i := 2) rfl, (unhide HB).cell (i := 3) rfl, (unhide HB).cell (i := 4) rfl, (unhide HB).cell (i := 5) rfl, (unhide HB).cell (i := 6) rfl, (unhide HS2).cell (i := 0) rfl, (unhide HS2).cell (i := 1) rfl⟩ (fun hHeld => ?_)
          clear hK K
          try simp only [Act.put, List.setIfInBounds_toArray, List.set_cons_zero, List.set_cons_succ]
          refine wpAnyH_ready (rs := [4]) (by kernel_rfl) (by simp) ?_
          refine AllReadyH.cons rfl (fun K hK => ?_) AllReadyH.nil
          go_simp
          have HCQ := hide (unhide HS wb2)
          refine (unhide HCQ).mono ?_
          rintro e wc2a ⟨rfl, hb⟩
          replace HW := hide (Below.step (unhide HW) hb)
          replace HB := hide (OwnV.step (unhide HB) hb)
          replace HS2 := hide (OwnV.step (unhide HS2) hb)
          replace HN := hide (OwnV.step (unhide HN) hb)
          have hswc2a := hb.size
          clear hb HCQ
          refine hK.out _ _ ⟨(unhide HB).cell (i := 0) rfl, (unhide HB).cell (i := 1) rfl, (unhide HB).cell (i := 2) rfl, (unhide HB).cell (i := 3) rfl, (unhide HB).cell (i := 4) rfl, (unhide HB).cell (i := 5) rfl, (unhide HB).cell (i := 6) rfl, (unhide HS2).cell (i := 0) rfl, (unhide HS2).cell (i := 1) rfl⟩ (fun hHeld => ?_)
          clear hK K
          try simp only [Act.put, List.setIfInBounds_toArray, List.set_cons_zero, List.set_cons_succ]
          refine wpAnyH_take (i := 5) (v := ?_) rfl (by kernel_rfl) (by kernel_rfl) (by kernel_rfl) (fun _ _ _ h => h) (Or.inl ⟨by rfl, ?_⟩) (by assumption) ?_
          rotate_left
          · intro wy hSw
            obtain ⟨hS0, hS1, hS2, hS3, hS4, hS5, hS6, hS7, hS8⟩ := hSw
            go_simp
            try with_reducible rfl
          try simp only [Act.put, List.getElem_toArray, List.getElem_cons_succ, List.getElem_cons_zero, List.setIfInBounds_toArray, List.set_cons_zero, List.set_cons_succ]
          refine wpAnyH_take (i := 6) (v := ?_) rfl (by kernel_rfl) (by kernel_rfl) (by kernel_rfl) (fun _ _ _ h => h) (Or.inl ⟨by rfl, ?_⟩) (by assumption) ?_
          rotate_left
          · intro wy hSw
            obtain ⟨hS0, hS1, hS2, hS3, hS4, hS5, hS6, hS7, hS8⟩ := hSw
            go_simp
            try with_reducible rfl
          try simp only [Act.put, List.getElem_toArray, List.getElem_cons_succ, List.getElem_cons_zero, List.setIfInBounds_toArray, List.set_cons_zero, List.set_cons_succ]
          refine wpAnyH_take (i := 7) (v := ?_) rfl (by kernel_rfl) (by kernel_rfl) (by kernel_rfl) (fun _ _ _ h => h) (Or.inl ⟨by rfl, ?_⟩) (by assumption) ?_
          rotate_left
          · intro wy hSw
            obtain ⟨hS0, hS1, hS2, hS3, hS4, hS5, hS6, hS7, hS8⟩ := hSw
            go_simp
            try with_reducible rfl
          try simp only [Act.put, List.getElem_toArray, List.getElem_cons_succ, List.getElem_cons_zero, List.setIfInBounds_toArray, List.set_cons_zero, List.set_cons_succ]
          refine wpAnyH_ready (rs := [9]) (by kernel_rfl) (by simp) ?_
          refine AllReadyH.cons rfl (fun K hK => ?_) AllReadyH.nil
          have rf0 := (unhide HN).frozen 0
          have r0 := (unhide HN).cell (i := 0) rfl
          have rf1 := (unhide HN).frozen 1
          have r1 := (unhide HN).cell (i := 1) rfl
          have rf2 := (unhide HN).frozen 2
          have r2 := (unhide HN).cell (i := 2) rfl
          have rf3 := (unhide HN).frozen 3
          have r3 := (unhide HN).cell (i := 3) rfl
          have rf4 := (unhide HN).frozen 4
          have r4 := (unhide HN).cell (i := 4) rfl
          have rf5 := (unhide HN).frozen 5
          have r5 := (unhide HN).cell (i := 5) rfl
          have rf6 := (unhide HN).frozen 6
          have r6 := (unhide HN).cell (i := 6) rfl
          have HBN := hide ((((((((unhide HN).set 0 (.int .i64 y.q) (by simp)).set 1 (.int .i64 y.ld) (by simp)).set 2 (.int .i64 y.he) (by simp)).set 3 (.int .i64 y.lw) (by simp)).set 4 (.int .i64 y.hg) (by simp)).set 5 (.int .i64 y.lm) (by simp)).set 6 (.int .i64 y.rs) (by simp))
          have HKS : Hid (Kept (fun b => b = g5) wc2a (((((((wc2a.setCell ⟨g5, 0, none⟩ (.int .i64 y.q)).setCell ⟨g5, 1, none⟩ (.int .i64 y.ld)).setCell ⟨g5, 2, none⟩ (.int .i64 y.he)).setCell ⟨g5, 3, none⟩ (.int .i64 y.lw)).setCell ⟨g5, 4, none⟩ (.int .i64 y.hg)).setCell ⟨g5, 5, none⟩ (.int .i64 y.lm)).setCell ⟨g5, 6, none⟩ (.int .i64 y.rs))) := ((((((((Kept.refl (fun b => b = g5) _).setCell (p := ⟨g5, 0, none⟩) rfl _).setCell (p := ⟨g5, 1, none⟩) rfl _).setCell (p := ⟨g5, 2, none⟩) rfl _).setCell (p := ⟨g5, 3, none⟩) rfl _).setCell (p := ⟨g5, 4, none⟩) rfl _).setCell (p := ⟨g5, 5, none⟩) rfl _).setCell (p := ⟨g5, 6, none⟩) rfl _)
          have hWB := unhide HW
          replace HW := hide (hWB.trans ((unhide HKS).below hWB.size (fun b e => by omega)))
          clear hWB
          replace HB := hide ((unhide HB).kept (unhide HKS) (fun e => by omega))
          replace HS2 := hide ((unhide HS2).kept (unhide HKS) (fun e => by omega))
          go_simp
          clear rf0 r0 rf1 r1 rf2 r2 rf3 r3 rf4 r4 rf5 r5 rf6 r6
          refine hK.out _ _ ⟨(unhide HB).cell (i := 0) rfl, (unhide HB).cell (i := 1) rfl, (unhide HB).cell (i := 2) rfl, (unhide HB).cell (i := 3) rfl, (unhide HB).cell (i := 4) rfl, (unhide HB).cell (i := 5) rfl, (unhide HB).cell (i := 6) rfl, (unhide HS2).cell (i := 0) rfl, (unhide HS2).cell (i := 1) rfl⟩ (fun hHeld => ?_)
          clear hK K
          try simp only [Act.put, List.setIfInBounds_toArray, List.set_cons_zero, List.set_cons_succ]
          refine wpAnyH_take (i := 10) (v := ?_) rfl (by kernel_rfl) (by kernel_rfl) (by kernel_rfl) (fun _ _ _ h => h) (Or.inl ⟨by rfl, ?_⟩) (by assumption) ?_
          rotate_left
          · intro wy hSw
            obtain ⟨hS0, hS1, hS2, hS3, hS4, hS5, hS6, hS7, hS8⟩ := hSw
            go_simp
            try with_reducible rfl
          try simp only [Act.put, List.getElem_toArray, List.getElem_cons_succ, List.getElem_cons_zero, List.setIfInBounds_toArray, List.set_cons_zero, List.set_cons_succ]
          refine wpAnyH_done (by kernel_rfl) ?_ _
          go_wp2
          go_meet
          exact ⟨g5, by trivial, by trivial, hgn, HW, HB, HS2, HBN⟩
      · go_simp
        obtain ⟨g5, eg5⟩ : ∃ z, z = wc0.heap.size := ⟨_, rfl⟩
        obtain ⟨wb1, ewb1⟩ : ∃ z, z = wc0.alloc (.cells #[.int .i64 0, .int .i64 0, .int .i64 0, .int .i64 0, .int .i64 0, .int .i64 0, .int .i64 0] 37) := ⟨_, rfl⟩
        have hb : Below wc0.heap.size wc0 wb1 := by rw [ewb1]; exact Below.alloc1 _ _
        have HN : Hid (OwnV wb1 g5 [.int .i64 0, .int .i64 0, .int .i64 0, .int .i64 0, .int .i64 0, .int .i64 0, .int .i64 0]) := by rw [ewb1, eg5]; exact ownV_alloc _ _ _
        rw [← ewb1, ← eg5]
        replace HW := hide (Below.step (unhide HW) hb)
        replace HB := hide (OwnV.step (unhide HB) hb)
        replace HS2 := hide (OwnV.step (unhide HS2) hb)
        have hgn : g0 + 1 < g5 := by omega
        clear hb ewb1 eg5
        refine hK.out _ _ ⟨(unhide HB).cell (i := 0) rfl, (unhide HB).cell (i := 1) rfl, (unhide HB).cell (i := 2) rfl, (unhide HB).cell (i := 3) rfl, (unhide HB).cell (i := 4) rfl, (unhide HB).cell (i := 5) rfl, (unhide HB).cell (i := 6) rfl, (unhide HS2).cell (i := 0) rfl, (unhide HS2).cell (i := 1) rfl⟩ (fun hHeld => ?_)
        clear hK K
        try simp only [Act.put, List.setIfInBounds_toArray, List.set_cons_zero, List.set_cons_succ]
        refine wpAnyH_ready (rs := [3]) (by kernel_rfl) (by simp) ?_
        refine AllReadyH.cons rfl (fun K hK => ?_) AllReadyH.nil
        go_simp
        have HCQ := hide (unhide HT2 wb1)
        refine (unhide HCQ).mono ?_
        rintro e wc1a ⟨rfl, hb⟩
        replace HW := hide (Below.step (unhide HW) hb)
        replace HB := hide (OwnV.step (unhide HB) hb)
        replace HS2 := hide (OwnV.step (unhide HS2) hb)
        replace HN := hide (OwnV.step (unhide HN) hb)
        have hswc1a := hb.size
        clear hb HCQ
        refine hK.out _ _ ⟨(unhide HB).cell (i := 0) rfl, (unhide HB).cell (i := 1) rfl, (unhide HB).cell (i := 2) rfl, (unhide HB).cell (i := 3) rfl, (unhide HB).cell (i := 4) rfl, (unhide HB).cell (i := 5) rfl, (unhide HB).cell (i := 6) rfl, (unhide HS2).cell (i := 0) rfl, (unhide HS2).cell (i := 1) rfl⟩ (fun hHeld => ?_)
        clear hK K
        try simp only [Act.put, List.setIfInBounds_toArray, List.set_cons_zero, List.set_cons_succ]
        refine wpAnyH_ready (rs := [4]) (by kernel_rfl) (by simp) ?_
        refine AllReadyH.cons rfl (fun K hK => ?_) AllReadyH.nil
        go_simp
        have HCQ := hide (unhide HS wc1a)
        refine (unhide HCQ).mono ?_
        rintro e wc2a ⟨rfl, hb⟩
        replace HW := hide (Below.step (unhide HW) hb)
        replace HB := hide (OwnV.step (unhide HB) hb)
        replace HS2 := hide (OwnV.step (unhide HS2) hb)
        replace HN := hide (OwnV.step (unhide HN) hb)
        have hswc2a := hb.size
        clear hb HCQ
        refine hK.out _ _ ⟨(unhide HB).cell (i := 0) rfl, (unhide HB).cell (i := 1) rfl, (unhide HB).cell (i := 2) rfl, (unhide HB).cell (i := 3) rfl, (unhide HB).cell (i := 4) rfl, (unhide HB).cell (i := 5) rfl, (unhide HB).cell (i := 6) rfl, (unhide HS2).cell (i := 0) rfl, (unhide HS2).cell (i := 1) rfl⟩ (fun hHeld => ?_)
        clear hK K
        try simp only [Act.put, List.setIfInBounds_toArray, List.set_cons_zero, List.set_cons_succ]
        refine wpAnyH_take (i := 5) (v := ?_) rfl (by kernel_rfl) (by kernel_rfl) (by kernel_rfl) (fun _ _ _ h => h) (Or.inl ⟨by rfl, ?_⟩) (by assumption) ?_
        rotate_left
        · intro wy hSw
          obtain ⟨hS0, hS1, hS2, hS3, hS4, hS5, hS6, hS7, hS8⟩ := hSw
          go_simp
          try with_reducible rfl
        try simp only [Act.put, List.getElem_toArray, List.getElem_cons_succ, List.getElem_cons_zero, List.setIfInBounds_toArray, List.set_cons_zero, List.set_cons_succ]
        refine wpAnyH_take (i := 6) (v := ?_) rfl (by kernel_rfl) (by kernel_rfl) (by kernel_rfl) (fun _ _ _ h => h) (Or.inl ⟨by rfl, ?_⟩) (by assumption) ?_
        rotate_left
        · intro wy hSw
          obtain ⟨hS0, hS1, hS2, hS3, hS4, hS5, hS6, hS7, hS8⟩ := hSw
          go_simp
          try with_reducible rfl
        try simp only [Act.put, List.getElem_toArray, List.getElem_cons_succ, List.getElem_cons_zero, List.setIfInBounds_toArray, List.set_cons_zero, List.set_cons_succ]
        refine wpAnyH_take (i := 7) (v := ?_) rfl (by kernel_rfl) (by kernel_rfl) (by kernel_rfl) (fun _ _ _ h => h) (Or.inl ⟨by rfl, ?_⟩) (by assumption) ?_
        rotate_left
        · intro wy hSw
          obtain ⟨hS0, hS1, hS2, hS3, hS4, hS5, hS6, hS7, hS8⟩ := hSw
          go_simp
          try with_reducible rfl
        try simp only [Act.put, List.getElem_toArray, List.getElem_cons_succ, List.getElem_cons_zero, List.setIfInBounds_toArray, List.set_cons_zero, List.set_cons_succ]
        refine wpAnyH_ready (rs := [9]) (by kernel_rfl) (by simp) ?_
        refine AllReadyH.cons rfl (fun K hK => ?_) AllReadyH.nil
        have rf0 := (unhide HN).frozen 0
        have r0 := (unhide HN).cell (i := 0) rfl
        have rf1 := (unhide HN).frozen 1
        have r1 := (unhide HN).cell (i := 1) rfl
        have rf2 := (unhide HN).frozen 2
        have r2 := (unhide HN).cell (i := 2) rfl
        have rf3 := (unhide HN).frozen 3
        have r3 := (unhide HN).cell (i := 3) rfl
        have rf4 := (unhide HN).frozen 4
        have r4 := (unhide HN).cell (i := 4) rfl
        have rf5 := (unhide HN).frozen 5
        have r5 := (unhide HN).cell (i := 5) rfl
        have rf6 := (unhide HN).frozen 6
        have r6 := (unhide HN).cell (i := 6) rfl
        have HBN := hide ((((((((unhide HN).set 0 (.int .i64 y.q) (by simp)).set 1 (.int .i64 y.ld) (by simp)).set 2 (.int .i64 y.he) (by simp)).set 3 (.int .i64 y.lw) (by simp)).set 4 (.int .i64 y.hg) (by simp)).set 5 (.int .i64 y.lm) (by simp)).set 6 (.int .i64 y.rs) (by simp))
        have HKS : Hid (Kept (fun b => b = g5) wc2a (((((((wc2a.setCell ⟨g5, 0, none⟩ (.int .i64 y.q)).setCell ⟨g5, 1, none⟩ (.int .i64 y.ld)).setCell ⟨g5, 2, none⟩ (.int .i64 y.he)).setCell ⟨g5, 3, none⟩ (.int .i64 y.lw)).setCell ⟨g5, 4, none⟩ (.int .i64 y.hg)).setCell ⟨g5, 5, none⟩ (.int .i64 y.lm)).setCell ⟨g5, 6, none⟩ (.int .i64 y.rs))) := ((((((((Kept.refl (fun b => b = g5) _).setCell (p := ⟨g5, 0, none⟩) rfl _).setCell (p := ⟨g5, 1, none⟩) rfl _).setCell (p := ⟨g5, 2, none⟩) rfl _).setCell (p := ⟨g5, 3, none⟩) rfl _).setCell (p := ⟨g5, 4, none⟩) rfl _).setCell (p := ⟨g5, 5, none⟩) rfl _).setCell (p := ⟨g5, 6, none⟩) rfl _)
        have hWB := unhide HW
        replace HW := hide (hWB.trans ((unhide HKS).below hWB.size (fun b e => by omega)))
        clear hWB
        replace HB := hide ((unhide HB).kept (unhide HKS) (fun e => by omega))
        replace HS2 := hide ((unhide HS2).kept (unhide HKS) (fun e => by omega))
        go_simp
        clear rf0 r0 rf1 r1 rf2 r2 rf3 r3 rf4 r4 rf5 r5 rf6 r6
        refine hK.out _ _ ⟨(unhide HB).cell (i := 0) rfl, (unhide HB).cell (i := 1) rfl, (unhide HB).cell (i := 2) rfl, (unhide HB).cell (i := 3) rfl, (unhide HB).cell (i := 4) rfl, (unhide HB).cell (i := 5) rfl, (unhide HB).cell (i := 6) rfl, (unhide HS2).cell (i := 0) rfl, (unhide HS2).cell (i := 1) rfl⟩ (fun hHeld => ?_)
        clear hK K
        try simp only [Act.put, List.setIfInBounds_toArray, List.set_cons_zero, List.set_cons_succ]
        refine wpAnyH_take (i := 10) (v := ?_) rfl (by kernel_rfl) (by kernel_rfl) (by kernel_rfl) (fun _ _ _ h => h) (Or.inl ⟨by rfl, ?_⟩) (by assumption) ?_
        rotate_left
        · intro wy hSw
          obtain ⟨hS0, hS1, hS2, hS3, hS4, hS5, hS6, hS7, hS8⟩ := hSw
          go_simp
          try with_reducible rfl
        try simp only [Act.put, List.getElem_toArray, List.getElem_cons_succ, List.getElem_cons_zero, List.setIfInBounds_toArray, List.set_cons_zero, List.set_cons_succ]
        refine wpAnyH_done (by kernel_rfl) ?_ _
        go_wp2
        go_meet
        exact ⟨g5, by trivial, by trivial, hgn, HW, HB, HS2, HBN⟩
    · go_simp
      obtain ⟨g5, eg5⟩ : ∃ z, z = wd.heap.size := ⟨_, rfl⟩
      obtain ⟨wb0, ewb0⟩ : ∃ z, z = wd.alloc (.cells #[.int .i64 0, .int .i64 0, .int .i64 0, .int .i64 0, .int .i64 0, .int .i64 0, .int .i64 0] 37) := ⟨_, rfl⟩
      have hb : Below wd.heap.size wd wb0 := by rw [ewb0]; exact Below.alloc1 _ _
      have HN : Hid (OwnV wb0 g5 [.int .i64 0, .int .i64 0, .int .i64 0, .int .i64 0, .int .i64 0, .int .i64 0, .int .i64 0]) := by rw [ewb0, eg5]; exact ownV_alloc _ _ _
      rw [← ewb0, ← eg5]
      replace HW := hide (Below.step (unhide HW) hb)
      replace HB := hide (OwnV.step (unhide HB) hb)
      replace HS2 := hide (OwnV.step (unhide HS2) hb)
      have hgn : g0 + 1 < g5 := by omega
      clear hb ewb0 eg5
      refine hK.out _ _ ⟨(unhide HB).cell (i := 0) rfl, (unhide HB).cell (i := 1) rfl, (unhide HB).cell (i := 2) rfl, (unhide HB).cell (i := 3) rfl, (unhide HB).cell (i := 4) rfl, (unhide HB).cell (i := 5) rfl, (unhide HB).cell (i := 6) rfl, (unhide HS2).cell (i := 0) rfl, (unhide HS2).cell (i := 1) rfl⟩ (fun hHeld => ?_)
      clear hK K
      try simp only [Act.put, List.setIfInBounds_toArray, List.set_cons_zero, List.set_cons_succ]
      refine wpAnyH_ready (rs := [1]) (by kernel_rfl) (by simp) ?_
      refine AllReadyH.cons rfl (fun K hK => ?_) AllReadyH.nil
      go_simp
      have HCQ := hide (unhide HT1 wb0)
      refine (unhide HCQ).mono ?_
      rintro e wc0a ⟨rfl, hb⟩
      replace HW := hide (Below.step (unhide HW) hb)
      replace HB := hide (OwnV.step (unhide HB) hb)
      replace HS2 := hide (OwnV.step (unhide HS2) hb)
      replace HN := hide (OwnV.step (unhide HN) hb)
      have hswc0a := hb.size
      clear hb HCQ
      refine hK.out _ _ ⟨(unhide HB).cell (i := 0) rfl, (unhide HB).cell (i := 1) rfl, (unhide HB).cell (i := 2) rfl, (unhide HB).cell (i := 3) rfl, (unhide HB).cell (i := 4) rfl, (unhide HB).cell (i := 5) rfl, (unhide HB).cell (i := 6) rfl, (unhide HS2).cell (i := 0) rfl, (unhide HS2).cell (i := 1) rfl⟩ (fun hHeld => ?_)
      clear hK K
      try simp only [Act.put, List.setIfInBounds_toArray, List.set_cons_zero, List.set_cons_succ]
      refine wpAnyH_ready (rs := [3]) (by kernel_rfl) (by simp) ?_
      refine AllReadyH.cons rfl (fun K hK => ?_) AllReadyH.nil
      go_simp
      have HCQ := hide (unhide HT2 wc0a)
      refine (unhide HCQ).mono ?_
      rintro e wc1a ⟨rfl, hb⟩
      replace HW := hide (Below.step (unhide HW) hb)
      replace HB := hide (OwnV.step (unhide HB) hb)
      replace HS2 := hide (OwnV.step (unhide HS2) hb)
      replace HN := hide (OwnV.step (unhide HN) hb)
      have hswc1a := hb.size
      clear hb HCQ
      refine hK.out _ _ ⟨(unhide HB).cell (i := 0) rfl, (unhide HB).cell (i := 1) rfl, (unhide HB).cell (i := 2) rfl, (unhide HB).cell (i := 3) rfl, (unhide HB).cell (i := 4) rfl, (unhide HB).cell (i := 5) rfl, (unhide HB).cell (i := 6) rfl, (unhide HS2).cell (i := 0) rfl, (unhide HS2).cell (i := 1) rfl⟩ (fun hHeld => ?_)
      clear hK K
      try simp only [Act.put, List.setIfInBounds_toArray, List.set_cons_zero, List.set_cons_succ]
      refine wpAnyH_ready (rs := [4]) (by kernel_rfl) (by simp) ?_
      refine AllReadyH.cons rfl (fun K hK => ?_) AllReadyH.nil
      go_simp
      have HCQ := hide (unhide HS wc1a)
      refine (unhide HCQ).mono ?_
      rintro e wc2a ⟨rfl, hb⟩
      replace HW := hide (Below.step (unhide HW) hb)
      replace HB := hide (OwnV.step (unhide HB) hb)
      replace HS2 := hide (OwnV.step (unhide HS2) hb)
      replace HN := hide (OwnV.step (unhide HN) hb)
      have hswc2a := hb.size
      clear hb HCQ
      refine hK.out _ _ ⟨(unhide HB).cell (i := 0) rfl, (unhide HB).cell (i := 1) rfl, (unhide HB).cell (i := 2) rfl, (unhide HB).cell (i := 3) rfl, (unhide HB).cell (i := 4) rfl, (unhide HB).cell (i := 5) rfl, (unhide HB).cell (i := 6) rfl, (unhide HS2).cell (i := 0) rfl, (unhide HS2).cell (i := 1) rfl⟩ (fun hHeld => ?_)
      clear hK K
      try simp only [Act.put, List.setIfInBounds_toArray, List.set_cons_zero, List.set_cons_succ]
      refine wpAnyH_take (i := 5) (v := ?_) rfl (by kernel_rfl) (by kernel_rfl) (by kernel_rfl) (fun _ _ _ h => h) (Or.inl ⟨by rfl, ?_⟩) (by assumption) ?_
      rotate_left
      · intro wy hSw
        obtain ⟨hS0, hS1, hS2, hS3, hS4, hS5, hS6, hS7, hS8⟩ := hSw
        go_simp
        try with_reducible rfl
      try simp only [Act.put, List.getElem_toArray, List.getElem_cons_succ, List.getElem_cons_zero, List.setIfInBounds_toArray, List.set_cons_zero, List.set_cons_succ]
      refine wpAnyH_take (i := 6) (v := ?_) rfl (by kernel_rfl) (by kernel_rfl) (by kernel_rfl) (fun _ _ _ h => h) (Or.inl ⟨by rfl, ?_⟩) (by assumption) ?_
      rotate_left
      · intro wy hSw
        obtain ⟨hS0, hS1, hS2, hS3, hS4, hS5, hS6, hS7, hS8⟩ := hSw
        go_simp
        try with_reducible rfl
      try simp only [Act.put, List.getElem_toArray, List.getElem_cons_succ, List.getElem_cons_zero, List.setIfInBounds_toArray, List.set_cons_zero, List.set_cons_succ]
      refine wpAnyH_take (i := 7) (v := ?_) rfl (by kernel_rfl) (by kernel_rfl) (by kernel_rfl) (fun _ _ _ h => h) (Or.inl ⟨by rfl, ?_⟩) (by assumption) ?_
      rotate_left
      · intro wy hSw
        obtain ⟨hS0, hS1, hS2, hS3, hS4, hS5, hS6, hS7, hS8⟩ := hSw
        go_simp
        try with_reducible rfl
      try simp only [Act.put, List.getElem_toArray, List.getElem_cons_succ, List.getElem_cons_zero, List.setIfInBounds_toArray, List.set_cons_zero, List.set_cons_succ]
      refine wpAnyH_ready (rs := [9]) (by kernel_rfl) (by simp) ?_
      refine AllReadyH.cons rfl (fun K hK => ?_) AllReadyH.nil
      have rf0 := (unhide HN).frozen 0
      have r0 := (unhide HN).cell (i := 0) rfl
      have rf1 := (unhide HN).frozen 1
      have r1 := (unhide HN).cell (i := 1) rfl
      have rf2 := (unhide HN).frozen 2
      have r2 := (unhide HN).cell (i := 2) rfl
      have rf3 := (unhide HN).frozen 3
      have r3 := (unhide HN).cell (i := 3) rfl
      have rf4 := (unhide HN).frozen 4
      have r4 := (unhide HN).cell (i := 4) rfl
      have rf5 := (unhide HN).frozen 5
      have r5 := (unhide HN).cell (i := 5) rfl
      have rf6 := (unhide HN).frozen 6
      have r6 := (unhide HN).cell (i := 6) rfl
      have HBN := hide ((((((((unhide HN).set 0 (.int .i64 y.q) (by simp)).set 1 (.int .i64 y.ld) (by simp)).set 2 (.int .i64 y.he) (by simp)).set 3 (.int .i64 y.lw) (by simp)).set 4 (.int .i64 y.hg) (by simp)).set 5 (.int .i64 y.lm) (by simp)).set 6 (.int .i64 y.rs) (by simp))
      have HKS : Hid (Kept (fun b => b = g5) wc2a (((((((wc2a.setCell ⟨g5, 0, none⟩ (.int .i64 y.q)).setCell ⟨g5, 1, none⟩ (.int .i64 y.ld)).setCell ⟨g5, 2, none⟩ (.int .i64 y.he)).setCell ⟨g5, 3, none⟩ (.int .i64 y.lw)).setCell ⟨g5, 4, none⟩ (.int .i64 y.hg)).setCell ⟨g5, 5, none⟩ (.int .i64 y.lm)).setCell ⟨g5, 6, none⟩ (.int .i64 y.rs))) := ((((((((Kept.refl (fun b => b = g5) _).setCell (p := ⟨g5, 0, none⟩) rfl _).setCell (p := ⟨g5, 1, none⟩) rfl _).setCell (p := ⟨g5, 2, none⟩) rfl _).setCell (p := ⟨g5, 3, none⟩) rfl _).setCell (p := ⟨g5, 4, none⟩) rfl _).setCell (p := ⟨g5, 5, none⟩) rfl _).setCell (p := ⟨g5, 6, none⟩) rfl _)
      have hWB := unhide HW
      replace HW := hide (hWB.trans ((unhide HKS).below hWB.size (fun b e => by omega)))
      clear hWB
      replace HB := hide ((unhide HB).kept (unhide HKS) (fun e => by omega))
      replace HS2 := hide ((unhide HS2).kept (unhide HKS) (fun e => by omega))
      go_simp
      clear rf0 r0 rf1 r1 rf2 r2 rf3 r3 rf4 r4 rf5 r5 rf6 r6
      refine hK.out _ _ ⟨(unhide HB).cell (i := 0) rfl, (unhide HB).cell (i := 1) rfl, (unhide HB).cell (i := 2) rfl, (unhide HB).cell (i := 3) rfl, (unhide HB).cell (i := 4) rfl, (unhide HB).cell (i := 5) rfl, (unhide HB).cell (i := 6) rfl, (unhide HS2).cell (i := 0) rfl, (unhide HS2).cell (i := 1) rfl⟩ (fun hHeld => ?_)
      clear hK K
      try simp only [Act.put, List.setIfInBounds_toArray, List.set_cons_zero, List.set_cons_succ]
      refine wpAnyH_take (i := 10) (v := ?_) rfl (by kernel_rfl) (by kernel_rfl) (by kernel_rfl) (fun _ _ _ h => h) (Or.inl ⟨by rfl, ?_⟩) (by assumption) ?_
      rotate_left
      · intro wy hSw
        obtain ⟨hS0, hS1, hS2, hS3, hS4, hS5, hS6, hS7, hS8⟩ := hSw
        go_simp
        try with_reducible rfl
      try simp only [Act.put, List.getElem_toArray, List.getElem_cons_succ, List.getElem_cons_zero, List.setIfInBounds_toArray, List.set_cons_zero, List.set_cons_succ]
      refine wpAnyH_done (by kernel_rfl) ?_ _
      go_wp2
      go_meet
      exact ⟨g5, by trivial, by trivial, hgn, HW, HB, HS2, HBN⟩
  case rest =>
    obtain ⟨g5, rfl, rfl, hg_g5, HW2, HB2, HS3, HY5⟩ := hcut
    clear HW HB HS2 HS hgl
    have HW := HW2
    have HB := HB2
    have HS2 := HS3
    clear HW2 HB2 HS3
    have hgl := (unhide HS2).lt
    go_upto_region 2 with (fail)
    go_cut [7, 8] (fun s1 s2 wx => ∃ (g7 : Nat), s1 = .pointer (some ⟨g7, 0, none⟩) ∧ s2 = .bool b ∧ g0 + 1 < g7 ∧ g5 < g7 ∧ Hid (Below w.heap.size w wx) ∧ Hid (OwnV wx g0 [.int .i64 h.q, .int .i64 h.ld, .int .i64 h.he, .int .i64 h.lw, .int .i64 h.hg, .int .i64 h.lm, .int .i64 h.rs]) ∧ Hid (OwnV wx (g0 + 1) [.int .i64 k, .int .i64 m]) ∧ Hid (OwnV wx g5 [.int .i64 y.q, .int .i64 y.ld, .int .i64 y.he, .int .i64 y.lw, .int .i64 y.hg, .int .i64 y.lm, .int .i64 y.rs]) ∧ Hid (OwnV wx g7 [.int .i64 y.q, .int .i64 y.ld, .int .i64 y.he, .int .i64 y.lw, .int .i64 y.hg, .int .i64 y.lm, .int .i64 y.rs]))
    case first =>
      have hl_g5 := (unhide HY5).lt
      obtain ⟨wd, ewd⟩ : ∃ z, z = wc.drew := ⟨_, rfl⟩
      have hb : Below wc.heap.size wc wd := by rw [ewd]; exact (Below.refl _ _).drew
      replace HW := hide (Below.step (unhide HW) hb)
      replace HB := hide (OwnV.step (unhide HB) hb)
      replace HS2 := hide (OwnV.step (unhide HS2) hb)
      replace HY5 := hide (OwnV.step (unhide HY5) hb)
      have hszd := hb.size
      clear hb
      refine wp_region_held_drew (S := fun w' => w'.cell? ⟨g0, 0, none⟩ = some (.int .i64 h.q) ∧ w'.cell? ⟨g0, 1, none⟩ = some (.int .i64 h.ld) ∧ w'.cell? ⟨g0, 2, none⟩ = some (.int .i64 h.he) ∧ w'.cell? ⟨g0, 3, none⟩ = some (.int .i64 h.lw) ∧ w'.cell? ⟨g0, 4, none⟩ = some (.int .i64 h.hg) ∧ w'.cell? ⟨g0, 5, none⟩ = some (.int .i64 h.lm) ∧ w'.cell? ⟨g0, 6, none⟩ = some (.int .i64 h.rs) ∧ w'.cell? ⟨g0 + 1, 0, none⟩ = some (.int .i64 k) ∧ w'.cell? ⟨g0 + 1, 1, none⟩ = some (.int .i64 m)) (by kernel_rfl) ⟨by rw [← ewd]; exact (unhide HB).cell (i := 0) rfl, by rw [← ewd]; exact (unhide HB).cell (i := 1) rfl, by rw [← ewd]; exact (unhide HB).cell (i := 2) rfl, by rw [← ewd]; exact (unhide HB).cell (i := 3) rfl, by rw [← ewd]; exact (unhide HB).cell (i := 4) rfl, by rw [← ewd]; exact (unhide HB).cell (i := 5) rfl, by rw [← ewd]; exact (unhide HB).cell (i := 6) rfl, by rw [← ewd]; exact (unhide HS2).cell (i := 0) rfl, by rw [← ewd]; exact (unhide HS2).cell (i := 1) rfl⟩ (fun hHeld => ?_)
      rw [← ewd] at hHeld ⊢
      clear ewd
      refine wpAnyH_take (i := 0) (v := ?_) rfl (by kernel_rfl) (by kernel_rfl) (by kernel_rfl) (fun _ _ _ h => h) (Or.inl ⟨by rfl, ?_⟩) (by assumption) ?_
      rotate_left
      · intro wy hSw
        obtain ⟨hS0, hS1, hS2, hS3, hS4, hS5, hS6, hS7, hS8⟩ := hSw
        go_simp
        try with_reducible rfl
      try simp only [Act.put, List.getElem_toArray, List.getElem_cons_zero, List.setIfInBounds_toArray, List.set_cons_zero, List.set_cons_succ]
      refine wpAnyH_take (i := 2) (v := ?_) rfl (by kernel_rfl) (by kernel_rfl) (by kernel_rfl) (fun _ _ _ h => h) (Or.inl ⟨by rfl, ?_⟩) (by assumption) ?_
      rotate_left
      · intro wy hSw
        obtain ⟨hS0, hS1, hS2, hS3, hS4, hS5, hS6, hS7, hS8⟩ := hSw
        go_simp
        try with_reducible rfl
      try simp only [Act.put, List.getElem_toArray, List.getElem_cons_succ, List.getElem_cons_zero, List.setIfInBounds_toArray, List.set_cons_zero, List.set_cons_succ]
      refine wpAnyH_ready (rs := [1, 8]) (by kernel_rfl) (by simp) ?_
      refine AllReadyH.cons rfl (fun K hK => ?_) (AllReadyH.cons rfl (fun K hK => ?_) AllReadyH.nil)
      · go_simp
        have HCQ := hide (unhide HT1 wd)
        refine (unhide HCQ).mono ?_
        rintro e wc0 ⟨rfl, hb⟩
        replace HW := hide (Below.step (unhide HW) hb)
        replace HB := hide (OwnV.step (unhide HB) hb)
        replace HS2 := hide (OwnV.step (unhide HS2) hb)
        replace HY5 := hide (OwnV.step (unhide HY5) hb)
        have hswc0 := hb.size
        clear hb HCQ
        refine hK.out _ _ ⟨(unhide HB).cell (i := 0) rfl, (unhide HB).cell (i := 1) rfl, (unhide HB).cell (i := 2) rfl, (unhide HB).cell (i := 3) rfl, (unhide HB).cell (i := 4) rfl, (unhide HB).cell (i := 5) rfl, (unhide HB).cell (i := 6) rfl, (unhide HS2).cell (i := 0) rfl, (unhide HS2).cell (i := 1) rfl⟩ (fun hHeld => ?_)
        clear hK K
        try simp only [Act.put, List.setIfInBounds_toArray, List.set_cons_zero, List.set_cons_succ]
        refine wpAnyH_ready (rs := [3, 8]) (by kernel_rfl) (by simp) ?_
        refine AllReadyH.cons rfl (fun K hK => ?_) (AllReadyH.cons rfl (fun K hK => ?_) AllReadyH.nil)
        · go_simp
          have HCQ := hide (unhide HT2 wc0)
          refine (unhide HCQ).mono ?_
          rintro e wc1 ⟨rfl, hb⟩
          replace HW := hide (Below.step (unhide HW) hb)
          replace HB := hide (OwnV.step (unhide HB) hb)
          replace HS2 := hide (OwnV.step (unhide HS2) hb)
          replace HY5 := hide (OwnV.step (unhide HY5) hb)
          have hswc1 := hb.size
          clear hb HCQ
          refine hK.out _ _ ⟨(unhide HB).cell (i := 0) rfl, (unhide HB).cell (i := 1) rfl, (unhide HB).cell (i := 2) rfl, (unhide HB).cell (i := 3) rfl, (unhide HB).cell (i := 4) rfl, (unhide HB).cell (i := 5) rfl, (unhide HB).cell (i := 6) rfl, (unhide HS2).cell (i := 0) rfl, (unhide HS2).cell (i := 1) rfl⟩ (fun hHeld => ?_)
          clear hK K
          try simp only [Act.put, List.setIfInBounds_toArray, List.set_cons_zero, List.set_cons_succ]
          refine wpAnyH_ready (rs := [4, 8]) (by kernel_rfl) (by simp) ?_
          refine AllReadyH.cons rfl (fun K hK => ?_) (AllReadyH.cons rfl (fun K hK => ?_) AllReadyH.nil)
          · go_simp
            have HCQ := hide (unhide HI wc1)
            refine (unhide HCQ).mono ?_
            rintro e wc2 ⟨rfl, hb⟩
            replace HW := hide (Below.step (unhide HW) hb)
            replace HB := hide (OwnV.step (unhide HB) hb)
            replace HS2 := hide (OwnV.step (unhide HS2) hb)
            replace HY5 := hide (OwnV.step (unhide HY5) hb)
            have hswc2 := hb.size
            clear hb HCQ
            refine hK.out _ _ ⟨(unhide HB).cell (i := 0) rfl, (unhide HB).cell (i := 1) rfl, (unhide HB).cell (i := 2) rfl, (unhide HB).cell (i := 3) rfl, (unhide HB).cell (i := 4) rfl, (unhide HB).cell (i := 5) rfl, (unhide HB).cell (i := 6) rfl, (unhide HS2).cell (i := 0) rfl, (unhide HS2).cell (i := 1) rfl⟩ (fun hHeld => ?_)
            clear hK K
            try simp only [Act.put, List.setIfInBounds_toArray, List.set_cons_zero, List.set_cons_succ]
            refine wpAnyH_take (i := 5) (v := ?_) rfl (by kernel_rfl) (by kernel_rfl) (by kernel_rfl) (fun _ _ _ h => h) (Or.inl ⟨by rfl, ?_⟩) (by assumption) ?_
            rotate_left
            · intro wy hSw
              obtain ⟨hS0, hS1, hS2, hS3, hS4, hS5, hS6, hS7, hS8⟩ := hSw
              go_simp
              try with_reducible rfl
            try simp only [Act.put, List.getElem_toArray, List.getElem_cons_succ, List.getElem_cons_zero, List.setIfInBounds_toArray, List.set_cons_zero, List.set_cons_succ]
            refine wpAnyH_take (i := 6) (v := ?_) rfl (by kernel_rfl) (by kernel_rfl) (by kernel_rfl) (fun _ _ _ h => h) (Or.inl ⟨by rfl, ?_⟩) (by assumption) ?_
            rotate_left
            · intro wy hSw
              obtain ⟨hS0, hS1, hS2, hS3, hS4, hS5, hS6, hS7, hS8⟩ := hSw
              go_simp
              try with_reducible rfl
            try simp only [Act.put, List.getElem_toArray, List.getElem_cons_succ, List.getElem_cons_zero, List.setIfInBounds_toArray, List.set_cons_zero, List.set_cons_succ]
            refine wpAnyH_take (i := 7) (v := ?_) rfl (by kernel_rfl) (by kernel_rfl) (by kernel_rfl) (fun _ _ _ h => h) (Or.inl ⟨by rfl, ?_⟩) (by assumption) ?_
            rotate_left
            · intro wy hSw
              obtain ⟨hS0, hS1, hS2, hS3, hS4, hS5, hS6, hS7, hS8⟩ := hSw
              go_simp
              try with_reducible rfl
            try simp only [Act.put, List.getElem_toArray, List.getElem_cons_succ, List.getElem_cons_zero, List.setIfInBounds_toArray, List.set_cons_zero, List.set_cons_succ]
            refine wpAnyH_ready (rs := [8]) (by kernel_rfl) (by simp) ?_
            refine AllReadyH.cons rfl (fun K hK => ?_) AllReadyH.nil
            go_simp
            obtain ⟨g7, eg7⟩ : ∃ z, z = wc2.heap.size := ⟨_, rfl⟩
            obtain ⟨wb3, ewb3⟩ : ∃ z, z = wc2.alloc (.cells #[.int .i64 0, .int .i64 0, .int .i64 0, .int .i64 0, .int .i64 0, .int .i64 0, .int .i64 0] 37) := ⟨_, rfl⟩
            have hb : Below wc2.heap.size wc2 wb3 := by rw [ewb3]; exact Below.alloc1 _ _
            have HN : Hid (OwnV wb3 g7 [.int .i64 0, .int .i64 0, .int .i64 0, .int .i64 0, .int .i64 0, .int .i64 0, .int .i64 0]) := by rw [ewb3, eg7]; exact ownV_alloc _ _ _
            rw [← ewb3, ← eg7]
            replace HW := hide (Below.step (unhide HW) hb)
            replace HB := hide (OwnV.step (unhide HB) hb)
            replace HS2 := hide (OwnV.step (unhide HS2) hb)
            replace HY5 := hide (OwnV.step (unhide HY5) hb)
            have hgn : g0 + 1 < g7 := by omega
            have hp_g5 : g5 < g7 := by omega
            clear hb ewb3 eg7
            refine hK.out _ _ ⟨(unhide HB).cell (i := 0) rfl, (unhide HB).cell (i := 1) rfl, (unhide HB).cell (i := 2) rfl, (unhide HB).cell (i := 3) rfl, (unhide HB).cell (i := 4) rfl, (unhide HB).cell (i := 5) rfl, (unhide HB).cell (i := 6) rfl, (unhide HS2).cell (i := 0) rfl, (unhide HS2).cell (i := 1) rfl⟩ (fun hHeld => ?_)
            clear hK K
            try simp only [Act.put, List.setIfInBounds_toArray, List.set_cons_zero, List.set_cons_succ]
            refine wpAnyH_ready (rs := [9]) (by kernel_rfl) (by simp) ?_
            refine AllReadyH.cons rfl (fun K hK => ?_) AllReadyH.nil
            have rf0 := (unhide HN).frozen 0
            have r0 := (unhide HN).cell (i := 0) rfl
            have rf1 := (unhide HN).frozen 1
            have r1 := (unhide HN).cell (i := 1) rfl
            have rf2 := (unhide HN).frozen 2
            have r2 := (unhide HN).cell (i := 2) rfl
            have rf3 := (unhide HN).frozen 3
            have r3 := (unhide HN).cell (i := 3) rfl
            have rf4 := (unhide HN).frozen 4
            have r4 := (unhide HN).cell (i := 4) rfl
            have rf5 := (unhide HN).frozen 5
            have r5 := (unhide HN).cell (i := 5) rfl
            have rf6 := (unhide HN).frozen 6
            have r6 := (unhide HN).cell (i := 6) rfl
            have HBN := hide ((((((((unhide HN).set 0 (.int .i64 y.q) (by simp)).set 1 (.int .i64 y.ld) (by simp)).set 2 (.int .i64 y.he) (by simp)).set 3 (.int .i64 y.lw) (by simp)).set 4 (.int .i64 y.hg) (by simp)).set 5 (.int .i64 y.lm) (by simp)).set 6 (.int .i64 y.rs) (by simp))
            have HKS : Hid (Kept (fun b => b = g7) wb3 (((((((wb3.setCell ⟨g7, 0, none⟩ (.int .i64 y.q)).setCell ⟨g7, 1, none⟩ (.int .i64 y.ld)).setCell ⟨g7, 2, none⟩ (.int .i64 y.he)).setCell ⟨g7, 3, none⟩ (.int .i64 y.lw)).setCell ⟨g7, 4, none⟩ (.int .i64 y.hg)).setCell ⟨g7, 5, none⟩ (.int .i64 y.lm)).setCell ⟨g7, 6, none⟩ (.int .i64 y.rs))) := ((((((((Kept.refl (fun b => b = g7) _).setCell (p := ⟨g7, 0, none⟩) rfl _).setCell (p := ⟨g7, 1, none⟩) rfl _).setCell (p := ⟨g7, 2, none⟩) rfl _).setCell (p := ⟨g7, 3, none⟩) rfl _).setCell (p := ⟨g7, 4, none⟩) rfl _).setCell (p := ⟨g7, 5, none⟩) rfl _).setCell (p := ⟨g7, 6, none⟩) rfl _)
            have hWB := unhide HW
            replace HW := hide (hWB.trans ((unhide HKS).below hWB.size (fun b e => by omega)))
            clear hWB
            replace HB := hide ((unhide HB).kept (unhide HKS) (fun e => by omega))
            replace HS2 := hide ((unhide HS2).kept (unhide HKS) (fun e => by omega))
            replace HY5 := hide ((unhide HY5).kept (unhide HKS) (fun e => by omega))
            go_simp
            clear rf0 r0 rf1 r1 rf2 r2 rf3 r3 rf4 r4 rf5 r5 rf6 r6
            refine hK.out _ _ ⟨(unhide HB).cell (i := 0) rfl, (unhide HB).cell (i := 1) rfl, (unhide HB).cell (i := 2) rfl, (unhide HB).cell (i := 3) rfl, (unhide HB).cell (i := 4) rfl, (unhide HB).cell (i := 5) rfl, (unhide HB).cell (i := 6) rfl, (unhide HS2).cell (i := 0) rfl, (unhide HS2).cell (i := 1) rfl⟩ (fun hHeld => ?_)
            clear hK K
            try simp only [Act.put, List.setIfInBounds_toArray, List.set_cons_zero, List.set_cons_succ]
            refine wpAnyH_take (i := 10) (v := ?_) rfl (by kernel_rfl) (by kernel_rfl) (by kernel_rfl) (fun _ _ _ h => h) (Or.inl ⟨by rfl, ?_⟩) (by assumption) ?_
            rotate_left
            · intro wy hSw
              obtain ⟨hS0, hS1, hS2, hS3, hS4, hS5, hS6, hS7, hS8⟩ := hSw
              go_simp
              try with_reducible rfl
            try simp only [Act.put, List.getElem_toArray, List.getElem_cons_succ, List.getElem_cons_zero, List.setIfInBounds_toArray, List.set_cons_zero, List.set_cons_succ]
            refine wpAnyH_done (by kernel_rfl) ?_ _
            go_wp2
            go_meet
            exact ⟨g7, by trivial, by trivial, hgn, hp_g5, HW, HB, HS2, HY5, HBN⟩
          · go_simp
            obtain ⟨g7, eg7⟩ : ∃ z, z = wc1.heap.size := ⟨_, rfl⟩
            obtain ⟨wb2, ewb2⟩ : ∃ z, z = wc1.alloc (.cells #[.int .i64 0, .int .i64 0, .int .i64 0, .int .i64 0, .int .i64 0, .int .i64 0, .int .i64 0] 37) := ⟨_, rfl⟩
            have hb : Below wc1.heap.size wc1 wb2 := by rw [ewb2]; exact Below.alloc1 _ _
            have HN : Hid (OwnV wb2 g7 [.int .i64 0, .int .i64 0, .int .i64 0, .int .i64 0, .int .i64 0, .int .i64 0, .int .i64 0]) := by rw [ewb2, eg7]; exact ownV_alloc _ _ _
            rw [← ewb2, ← eg7]
            replace HW := hide (Below.step (unhide HW) hb)
            replace HB := hide (OwnV.step (unhide HB) hb)
            replace HS2 := hide (OwnV.step (unhide HS2) hb)
            replace HY5 := hide (OwnV.step (unhide HY5) hb)
            have hgn : g0 + 1 < g7 := by omega
            have hp_g5 : g5 < g7 := by omega
            clear hb ewb2 eg7
            refine hK.out _ _ ⟨(unhide HB).cell (i := 0) rfl, (unhide HB).cell (i := 1) rfl, (unhide HB).cell (i := 2) rfl, (unhide HB).cell (i := 3) rfl, (unhide HB).cell (i := 4) rfl, (unhide HB).cell (i := 5) rfl, (unhide HB).cell (i := 6) rfl, (unhide HS2).cell (i := 0) rfl, (unhide HS2).cell (i := 1) rfl⟩ (fun hHeld => ?_)
            clear hK K
            try simp only [Act.put, List.setIfInBounds_toArray, List.set_cons_zero, List.set_cons_succ]
            refine wpAnyH_ready (rs := [4]) (by kernel_rfl) (by simp) ?_
            refine AllReadyH.cons rfl (fun K hK => ?_) AllReadyH.nil
            go_simp
            have HCQ := hide (unhide HI wb2)
            refine (unhide HCQ).mono ?_
            rintro e wc2a ⟨rfl, hb⟩
            replace HW := hide (Below.step (unhide HW) hb)
            replace HB := hide (OwnV.step (unhide HB) hb)
            replace HS2 := hide (OwnV.step (unhide HS2) hb)
            replace HY5 := hide (OwnV.step (unhide HY5) hb)
            replace HN := hide (OwnV.step (unhide HN) hb)
            have hswc2a := hb.size
            clear hb HCQ
            refine hK.out _ _ ⟨(unhide HB).cell (i := 0) rfl, (unhide HB).cell (i := 1) rfl, (unhide HB).cell (i := 2) rfl, (unhide HB).cell (i := 3) rfl, (unhide HB).cell (i := 4) rfl, (unhide HB).cell (i := 5) rfl, (unhide HB).cell (i := 6) rfl, (unhide HS2).cell (i := 0) rfl, (unhide HS2).cell (i := 1) rfl⟩ (fun hHeld => ?_)
            clear hK K
            try simp only [Act.put, List.setIfInBounds_toArray, List.set_cons_zero, List.set_cons_succ]
            refine wpAnyH_take (i := 5) (v := ?_) rfl (by kernel_rfl) (by kernel_rfl) (by kernel_rfl) (fun _ _ _ h => h) (Or.inl ⟨by rfl, ?_⟩) (by assumption) ?_
            rotate_left
            · intro wy hSw
              obtain ⟨hS0, hS1, hS2, hS3, hS4, hS5, hS6, hS7, hS8⟩ := hSw
              go_simp
              try with_reducible rfl
            try simp only [Act.put, List.getElem_toArray, List.getElem_cons_succ, List.getElem_cons_zero, List.setIfInBounds_toArray, List.set_cons_zero, List.set_cons_succ]
            refine wpAnyH_take (i := 6) (v := ?_) rfl (by kernel_rfl) (by kernel_rfl) (by kernel_rfl) (fun _ _ _ h => h) (Or.inl ⟨by rfl, ?_⟩) (by assumption) ?_
            rotate_left
            · intro wy hSw
              obtain ⟨hS0, hS1, hS2, hS3, hS4, hS5, hS6, hS7, hS8⟩ := hSw
              go_simp
              try with_reducible rfl
            try simp only [Act.put, List.getElem_toArray, List.getElem_cons_succ, List.getElem_cons_zero, List.setIfInBounds_toArray, List.set_cons_zero, List.set_cons_succ]
            refine wpAnyH_take (i := 7) (v := ?_) rfl (by kernel_rfl) (by kernel_rfl) (by kernel_rfl) (fun _ _ _ h => h) (Or.inl ⟨by rfl, ?_⟩) (by assumption) ?_
            rotate_left
            · intro wy hSw
              obtain ⟨hS0, hS1, hS2, hS3, hS4, hS5, hS6, hS7, hS8⟩ := hSw
              go_simp
              try with_reducible rfl
            try simp only [Act.put, List.getElem_toArray, List.getElem_cons_succ, List.getElem_cons_zero, List.setIfInBounds_toArray, List.set_cons_zero, List.set_cons_succ]
            refine wpAnyH_ready (rs := [9]) (by kernel_rfl) (by simp) ?_
            refine AllReadyH.cons rfl (fun K hK => ?_) AllReadyH.nil
            have rf0 := (unhide HN).frozen 0
            have r0 := (unhide HN).cell (i := 0) rfl
            have rf1 := (unhide HN).frozen 1
            have r1 := (unhide HN).cell (i := 1) rfl
            have rf2 := (unhide HN).frozen 2
            have r2 := (unhide HN).cell (i := 2) rfl
            have rf3 := (unhide HN).frozen 3
            have r3 := (unhide HN).cell (i := 3) rfl
            have rf4 := (unhide HN).frozen 4
            have r4 := (unhide HN).cell (i := 4) rfl
            have rf5 := (unhide HN).frozen 5
            have r5 := (unhide HN).cell (i := 5) rfl
            have rf6 := (unhide HN).frozen 6
            have r6 := (unhide HN).cell (i := 6) rfl
            have HBN := hide ((((((((unhide HN).set 0 (.int .i64 y.q) (by simp)).set 1 (.int .i64 y.ld) (by simp)).set 2 (.int .i64 y.he) (by simp)).set 3 (.int .i64 y.lw) (by simp)).set 4 (.int .i64 y.hg) (by simp)).set 5 (.int .i64 y.lm) (by simp)).set 6 (.int .i64 y.rs) (by simp))
            have HKS : Hid (Kept (fun b => b = g7) wc2a (((((((wc2a.setCell ⟨g7, 0, none⟩ (.int .i64 y.q)).setCell ⟨g7, 1, none⟩ (.int .i64 y.ld)).setCell ⟨g7, 2, none⟩ (.int .i64 y.he)).setCell ⟨g7, 3, none⟩ (.int .i64 y.lw)).setCell ⟨g7, 4, none⟩ (.int .i64 y.hg)).setCell ⟨g7, 5, none⟩ (.int .i64 y.lm)).setCell ⟨g7, 6, none⟩ (.int .i64 y.rs))) := ((((((((Kept.refl (fun b => b = g7) _).setCell (p := ⟨g7, 0, none⟩) rfl _).setCell (p := ⟨g7, 1, none⟩) rfl _).setCell (p := ⟨g7, 2, none⟩) rfl _).setCell (p := ⟨g7, 3, none⟩) rfl _).setCell (p := ⟨g7, 4, none⟩) rfl _).setCell (p := ⟨g7, 5, none⟩) rfl _).setCell (p := ⟨g7, 6, none⟩) rfl _)
            have hWB := unhide HW
            replace HW := hide (hWB.trans ((unhide HKS).below hWB.size (fun b e => by omega)))
            clear hWB
            replace HB := hide ((unhide HB).kept (unhide HKS) (fun e => by omega))
            replace HS2 := hide ((unhide HS2).kept (unhide HKS) (fun e => by omega))
            replace HY5 := hide ((unhide HY5).kept (unhide HKS) (fun e => by omega))
            go_simp
            clear rf0 r0 rf1 r1 rf2 r2 rf3 r3 rf4 r4 rf5 r5 rf6 r6
            refine hK.out _ _ ⟨(unhide HB).cell (i := 0) rfl, (unhide HB).cell (i := 1) rfl, (unhide HB).cell (i := 2) rfl, (unhide HB).cell (i := 3) rfl, (unhide HB).cell (i := 4) rfl, (unhide HB).cell (i := 5) rfl, (unhide HB).cell (i := 6) rfl, (unhide HS2).cell (i := 0) rfl, (unhide HS2).cell (i := 1) rfl⟩ (fun hHeld => ?_)
            clear hK K
            try simp only [Act.put, List.setIfInBounds_toArray, List.set_cons_zero, List.set_cons_succ]
            refine wpAnyH_take (i := 10) (v := ?_) rfl (by kernel_rfl) (by kernel_rfl) (by kernel_rfl) (fun _ _ _ h => h) (Or.inl ⟨by rfl, ?_⟩) (by assumption) ?_
            rotate_left
            · intro wy hSw
              obtain ⟨hS0, hS1, hS2, hS3, hS4, hS5, hS6, hS7, hS8⟩ := hSw
              go_simp
              try with_reducible rfl
            try simp only [Act.put, List.getElem_toArray, List.getElem_cons_succ, List.getElem_cons_zero, List.setIfInBounds_toArray, List.set_cons_zero, List.set_cons_succ]
            refine wpAnyH_done (by kernel_rfl) ?_ _
            go_wp2
            go_meet
            exact ⟨g7, by trivial, by trivial, hgn, hp_g5, HW, HB, HS2, HY5, HBN⟩
        · go_simp
          obtain ⟨g7, eg7⟩ : ∃ z, z = wc0.heap.size := ⟨_, rfl⟩
          obtain ⟨wb1, ewb1⟩ : ∃ z, z = wc0.alloc (.cells #[.int .i64 0, .int .i64 0, .int .i64 0, .int .i64 0, .int .i64 0, .int .i64 0, .int .i64 0] 37) := ⟨_, rfl⟩
          have hb : Below wc0.heap.size wc0 wb1 := by rw [ewb1]; exact Below.alloc1 _ _
          have HN : Hid (OwnV wb1 g7 [.int .i64 0, .int .i64 0, .int .i64 0, .int .i64 0, .int .i64 0, .int .i64 0, .int .i64 0]) := by rw [ewb1, eg7]; exact ownV_alloc _ _ _
          rw [← ewb1, ← eg7]
          replace HW := hide (Below.step (unhide HW) hb)
          replace HB := hide (OwnV.step (unhide HB) hb)
          replace HS2 := hide (OwnV.step (unhide HS2) hb)
          replace HY5 := hide (OwnV.step (unhide HY5) hb)
          have hgn : g0 + 1 < g7 := by omega
          have hp_g5 : g5 < g7 := by omega
          clear hb ewb1 eg7
          refine hK.out _ _ ⟨(unhide HB).cell (i := 0) rfl, (unhide HB).cell (i := 1) rfl, (unhide HB).cell (i := 2) rfl, (unhide HB).cell (i := 3) rfl, (unhide HB).cell (i := 4) rfl, (unhide HB).cell (i := 5) rfl, (unhide HB).cell (i := 6) rfl, (unhide HS2).cell (i := 0) rfl, (unhide HS2).cell (i := 1) rfl⟩ (fun hHeld => ?_)
          clear hK K
          try simp only [Act.put, List.setIfInBounds_toArray, List.set_cons_zero, List.set_cons_succ]
          refine wpAnyH_ready (rs := [3]) (by kernel_rfl) (by simp) ?_
          refine AllReadyH.cons rfl (fun K hK => ?_) AllReadyH.nil
          go_simp
          have HCQ := hide (unhide HT2 wb1)
          refine (unhide HCQ).mono ?_
          rintro e wc1a ⟨rfl, hb⟩
          replace HW := hide (Below.step (unhide HW) hb)
          replace HB := hide (OwnV.step (unhide HB) hb)
          replace HS2 := hide (OwnV.step (unhide HS2) hb)
          replace HY5 := hide (OwnV.step (unhide HY5) hb)
          replace HN := hide (OwnV.step (unhide HN) hb)
          have hswc1a := hb.size
          clear hb HCQ
          refine hK.out _ _ ⟨(unhide HB).cell (i := 0) rfl, (unhide HB).cell (i := 1) rfl, (unhide HB).cell (i := 2) rfl, (unhide HB).cell (i := 3) rfl, (unhide HB).cell (i := 4) rfl, (unhide HB).cell (i := 5) rfl, (unhide HB).cell (i := 6) rfl, (unhide HS2).cell (i := 0) rfl, (unhide HS2).cell (i := 1) rfl⟩ (fun hHeld => ?_)
          clear hK K
          try simp only [Act.put, List.setIfInBounds_toArray, List.set_cons_zero, List.set_cons_succ]
          refine wpAnyH_ready (rs := [4]) (by kernel_rfl) (by simp) ?_
          refine AllReadyH.cons rfl (fun K hK => ?_) AllReadyH.nil
          go_simp
          have HCQ := hide (unhide HI wc1a)
          refine (unhide HCQ).mono ?_
          rintro e wc2a ⟨rfl, hb⟩
          replace HW := hide (Below.step (unhide HW) hb)
          replace HB := hide (OwnV.step (unhide HB) hb)
          replace HS2 := hide (OwnV.step (unhide HS2) hb)
          replace HY5 := hide (OwnV.step (unhide HY5) hb)
          replace HN := hide (OwnV.step (unhide HN) hb)
          have hswc2a := hb.size
          clear hb HCQ
          refine hK.out _ _ ⟨(unhide HB).cell (i := 0) rfl, (unhide HB).cell (i := 1) rfl, (unhide HB).cell (i := 2) rfl, (unhide HB).cell (i := 3) rfl, (unhide HB).cell (i := 4) rfl, (unhide HB).cell (i := 5) rfl, (unhide HB).cell (i := 6) rfl, (unhide HS2).cell (i := 0) rfl, (unhide HS2).cell (i := 1) rfl⟩ (fun hHeld => ?_)
          clear hK K
          try simp only [Act.put, List.setIfInBounds_toArray, List.set_cons_zero, List.set_cons_succ]
          refine wpAnyH_take (i := 5) (v := ?_) rfl (by kernel_rfl) (by kernel_rfl) (by kernel_rfl) (fun _ _ _ h => h) (Or.inl ⟨by rfl, ?_⟩) (by assumption) ?_
          rotate_left
          · intro wy hSw
            obtain ⟨hS0, hS1, hS2, hS3, hS4, hS5, hS6, hS7, hS8⟩ := hSw
            go_simp
            try with_reducible rfl
          try simp only [Act.put, List.getElem_toArray, List.getElem_cons_succ, List.getElem_cons_zero, List.setIfInBounds_toArray, List.set_cons_zero, List.set_cons_succ]
          refine wpAnyH_take (i := 6) (v := ?_) rfl (by kernel_rfl) (by kernel_rfl) (by kernel_rfl) (fun _ _ _ h => h) (Or.inl ⟨by rfl, ?_⟩) (by assumption) ?_
          rotate_left
          · intro wy hSw
            obtain ⟨hS0, hS1, hS2, hS3, hS4, hS5, hS6, hS7, hS8⟩ := hSw
            go_simp
            try with_reducible rfl
          try simp only [Act.put, List.getElem_toArray, List.getElem_cons_succ, List.getElem_cons_zero, List.setIfInBounds_toArray, List.set_cons_zero, List.set_cons_succ]
          refine wpAnyH_take (i := 7) (v := ?_) rfl (by kernel_rfl) (by kernel_rfl) (by kernel_rfl) (fun _ _ _ h => h) (Or.inl ⟨by rfl, ?_⟩) (by assumption) ?_
          rotate_left
          · intro wy hSw
            obtain ⟨hS0, hS1, hS2, hS3, hS4, hS5, hS6, hS7, hS8⟩ := hSw
            go_simp
            try with_reducible rfl
          try simp only [Act.put, List.getElem_toArray, List.getElem_cons_succ, List.getElem_cons_zero, List.setIfInBounds_toArray, List.set_cons_zero, List.set_cons_succ]
          refine wpAnyH_ready (rs := [9]) (by kernel_rfl) (by simp) ?_
          refine AllReadyH.cons rfl (fun K hK => ?_) AllReadyH.nil
          have rf0 := (unhide HN).frozen 0
          have r0 := (unhide HN).cell (i := 0) rfl
          have rf1 := (unhide HN).frozen 1
          have r1 := (unhide HN).cell (i := 1) rfl
          have rf2 := (unhide HN).frozen 2
          have r2 := (unhide HN).cell (i := 2) rfl
          have rf3 := (unhide HN).frozen 3
          have r3 := (unhide HN).cell (i := 3) rfl
          have rf4 := (unhide HN).frozen 4
          have r4 := (unhide HN).cell (i := 4) rfl
          have rf5 := (unhide HN).frozen 5
          have r5 := (unhide HN).cell (i := 5) rfl
          have rf6 := (unhide HN).frozen 6
          have r6 := (unhide HN).cell (i := 6) rfl
          have HBN := hide ((((((((unhide HN).set 0 (.int .i64 y.q) (by simp)).set 1 (.int .i64 y.ld) (by simp)).set 2 (.int .i64 y.he) (by simp)).set 3 (.int .i64 y.lw) (by simp)).set 4 (.int .i64 y.hg) (by simp)).set 5 (.int .i64 y.lm) (by simp)).set 6 (.int .i64 y.rs) (by simp))
          have HKS : Hid (Kept (fun b => b = g7) wc2a (((((((wc2a.setCell ⟨g7, 0, none⟩ (.int .i64 y.q)).setCell ⟨g7, 1, none⟩ (.int .i64 y.ld)).setCell ⟨g7, 2, none⟩ (.int .i64 y.he)).setCell ⟨g7, 3, none⟩ (.int .i64 y.lw)).setCell ⟨g7, 4, none⟩ (.int .i64 y.hg)).setCell ⟨g7, 5, none⟩ (.int .i64 y.lm)).setCell ⟨g7, 6, none⟩ (.int .i64 y.rs))) := ((((((((Kept.refl (fun b => b = g7) _).setCell (p := ⟨g7, 0, none⟩) rfl _).setCell (p := ⟨g7, 1, none⟩) rfl _).setCell (p := ⟨g7, 2, none⟩) rfl _).setCell (p := ⟨g7, 3, none⟩) rfl _).setCell (p := ⟨g7, 4, none⟩) rfl _).setCell (p := ⟨g7, 5, none⟩) rfl _).setCell (p := ⟨g7, 6, none⟩) rfl _)
          have hWB := unhide HW
          replace HW := hide (hWB.trans ((unhide HKS).below hWB.size (fun b e => by omega)))
          clear hWB
          replace HB := hide ((unhide HB).kept (unhide HKS) (fun e => by omega))
          replace HS2 := hide ((unhide HS2).kept (unhide HKS) (fun e => by omega))
          replace HY5 := hide ((unhide HY5).kept (unhide HKS) (fun e => by omega))
          go_simp
          clear rf0 r0 rf1 r1 rf2 r2 rf3 r3 rf4 r4 rf5 r5 rf6 r6
          refine hK.out _ _ ⟨(unhide HB).cell (i := 0) rfl, (unhide HB).cell (i := 1) rfl, (unhide HB).cell (i := 2) rfl, (unhide HB).cell (i := 3) rfl, (unhide HB).cell (i := 4) rfl, (unhide HB).cell (i := 5) rfl, (unhide HB).cell (i := 6) rfl, (unhide HS2).cell (i := 0) rfl, (unhide HS2).cell (i := 1) rfl⟩ (fun hHeld => ?_)
          clear hK K
          try simp only [Act.put, List.setIfInBounds_toArray, List.set_cons_zero, List.set_cons_succ]
          refine wpAnyH_take (i := 10) (v := ?_) rfl (by kernel_rfl) (by kernel_rfl) (by kernel_rfl) (fun _ _ _ h => h) (Or.inl ⟨by rfl, ?_⟩) (by assumption) ?_
          rotate_left
          · intro wy hSw
            obtain ⟨hS0, hS1, hS2, hS3, hS4, hS5, hS6, hS7, hS8⟩ := hSw
            go_simp
            try with_reducible rfl
          try simp only [Act.put, List.getElem_toArray, List.getElem_cons_succ, List.getElem_cons_zero, List.setIfInBounds_toArray, List.set_cons_zero, List.set_cons_succ]
          refine wpAnyH_done (by kernel_rfl) ?_ _
          go_wp2
          go_meet
          exact ⟨g7, by trivial, by trivial, hgn, hp_g5, HW, HB, HS2, HY5, HBN⟩
      · go_simp
        obtain ⟨g7, eg7⟩ : ∃ z, z = wd.heap.size := ⟨_, rfl⟩
        obtain ⟨wb0, ewb0⟩ : ∃ z, z = wd.alloc (.cells #[.int .i64 0, .int .i64 0, .int .i64 0, .int .i64 0, .int .i64 0, .int .i64 0, .int .i64 0] 37) := ⟨_, rfl⟩
        have hb : Below wd.heap.size wd wb0 := by rw [ewb0]; exact Below.alloc1 _ _
        have HN : Hid (OwnV wb0 g7 [.int .i64 0, .int .i64 0, .int .i64 0, .int .i64 0, .int .i64 0, .int .i64 0, .int .i64 0]) := by rw [ewb0, eg7]; exact ownV_alloc _ _ _
        rw [← ewb0, ← eg7]
        replace HW := hide (Below.step (unhide HW) hb)
        replace HB := hide (OwnV.step (unhide HB) hb)
        replace HS2 := hide (OwnV.step (unhide HS2) hb)
        replace HY5 := hide (OwnV.step (unhide HY5) hb)
        have hgn : g0 + 1 < g7 := by omega
        have hp_g5 : g5 < g7 := by omega
        clear hb ewb0 eg7
        refine hK.out _ _ ⟨(unhide HB).cell (i := 0) rfl, (unhide HB).cell (i := 1) rfl, (unhide HB).cell (i := 2) rfl, (unhide HB).cell (i := 3) rfl, (unhide HB).cell (i := 4) rfl, (unhide HB).cell (i := 5) rfl, (unhide HB).cell (i := 6) rfl, (unhide HS2).cell (i := 0) rfl, (unhide HS2).cell (i := 1) rfl⟩ (fun hHeld => ?_)
        clear hK K
        try simp only [Act.put, List.setIfInBounds_toArray, List.set_cons_zero, List.set_cons_succ]
        refine wpAnyH_ready (rs := [1]) (by kernel_rfl) (by simp) ?_
        refine AllReadyH.cons rfl (fun K hK => ?_) AllReadyH.nil
        go_simp
        have HCQ := hide (unhide HT1 wb0)
        refine (unhide HCQ).mono ?_
        rintro e wc0a ⟨rfl, hb⟩
        replace HW := hide (Below.step (unhide HW) hb)
        replace HB := hide (OwnV.step (unhide HB) hb)
        replace HS2 := hide (OwnV.step (unhide HS2) hb)
        replace HY5 := hide (OwnV.step (unhide HY5) hb)
        replace HN := hide (OwnV.step (unhide HN) hb)
        have hswc0a := hb.size
        clear hb HCQ
        refine hK.out _ _ ⟨(unhide HB).cell (i := 0) rfl, (unhide HB).cell (i := 1) rfl, (unhide HB).cell (i := 2) rfl, (unhide HB).cell (i := 3) rfl, (unhide HB).cell (i := 4) rfl, (unhide HB).cell (i := 5) rfl, (unhide HB).cell (i := 6) rfl, (unhide HS2).cell (i := 0) rfl, (unhide HS2).cell (i := 1) rfl⟩ (fun hHeld => ?_)
        clear hK K
        try simp only [Act.put, List.setIfInBounds_toArray, List.set_cons_zero, List.set_cons_succ]
        refine wpAnyH_ready (rs := [3]) (by kernel_rfl) (by simp) ?_
        refine AllReadyH.cons rfl (fun K hK => ?_) AllReadyH.nil
        go_simp
        have HCQ := hide (unhide HT2 wc0a)
        refine (unhide HCQ).mono ?_
        rintro e wc1a ⟨rfl, hb⟩
        replace HW := hide (Below.step (unhide HW) hb)
        replace HB := hide (OwnV.step (unhide HB) hb)
        replace HS2 := hide (OwnV.step (unhide HS2) hb)
        replace HY5 := hide (OwnV.step (unhide HY5) hb)
        replace HN := hide (OwnV.step (unhide HN) hb)
        have hswc1a := hb.size
        clear hb HCQ
        refine hK.out _ _ ⟨(unhide HB).cell (i := 0) rfl, (unhide HB).cell (i := 1) rfl, (unhide HB).cell (i := 2) rfl, (unhide HB).cell (i := 3) rfl, (unhide HB).cell (i := 4) rfl, (unhide HB).cell (i := 5) rfl, (unhide HB).cell (i := 6) rfl, (unhide HS2).cell (i := 0) rfl, (unhide HS2).cell (i := 1) rfl⟩ (fun hHeld => ?_)
        clear hK K
        try simp only [Act.put, List.setIfInBounds_toArray, List.set_cons_zero, List.set_cons_succ]
        refine wpAnyH_ready (rs := [4]) (by kernel_rfl) (by simp) ?_
        refine AllReadyH.cons rfl (fun K hK => ?_) AllReadyH.nil
        go_simp
        have HCQ := hide (unhide HI wc1a)
        refine (unhide HCQ).mono ?_
        rintro e wc2a ⟨rfl, hb⟩
        replace HW := hide (Below.step (unhide HW) hb)
        replace HB := hide (OwnV.step (unhide HB) hb)
        replace HS2 := hide (OwnV.step (unhide HS2) hb)
        replace HY5 := hide (OwnV.step (unhide HY5) hb)
        replace HN := hide (OwnV.step (unhide HN) hb)
        have hswc2a := hb.size
        clear hb HCQ
        refine hK.out _ _ ⟨(unhide HB).cell (i := 0) rfl, (unhide HB).cell (i := 1) rfl, (unhide HB).cell (i := 2) rfl, (unhide HB).cell (i := 3) rfl, (unhide HB).cell (i := 4) rfl, (unhide HB).cell (i := 5) rfl, (unhide HB).cell (i := 6) rfl, (unhide HS2).cell (i := 0) rfl, (unhide HS2).cell (i := 1) rfl⟩ (fun hHeld => ?_)
        clear hK K
        try simp only [Act.put, List.setIfInBounds_toArray, List.set_cons_zero, List.set_cons_succ]
        refine wpAnyH_take (i := 5) (v := ?_) rfl (by kernel_rfl) (by kernel_rfl) (by kernel_rfl) (fun _ _ _ h => h) (Or.inl ⟨by rfl, ?_⟩) (by assumption) ?_
        rotate_left
        · intro wy hSw
          obtain ⟨hS0, hS1, hS2, hS3, hS4, hS5, hS6, hS7, hS8⟩ := hSw
          go_simp
          try with_reducible rfl
        try simp only [Act.put, List.getElem_toArray, List.getElem_cons_succ, List.getElem_cons_zero, List.setIfInBounds_toArray, List.set_cons_zero, List.set_cons_succ]
        refine wpAnyH_take (i := 6) (v := ?_) rfl (by kernel_rfl) (by kernel_rfl) (by kernel_rfl) (fun _ _ _ h => h) (Or.inl ⟨by rfl, ?_⟩) (by assumption) ?_
        rotate_left
        · intro wy hSw
          obtain ⟨hS0, hS1, hS2, hS3, hS4, hS5, hS6, hS7, hS8⟩ := hSw
          go_simp
          try with_reducible rfl
        try simp only [Act.put, List.getElem_toArray, List.getElem_cons_succ, List.getElem_cons_zero, List.setIfInBounds_toArray, List.set_cons_zero, List.set_cons_succ]
        refine wpAnyH_take (i := 7) (v := ?_) rfl (by kernel_rfl) (by kernel_rfl) (by kernel_rfl) (fun _ _ _ h => h) (Or.inl ⟨by rfl, ?_⟩) (by assumption) ?_
        rotate_left
        · intro wy hSw
          obtain ⟨hS0, hS1, hS2, hS3, hS4, hS5, hS6, hS7, hS8⟩ := hSw
          go_simp
          try with_reducible rfl
        try simp only [Act.put, List.getElem_toArray, List.getElem_cons_succ, List.getElem_cons_zero, List.setIfInBounds_toArray, List.set_cons_zero, List.set_cons_succ]
        refine wpAnyH_ready (rs := [9]) (by kernel_rfl) (by simp) ?_
        refine AllReadyH.cons rfl (fun K hK => ?_) AllReadyH.nil
        have rf0 := (unhide HN).frozen 0
        have r0 := (unhide HN).cell (i := 0) rfl
        have rf1 := (unhide HN).frozen 1
        have r1 := (unhide HN).cell (i := 1) rfl
        have rf2 := (unhide HN).frozen 2
        have r2 := (unhide HN).cell (i := 2) rfl
        have rf3 := (unhide HN).frozen 3
        have r3 := (unhide HN).cell (i := 3) rfl
        have rf4 := (unhide HN).frozen 4
        have r4 := (unhide HN).cell (i := 4) rfl
        have rf5 := (unhide HN).frozen 5
        have r5 := (unhide HN).cell (i := 5) rfl
        have rf6 := (unhide HN).frozen 6
        have r6 := (unhide HN).cell (i := 6) rfl
        have HBN := hide ((((((((unhide HN).set 0 (.int .i64 y.q) (by simp)).set 1 (.int .i64 y.ld) (by simp)).set 2 (.int .i64 y.he) (by simp)).set 3 (.int .i64 y.lw) (by simp)).set 4 (.int .i64 y.hg) (by simp)).set 5 (.int .i64 y.lm) (by simp)).set 6 (.int .i64 y.rs) (by simp))
        have HKS : Hid (Kept (fun b => b = g7) wc2a (((((((wc2a.setCell ⟨g7, 0, none⟩ (.int .i64 y.q)).setCell ⟨g7, 1, none⟩ (.int .i64 y.ld)).setCell ⟨g7, 2, none⟩ (.int .i64 y.he)).setCell ⟨g7, 3, none⟩ (.int .i64 y.lw)).setCell ⟨g7, 4, none⟩ (.int .i64 y.hg)).setCell ⟨g7, 5, none⟩ (.int .i64 y.lm)).setCell ⟨g7, 6, none⟩ (.int .i64 y.rs))) := ((((((((Kept.refl (fun b => b = g7) _).setCell (p := ⟨g7, 0, none⟩) rfl _).setCell (p := ⟨g7, 1, none⟩) rfl _).setCell (p := ⟨g7, 2, none⟩) rfl _).setCell (p := ⟨g7, 3, none⟩) rfl _).setCell (p := ⟨g7, 4, none⟩) rfl _).setCell (p := ⟨g7, 5, none⟩) rfl _).setCell (p := ⟨g7, 6, none⟩) rfl _)
        have hWB := unhide HW
        replace HW := hide (hWB.trans ((unhide HKS).below hWB.size (fun b e => by omega)))
        clear hWB
        replace HB := hide ((unhide HB).kept (unhide HKS) (fun e => by omega))
        replace HS2 := hide ((unhide HS2).kept (unhide HKS) (fun e => by omega))
        replace HY5 := hide ((unhide HY5).kept (unhide HKS) (fun e => by omega))
        go_simp
        clear rf0 r0 rf1 r1 rf2 r2 rf3 r3 rf4 r4 rf5 r5 rf6 r6
        refine hK.out _ _ ⟨(unhide HB).cell (i := 0) rfl, (unhide HB).cell (i := 1) rfl, (unhide HB).cell (i := 2) rfl, (unhide HB).cell (i := 3) rfl, (unhide HB).cell (i := 4) rfl, (unhide HB).cell (i := 5) rfl, (unhide HB).cell (i := 6) rfl, (unhide HS2).cell (i := 0) rfl, (unhide HS2).cell (i := 1) rfl⟩ (fun hHeld => ?_)
        clear hK K
        try simp only [Act.put, List.setIfInBounds_toArray, List.set_cons_zero, List.set_cons_succ]
        refine wpAnyH_take (i := 10) (v := ?_) rfl (by kernel_rfl) (by kernel_rfl) (by kernel_rfl) (fun _ _ _ h => h) (Or.inl ⟨by rfl, ?_⟩) (by assumption) ?_
        rotate_left
        · intro wy hSw
          obtain ⟨hS0, hS1, hS2, hS3, hS4, hS5, hS6, hS7, hS8⟩ := hSw
          go_simp
          try with_reducible rfl
        try simp only [Act.put, List.getElem_toArray, List.getElem_cons_succ, List.getElem_cons_zero, List.setIfInBounds_toArray, List.set_cons_zero, List.set_cons_succ]
        refine wpAnyH_done (by kernel_rfl) ?_ _
        go_wp2
        go_meet
        exact ⟨g7, by trivial, by trivial, hgn, hp_g5, HW, HB, HS2, HY5, HBN⟩
    case rest =>
      obtain ⟨g7, rfl, rfl, hg_g7, hq_g5_g7, HW2, HB2, HS3, HY52, HY7⟩ := hcut
      clear HW HB HS2 HY5 HI hgl
      have HW := HW2
      have HB := HB2
      have HS2 := HS3
      have HY5 := HY52
      clear HW2 HB2 HS3 HY52
      have hgl := (unhide HS2).lt
      clear HT1 HT2 hgl HB HS2
      have c0 := (unhide HY5).cell (i := 0) rfl
      have d0 := (unhide HY7).cell (i := 0) rfl
      have c1 := (unhide HY5).cell (i := 1) rfl
      have d1 := (unhide HY7).cell (i := 1) rfl
      have c2 := (unhide HY5).cell (i := 2) rfl
      have d2 := (unhide HY7).cell (i := 2) rfl
      have c3 := (unhide HY5).cell (i := 3) rfl
      have d3 := (unhide HY7).cell (i := 3) rfl
      have c4 := (unhide HY5).cell (i := 4) rfl
      have d4 := (unhide HY7).cell (i := 4) rfl
      have c5 := (unhide HY5).cell (i := 5) rfl
      have d5 := (unhide HY7).cell (i := 5) rfl
      have c6 := (unhide HY5).cell (i := 6) rfl
      have d6 := (unhide HY7).cell (i := 6) rfl
      go_wp2_with fail
      refine (unhide HE _).mono ?_
      rintro e V9 ⟨rfl, hb⟩
      replace HW := hide (Below.step (unhide HW) hb)
      clear hb HE HY5 HY7 c0 d0 c1 d1 c2 d2 c3 d3 c4 d4 c5 d5 c6 d6
      cases b <;> (go_wp2; go_ret; exact ⟨rfl, unhide HW⟩)

end Go.Proofs.Ytgmhijbepkobkaa

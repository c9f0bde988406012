/- Contracts of both Beats: the sway behind pushes. Written by wip/mk21b.py. -/
import Derived.Test.YtkfdcpnbpmipkaaShM
import Derived.Test.YtkfdcpnbpmipkaaHoA
import Derived.Test.YtkfdcpnbpmipkaaRecH
import Derived.Deep.RegionHeld3
import Derived.Deep.DeepCutAuto
import Derived.Deep.Cut
namespace Go.Proofs.Ytkfdcpnbpmipkaa
open Go.RowKit

/-- What Beats answers, as a value. -/
def btS (r : Bool × Int × Int × Int) : Value := vSway r.2.1 r.2.2.1 r.2.2.2
theorem sw_cases (a o s x : Int) (L : List Int) : ∃ b z0 z1 z2, swgB a o s x = b ∧ swgV a o s x = vSway z0 z1 z2 ∧ btN a o s (x :: L) = bif b then btN z0 z1 z2 L else (false, 0, 0, 0) := by
  cases h : swgB a o s x
  · exact ⟨false, 0, 0, 0, rfl, by unfold swgV; rw [h]; rfl, by rw [btN, h]; rfl⟩
  · exact ⟨true, a + x, s, x - o, rfl, by unfold swgV; rw [h]; rfl, by rw [btN, h]⟩
theorem drop_cons (L : List Int) {k : Nat} (h : k < L.length) : L.drop k = L.getD k 0 :: L.drop (k + 1) := by
  rw [List.drop_eq_getElem_cons h]; simp [List.getD, List.getElem?_eq_getElem h]
/-- One number in memory. -/
def PuA (w : World) (b o : Nat) (x : Int) : Prop := w.cell? ⟨b, o, none⟩ = some (.int .i64 x)
theorem PuA.step {w w' : World} {b o : Nat} {x : Int} (h : PuA w b o x) (hb : Below w.heap.size w w') : PuA w' b o x := (hb.cell (lt_of_cell h)).trans h
theorem PuA.kept {T : Nat → Prop} {w w' : World} {b o : Nat} {x : Int} (h : PuA w b o x) (hk : Kept T w w') (hT : ¬ T b) : PuA w' b o x := (World.cell?_of_block (hk.block b (lt_of_cell h) hT)).trans h

set_option maxRecDepth 100000 in
set_option maxHeartbeats 16000000 in
theorem specBeats_any (a0 o0 s0 : Int) (v : Value) (L : List Int) (w : World) (hL : IntsIn w v L) :
    Calls Try.prog 19 #[vSway a0 o0 s0, v] w fun e w' => e = .returned (.tuple #[btS (btV a0 o0 s0 L), .bool (btV a0 o0 s0 L).1]) ∧ Below w.heap.size w w' := by
  have HVL := hide hL
  obtain ⟨ao, cap, rfl, hl, hm, -⟩ := hL
  unfold maxLen at hm
  have HS1 := hide fun W => specSwayOk_any a0 o0 s0 W
  obtain ⟨R, eR⟩ : ∃ r, r = btV a0 o0 s0 L := ⟨_, rfl⟩
  have HBAD1 : Hid (swB a0 o0 s0 = false → R = (false, 0, 0, 0)) := by
    show _ → _
    intro h
    rw [eR]; unfold btV; rw [h]; rfl
  have HBAD2 : Hid (¬ L.length ≤ 40 → R = (false, 0, 0, 0)) := by
    show _ → _
    intro h
    rw [eR]; unfold btV; rw [decide_eq_false h, Bool.and_false]; rfl
  have HGOOD : Hid (swB a0 o0 s0 = true → L.length ≤ 40 → R = btN a0 o0 s0 L) := by
    show _ → _
    intro h h2
    rw [eR]; unfold btV; rw [h, decide_eq_true h2]; rfl
  rw [← eR]
  clear eR
  unfold vSway at HS1 ⊢
  go_enter Try.func19, Try.ntmps19
  go_upto_region 1 with (fail)
  obtain ⟨g0, eg0⟩ : ∃ z, z = w.heap.size := ⟨_, rfl⟩
  obtain ⟨W, eW⟩ : ∃ z, z = (w.alloc (.cells #[.int .i64 a0, .int .i64 o0, .int .i64 s0] 31)).alloc (.cells #[.int .i64 0, .int .i64 0, .int .i64 0] 31) := ⟨_, rfl⟩
  have HW : Hid (Below w.heap.size w W) := by rw [eW]; exact Below.step (Below.alloc1 _ _) (Below.alloc1 _ _)
  have HB : Hid (OwnV W g0 [.int .i64 a0, .int .i64 o0, .int .i64 s0]) := by rw [eW, eg0]; exact (ownV_alloc _ _ _).step (Below.alloc1 _ _)
  have HZ : Hid (OwnV W (g0 + 1) [.int .i64 0, .int .i64 0, .int .i64 0]) := by
    have := ownV_alloc (w.alloc (.cells #[.int .i64 a0, .int .i64 o0, .int .i64 s0] 31)) #[.int .i64 0, .int .i64 0, .int .i64 0] 31
    simp only [World.size_alloc] at this
    rw [eW, eg0]
    exact this
  rw [← eW, ← eg0]
  have hg0 : w.heap.size ≤ g0 := by omega
  clear eW eg0
  have b0 := (unhide HB).cell (i := 0) rfl
  have b1 := (unhide HB).cell (i := 1) rfl
  have b2 := (unhide HB).cell (i := 2) rfl
  go_wp2_with fail
  refine (unhide HS1 _).mono ?_
  rintro e W1 ⟨rfl, hb⟩
  replace HW := hide (Below.step (unhide HW) hb)
  replace HB := hide ((unhide HB).step hb)
  replace HZ := hide ((unhide HZ).step hb)
  clear hb HS1 b0 b1 b2
  cases h1 : swB a0 o0 s0
  case false =>
    have z0 := (unhide HZ).cell (i := 0) rfl
    have z1 := (unhide HZ).cell (i := 1) rfl
    have z2 := (unhide HZ).cell (i := 2) rfl
    have zf0 := (unhide HZ).frozen 0
    have zf1 := (unhide HZ).frozen 1
    have zf2 := (unhide HZ).frozen 2
    have hWz := (unhide HW).size
    go_wp2
    refine bodyPost_ret (v := .tuple #[vSway 0 0 0, .bool false]) (by simp [results, Try.results19, go_sem, vSway, z0, z1, z2]) rfl ⟨by rw [unhide HBAD1 h1]; rfl, ?_⟩
    repeat (refine Below.setCell ?_ (by dsimp only; omega) _)
    exact unhide HW
  by_cases h40 : L.length ≤ 40
  case neg =>
    have n40 : ((40 : Int) < (L.length : Int)) := by omega
    have d40 : decide ((40 : Int) < (L.length : Int)) = true := decide_eq_true n40
    have z0 := (unhide HZ).cell (i := 0) rfl
    have z1 := (unhide HZ).cell (i := 1) rfl
    have z2 := (unhide HZ).cell (i := 2) rfl
    have zf0 := (unhide HZ).frozen 0
    have zf1 := (unhide HZ).frozen 1
    have zf2 := (unhide HZ).frozen 2
    have hWz := (unhide HW).size
    go_wp2
    refine bodyPost_ret (v := .tuple #[vSway 0 0 0, .bool false]) (by simp [results, Try.results19, go_sem, vSway, z0, z1, z2]) rfl ⟨by rw [unhide HBAD2 h40]; rfl, ?_⟩
    repeat (refine Below.setCell ?_ (by dsimp only; omega) _)
    exact unhide HW
  have n40 : ¬ ((40 : Int) < (L.length : Int)) := by omega
  have d40 : decide ((40 : Int) < (L.length : Int)) = false := decide_eq_false n40
  have HG := hide (unhide HGOOD h1 h40)
  clear HGOOD HBAD1 HBAD2 h1
  go_wp2_with fail
  go_loopg [6] L.length (fun gh iv wr => ∃ (k : Nat) (y0 y1 y2 : Int), k ≤ L.length ∧ gh = L.length - k ∧ iv = .int .i64 k ∧ Hid (R = btN y0 y1 y2 (L.drop k)) ∧ Hid (Below w.heap.size w wr) ∧ Hid (OwnV wr g0 [.int .i64 y0, .int .i64 y1, .int .i64 y2]) ∧ Hid (OwnV wr (g0 + 1) [.int .i64 0, .int .i64 0, .int .i64 0]))
  case atStart => exact ⟨0, a0, o0, s0, Nat.zero_le _, rfl, rfl, HG, HW, HB, HZ⟩
  case round =>
    clear HW HB HZ HG
    obtain ⟨k, y0, y1, y2, hk, rfl, rfl, HY, HW, HB, HZ⟩ := hrel
    by_cases hkn : k < L.length
    case neg =>
      have dki : decide ((k : Int) < (L.length : Int)) = false := decide_eq_false (by omega)
      have nki : ¬ ((k : Int) < (L.length : Int)) := by omega
      have HE : Hid (R = (true, y0, y1, y2)) := by show _ = _; rw [unhide HY, List.drop_eq_nil_of_le (by omega)]; rfl
      have b0 := (unhide HB).cell (i := 0) rfl
      have b1 := (unhide HB).cell (i := 1) rfl
      have b2 := (unhide HB).cell (i := 2) rfl
      have z0 := (unhide HZ).cell (i := 0) rfl
      have z1 := (unhide HZ).cell (i := 1) rfl
      have z2 := (unhide HZ).cell (i := 2) rfl
      have zf0 := (unhide HZ).frozen 0
      have zf1 := (unhide HZ).frozen 1
      have zf2 := (unhide HZ).frozen 2
      have hWz := (unhide HW).size
      go_wp2
      refine bodyPost_ret (v := .tuple #[vSway y0 y1 y2, .bool true]) (by simp [results, Try.results19, go_sem, vSway, z0, z1, z2]) rfl ⟨by rw [unhide HE]; rfl, ?_⟩
      repeat (refine Below.setCell ?_ (by dsimp only; omega) _)
      exact unhide HW
    have hki : (k : Int) < (L.length : Int) := by omega
    have dki : decide ((k : Int) < (L.length : Int)) = true := decide_eq_true hki
    obtain ⟨bo, of, eao, hc⟩ := intAt (unhide HVL) hkn
    have hbw : bo < w.heap.size := lt_of_cell hc
    subst eao
    obtain ⟨x, ex⟩ : ∃ z, z = L.getD k 0 := ⟨_, rfl⟩
    have HSg : Hid (PuA wr bo (of + k) x) := by rw [ex]; exact ((unhide HW).cell hbw).trans hc
    clear hc
    obtain ⟨b, z0, z1, z2, e1, e2, e3⟩ := sw_cases y0 y1 y2 x (L.drop (k + 1))
    have HNX : Hid (R = bif b then btN z0 z1 z2 (L.drop (k + 1)) else (false, 0, 0, 0)) := by show _ = _; rw [unhide HY, drop_cons L hkn, ← ex, e3]
    have HC := hide fun W => specSwing1_any y0 y1 y2 x W
    rw [e1, e2] at HC
    unfold vSway at HC
    have hg1w := (unhide HZ).lt
    have hww := (unhide HW).size
    clear e1 e2 e3 ex HY
    go_upto_region 6 with (fail)
    go_cut [7, 8] (fun s7 s8 wx => ∃ (gn : Nat), s7 = .pointer (some ⟨gn, 0, none⟩) ∧ s8 = .bool b ∧ g0 + 1 < gn ∧ Hid (Below w.heap.size w wx) ∧ Hid (OwnV wx g0 [.int .i64 y0, .int .i64 y1, .int .i64 y2]) ∧ Hid (OwnV wx (g0 + 1) [.int .i64 0, .int .i64 0, .int .i64 0]) ∧ Hid (OwnV wx gn [.int .i64 z0, .int .i64 z1, .int .i64 z2]))
    case first =>
      obtain ⟨wd, ewd⟩ : ∃ z, z = wr.drew := ⟨_, rfl⟩
      have hb : Below wr.heap.size wr wd := by rw [ewd]; exact (Below.refl _ _).drew
      replace HW := hide (Below.step (unhide HW) hb)
      replace HB := hide (OwnV.step (unhide HB) hb)
      replace HZ := hide (OwnV.step (unhide HZ) hb)
      replace HSg := hide ((unhide HSg).step hb)
      have hszd := hb.size
      clear hb
      refine wp_region_held_drew (S := fun w' => w'.cell? ⟨g0, 0, none⟩ = some (.int .i64 y0) ∧ w'.cell? ⟨g0, 1, none⟩ = some (.int .i64 y1) ∧ w'.cell? ⟨g0, 2, none⟩ = some (.int .i64 y2) ∧ w'.cell? ⟨bo, of + k, none⟩ = some (.int .i64 x)) (by kernel_rfl) ⟨by rw [← ewd]; exact (unhide HB).cell (i := 0) rfl, by rw [← ewd]; exact (unhide HB).cell (i := 1) rfl, by rw [← ewd]; exact (unhide HB).cell (i := 2) rfl, by rw [← ewd]; exact (unhide HSg)⟩ (fun hHeld => ?_)
      rw [← ewd] at hHeld ⊢
      clear ewd
      refine wpAnyH_take (i := 0) (v := ?_) rfl (by kernel_rfl) (by kernel_rfl) (by kernel_rfl) (fun _ _ _ h => h) (Or.inl ⟨by rfl, ?_⟩) (by assumption) ?_
      rotate_left
      · intro wy hSw
        obtain ⟨hS0, hS1, hS2, hS3⟩ := hSw
        go_simp
        try with_reducible rfl
      try simp only [Act.put, List.getElem_toArray, List.getElem_cons_zero, List.setIfInBounds_toArray, List.set_cons_zero, List.set_cons_succ]
      refine wpAnyH_take (i := 1) (v := ?_) rfl (by kernel_rfl) (by kernel_rfl) (by kernel_rfl) (fun _ _ _ h => h) (Or.inl ⟨by rfl, ?_⟩) (by assumption) ?_
      rotate_left
      · intro wy hSw
        obtain ⟨hS0, hS1, hS2, hS3⟩ := hSw
        go_simp
        try with_reducible rfl
      try simp only [Act.put, List.getElem_toArray, List.getElem_cons_succ, List.getElem_cons_zero, List.setIfInBounds_toArray, List.set_cons_zero, List.set_cons_succ]
      refine wpAnyH_take (i := 2) (v := ?_) rfl (by kernel_rfl) (by kernel_rfl) (by kernel_rfl) (fun _ _ _ h => h) (Or.inl ⟨by rfl, ?_⟩) (by assumption) ?_
      rotate_left
      · intro wy hSw
        obtain ⟨hS0, hS1, hS2, hS3⟩ := hSw
        go_simp
        try with_reducible rfl
      try simp only [Act.put, List.getElem_toArray, List.getElem_cons_succ, List.getElem_cons_zero, List.setIfInBounds_toArray, List.set_cons_zero, List.set_cons_succ]
      refine wpAnyH_take (i := 3) (v := ?_) rfl (by kernel_rfl) (by kernel_rfl) (by kernel_rfl) (fun _ _ _ h => h) (Or.inl ⟨by rfl, ?_⟩) (by assumption) ?_
      rotate_left
      · intro wy hSw
        obtain ⟨hS0, hS1, hS2, hS3⟩ := hSw
        go_simp
        try with_reducible rfl
      try simp only [Act.put, List.getElem_toArray, List.getElem_cons_succ, List.getElem_cons_zero, List.setIfInBounds_toArray, List.set_cons_zero, List.set_cons_succ]
      refine wpAnyH_take (i := 4) (v := ?_) rfl (by kernel_rfl) (by kernel_rfl) (by kernel_rfl) (fun _ _ _ h => h) (Or.inl ⟨by rfl, ?_⟩) (by assumption) ?_
      rotate_left
      · intro wy hSw
        obtain ⟨hS0, hS1, hS2, hS3⟩ := hSw
        go_simp
        try with_reducible rfl
      try simp only [Act.put, List.getElem_toArray, List.getElem_cons_succ, List.getElem_cons_zero, List.setIfInBounds_toArray, List.set_cons_zero, List.set_cons_succ]
      refine wpAnyH_ready (rs := [5, 9]) (by kernel_rfl) (by simp) ?_
      refine AllReadyH.cons rfl (fun K hK => ?_) (AllReadyH.cons rfl (fun K hK => ?_) AllReadyH.nil)
      · go_simp
        have HCQ := hide (unhide HC wd)
        refine (unhide HCQ).mono ?_
        rintro e wc0 ⟨rfl, hb⟩
        replace HW := hide (Below.step (unhide HW) hb)
        replace HB := hide (OwnV.step (unhide HB) hb)
        replace HZ := hide (OwnV.step (unhide HZ) hb)
        replace HSg := hide ((unhide HSg).step hb)
        have hswc0 := hb.size
        clear hb HCQ
        refine hK.out _ _ ⟨(unhide HB).cell (i := 0) rfl, (unhide HB).cell (i := 1) rfl, (unhide HB).cell (i := 2) rfl, (unhide HSg)⟩ (fun hHeld => ?_)
        clear hK K
        try simp only [Act.put, List.setIfInBounds_toArray, List.set_cons_zero, List.set_cons_succ]
        refine wpAnyH_take (i := 6) (v := ?_) rfl (by kernel_rfl) (by kernel_rfl) (by kernel_rfl) (fun _ _ _ h => h) (Or.inl ⟨by rfl, ?_⟩) (by assumption) ?_
        rotate_left
        · intro wy hSw
          obtain ⟨hS0, hS1, hS2, hS3⟩ := hSw
          go_simp
          try with_reducible rfl
        try simp only [Act.put, List.getElem_toArray, List.getElem_cons_succ, List.getElem_cons_zero, List.setIfInBounds_toArray, List.set_cons_zero, List.set_cons_succ]
        refine wpAnyH_take (i := 7) (v := ?_) rfl (by kernel_rfl) (by kernel_rfl) (by kernel_rfl) (fun _ _ _ h => h) (Or.inl ⟨by rfl, ?_⟩) (by assumption) ?_
        rotate_left
        · intro wy hSw
          obtain ⟨hS0, hS1, hS2, hS3⟩ := hSw
          go_simp
          try with_reducible rfl
        try simp only [Act.put, List.getElem_toArray, List.getElem_cons_succ, List.getElem_cons_zero, List.setIfInBounds_toArray, List.set_cons_zero, List.set_cons_succ]
        refine wpAnyH_take (i := 8) (v := ?_) rfl (by kernel_rfl) (by kernel_rfl) (by kernel_rfl) (fun _ _ _ h => h) (Or.inl ⟨by rfl, ?_⟩) (by assumption) ?_
        rotate_left
        · intro wy hSw
          obtain ⟨hS0, hS1, hS2, hS3⟩ := hSw
          go_simp
          try with_reducible rfl
        try simp only [Act.put, List.getElem_toArray, List.getElem_cons_succ, List.getElem_cons_zero, List.setIfInBounds_toArray, List.set_cons_zero, List.set_cons_succ]
        refine wpAnyH_ready (rs := [9]) (by kernel_rfl) (by simp) ?_
        refine AllReadyH.cons rfl (fun K hK => ?_) AllReadyH.nil
        go_simp
        obtain ⟨gn, egn⟩ : ∃ z, z = wc0.heap.size := ⟨_, rfl⟩
        obtain ⟨wb1, ewb1⟩ : ∃ z, z = wc0.alloc (.cells #[.int .i64 0, .int .i64 0, .int .i64 0] 31) := ⟨_, rfl⟩
        have hb : Below wc0.heap.size wc0 wb1 := by rw [ewb1]; exact Below.alloc1 _ _
        have HN : Hid (OwnV wb1 gn [.int .i64 0, .int .i64 0, .int .i64 0]) := by rw [ewb1, egn]; exact ownV_alloc _ _ _
        rw [← ewb1, ← egn]
        replace HW := hide (Below.step (unhide HW) hb)
        replace HB := hide (OwnV.step (unhide HB) hb)
        replace HZ := hide (OwnV.step (unhide HZ) hb)
        replace HSg := hide ((unhide HSg).step hb)
        have hgn : g0 + 1 < gn := by omega
        have hgw : w.heap.size ≤ gn := by omega
        have hbn : bo < gn := by omega
        clear hb ewb1 egn
        refine hK.out _ _ ⟨(unhide HB).cell (i := 0) rfl, (unhide HB).cell (i := 1) rfl, (unhide HB).cell (i := 2) rfl, (unhide HSg)⟩ (fun hHeld => ?_)
        clear hK K
        try simp only [Act.put, List.setIfInBounds_toArray, List.set_cons_zero, List.set_cons_succ]
        refine wpAnyH_ready (rs := [10]) (by kernel_rfl) (by simp) ?_
        refine AllReadyH.cons rfl (fun K hK => ?_) AllReadyH.nil
        have rf0 := (unhide HN).frozen 0
        have r0 := (unhide HN).cell (i := 0) rfl
        have rf1 := (unhide HN).frozen 1
        have r1 := (unhide HN).cell (i := 1) rfl
        have rf2 := (unhide HN).frozen 2
        have r2 := (unhide HN).cell (i := 2) rfl
        have HBN := hide ((((unhide HN).set 0 (.int .i64 z0) (by simp)).set 1 (.int .i64 z1) (by simp)).set 2 (.int .i64 z2) (by simp))
        have HKS : Hid (Kept (fun b => b = gn) wb1 (((wb1.setCell ⟨gn, 0, none⟩ (.int .i64 z0)).setCell ⟨gn, 1, none⟩ (.int .i64 z1)).setCell ⟨gn, 2, none⟩ (.int .i64 z2))) := ((((Kept.refl (fun b => b = gn) _).setCell (p := ⟨gn, 0, none⟩) rfl _).setCell (p := ⟨gn, 1, none⟩) rfl _).setCell (p := ⟨gn, 2, none⟩) rfl _)
        have hWB := unhide HW
        replace HW := hide (hWB.trans ((unhide HKS).below hWB.size (fun b e => by omega)))
        clear hWB
        replace HB := hide ((unhide HB).kept (unhide HKS) (fun e => by omega))
        replace HZ := hide ((unhide HZ).kept (unhide HKS) (fun e => by omega))
        replace HSg := hide ((unhide HSg).kept (unhide HKS) (fun e => by omega))
        go_simp
        clear rf0 r0 rf1 r1 rf2 r2
        refine hK.out _ _ ⟨(unhide HB).cell (i := 0) rfl, (unhide HB).cell (i := 1) rfl, (unhide HB).cell (i := 2) rfl, (unhide HSg)⟩ (fun hHeld => ?_)
        clear hK K
        try simp only [Act.put, List.setIfInBounds_toArray, List.set_cons_zero, List.set_cons_succ]
        refine wpAnyH_take (i := 11) (v := ?_) rfl (by kernel_rfl) (by kernel_rfl) (by kernel_rfl) (fun _ _ _ h => h) (Or.inl ⟨by rfl, ?_⟩) (by assumption) ?_
        rotate_left
        · intro wy hSw
          obtain ⟨hS0, hS1, hS2, hS3⟩ := hSw
          go_simp
          try with_reducible rfl
        try simp only [Act.put, List.getElem_toArray, List.getElem_cons_succ, List.getElem_cons_zero, List.setIfInBounds_toArray, List.set_cons_zero, List.set_cons_succ]
        refine wpAnyH_done (by kernel_rfl) ?_ _
        go_wp2
        go_meet
        exact ⟨gn, by trivial, by trivial, hgn, HW, HB, HZ, HBN⟩
      · go_simp
        obtain ⟨gn, egn⟩ : ∃ z, z = wd.heap.size := ⟨_, rfl⟩
        obtain ⟨wb0, ewb0⟩ : ∃ z, z = wd.alloc (.cells #[.int .i64 0, .int .i64 0, .int .i64 0] 31) := ⟨_, rfl⟩
        have hb : Below wd.heap.size wd wb0 := by rw [ewb0]; exact Below.alloc1 _ _
        have HN : Hid (OwnV wb0 gn [.int .i64 0, .int .i64 0, .int .i64 0]) := by rw [ewb0, egn]; exact ownV_alloc _ _ _
        rw [← ewb0, ← egn]
        replace HW := hide (Below.step (unhide HW) hb)
        replace HB := hide (OwnV.step (unhide HB) hb)
        replace HZ := hide (OwnV.step (unhide HZ) hb)
        replace HSg := hide ((unhide HSg).step hb)
        have hgn : g0 + 1 < gn := by omega
        have hgw : w.heap.size ≤ gn := by omega
        have hbn : bo < gn := by omega
        clear hb ewb0 egn
        refine hK.out _ _ ⟨(unhide HB).cell (i := 0) rfl, (unhide HB).cell (i := 1) rfl, (unhide HB).cell (i := 2) rfl, (unhide HSg)⟩ (fun hHeld => ?_)
        clear hK K
        try simp only [Act.put, List.setIfInBounds_toArray, List.set_cons_zero, List.set_cons_succ]
        refine wpAnyH_ready (rs := [5]) (by kernel_rfl) (by simp) ?_
        refine AllReadyH.cons rfl (fun K hK => ?_) AllReadyH.nil
        go_simp
        have HCQ := hide (unhide HC wb0)
        refine (unhide HCQ).mono ?_
        rintro e wc0a ⟨rfl, hb⟩
        replace HW := hide (Below.step (unhide HW) hb)
        replace HB := hide (OwnV.step (unhide HB) hb)
        replace HZ := hide (OwnV.step (unhide HZ) hb)
        replace HSg := hide ((unhide HSg).step hb)
        replace HN := hide (OwnV.step (unhide HN) hb)
        have hswc0a := hb.size
        clear hb HCQ
        refine hK.out _ _ ⟨(unhide HB).cell (i := 0) rfl, (unhide HB).cell (i := 1) rfl, (unhide HB).cell (i := 2) rfl, (unhide HSg)⟩ (fun hHeld => ?_)
        clear hK K
        try simp only [Act.put, List.setIfInBounds_toArray, List.set_cons_zero, List.set_cons_succ]
        refine wpAnyH_take (i := 6) (v := ?_) rfl (by kernel_rfl) (by kernel_rfl) (by kernel_rfl) (fun _ _ _ h => h) (Or.inl ⟨by rfl, ?_⟩) (by assumption) ?_
        rotate_left
        · intro wy hSw
          obtain ⟨hS0, hS1, hS2, hS3⟩ := hSw
          go_simp
          try with_reducible rfl
        try simp only [Act.put, List.getElem_toArray, List.getElem_cons_succ, List.getElem_cons_zero, List.setIfInBounds_toArray, List.set_cons_zero, List.set_cons_succ]
        refine wpAnyH_take (i := 7) (v := ?_) rfl (by kernel_rfl) (by kernel_rfl) (by kernel_rfl) (fun _ _ _ h => h) (Or.inl ⟨by rfl, ?_⟩) (by assumption) ?_
        rotate_left
        · intro wy hSw
          obtain ⟨hS0, hS1, hS2, hS3⟩ := hSw
          go_simp
          try with_reducible rfl
        try simp only [Act.put, List.getElem_toArray, List.getElem_cons_succ, List.getElem_cons_zero, List.setIfInBounds_toArray, List.set_cons_zero, List.set_cons_succ]
        refine wpAnyH_take (i := 8) (v := ?_) rfl (by kernel_rfl) (by kernel_rfl) (by kernel_rfl) (fun _ _ _ h => h) (Or.inl ⟨by rfl, ?_⟩) (by assumption) ?_
        rotate_left
        · intro wy hSw
          obtain ⟨hS0, hS1, hS2, hS3⟩ := hSw
          go_simp
          try with_reducible rfl
        try simp only [Act.put, List.getElem_toArray, List.getElem_cons_succ, List.getElem_cons_zero, List.setIfInBounds_toArray, List.set_cons_zero, List.set_cons_succ]
        refine wpAnyH_ready (rs := [10]) (by kernel_rfl) (by simp) ?_
        refine AllReadyH.cons rfl (fun K hK => ?_) AllReadyH.nil
        have rf0 := (unhide HN).frozen 0
        have r0 := (unhide HN).cell (i := 0) rfl
        have rf1 := (unhide HN).frozen 1
        have r1 := (unhide HN).cell (i := 1) rfl
        have rf2 := (unhide HN).frozen 2
        have r2 := (unhide HN).cell (i := 2) rfl
        have HBN := hide ((((unhide HN).set 0 (.int .i64 z0) (by simp)).set 1 (.int .i64 z1) (by simp)).set 2 (.int .i64 z2) (by simp))
        have HKS : Hid (Kept (fun b => b = gn) wc0a (((wc0a.setCell ⟨gn, 0, none⟩ (.int .i64 z0)).setCell ⟨gn, 1, none⟩ (.int .i64 z1)).setCell ⟨gn, 2, none⟩ (.int .i64 z2))) := ((((Kept.refl (fun b => b = gn) _).setCell (p := ⟨gn, 0, none⟩) rfl _).setCell (p := ⟨gn, 1, none⟩) rfl _).setCell (p := ⟨gn, 2, none⟩) rfl _)
        have hWB := unhide HW
        replace HW := hide (hWB.trans ((unhide HKS).below hWB.size (fun b e => by omega)))
        clear hWB
        replace HB := hide ((unhide HB).kept (unhide HKS) (fun e => by omega))
        replace HZ := hide ((unhide HZ).kept (unhide HKS) (fun e => by omega))
        replace HSg := hide ((unhide HSg).kept (unhide HKS) (fun e => by omega))
        go_simp
        clear rf0 r0 rf1 r1 rf2 r2
        refine hK.out _ _ ⟨(unhide HB).cell (i := 0) rfl, (unhide HB).cell (i := 1) rfl, (unhide HB).cell (i := 2) rfl, (unhide HSg)⟩ (fun hHeld => ?_)
        clear hK K
        try simp only [Act.put, List.setIfInBounds_toArray, List.set_cons_zero, List.set_cons_succ]
        refine wpAnyH_take (i := 11) (v := ?_) rfl (by kernel_rfl) (by kernel_rfl) (by kernel_rfl) (fun _ _ _ h => h) (Or.inl ⟨by rfl, ?_⟩) (by assumption) ?_
        rotate_left
        · intro wy hSw
          obtain ⟨hS0, hS1, hS2, hS3⟩ := hSw
          go_simp
          try with_reducible rfl
        try simp only [Act.put, List.getElem_toArray, List.getElem_cons_succ, List.getElem_cons_zero, List.setIfInBounds_toArray, List.set_cons_zero, List.set_cons_succ]
        refine wpAnyH_done (by kernel_rfl) ?_ _
        go_wp2
        go_meet
        exact ⟨gn, by trivial, by trivial, hgn, HW, HB, HZ, HBN⟩
    case rest =>
      obtain ⟨gn, rfl, rfl, hgn, HW2, HB2, HZ2, HN2⟩ := hcut
      clear HW HB HZ HSg HC
      have HW := HW2
      have HZ := HZ2
      cases b
      case false =>
        have zz0 := (unhide HZ).cell (i := 0) rfl
        have zz1 := (unhide HZ).cell (i := 1) rfl
        have zz2 := (unhide HZ).cell (i := 2) rfl
        have zzf0 := (unhide HZ).frozen 0
        have zzf1 := (unhide HZ).frozen 1
        have zzf2 := (unhide HZ).frozen 2
        have hgz : g0 + 1 < wc.heap.size := (unhide HZ).lt
        have hWz := (unhide HW).size
        go_wp2
        refine bodyPost_ret (v := .tuple #[vSway 0 0 0, .bool false]) (by simp [results, Try.results19, go_sem, vSway, zz0, zz1, zz2]) rfl ⟨by rw [unhide HNX]; rfl, ?_⟩
        repeat (refine Below.setCell ?_ (by dsimp only; omega) _)
        exact unhide HW
      have n0 := (unhide HN2).cell (i := 0) rfl
      have n1 := (unhide HN2).cell (i := 1) rfl
      have n2 := (unhide HN2).cell (i := 2) rfl
      have q0 := (unhide HB2).cell (i := 0) rfl
      have q1 := (unhide HB2).cell (i := 1) rfl
      have q2 := (unhide HB2).cell (i := 2) rfl
      have qf0 := (unhide HB2).frozen 0
      have qf1 := (unhide HB2).frozen 1
      have qf2 := (unhide HB2).frozen 2
      have hng : ¬ gn = g0 := by omega
      have hng2 : ¬ g0 = gn := by omega
      obtain ⟨V5, eV5⟩ : ∃ vv, vv = (((wc.setCell ⟨g0, 0, none⟩ (.int .i64 z0)).setCell ⟨g0, 1, none⟩ (.int .i64 z1)).setCell ⟨g0, 2, none⟩ (.int .i64 z2)) := ⟨_, rfl⟩
      have hK : Kept (fun b => b = g0) wc V5 := by rw [eV5]; exact ((((Kept.refl (fun b => b = g0) _).setCell (p := ⟨g0, 0, none⟩) rfl _).setCell (p := ⟨g0, 1, none⟩) rfl _).setCell (p := ⟨g0, 2, none⟩) rfl _)
      have HBn := hide (show OwnV V5 g0 [.int .i64 z0, .int .i64 z1, .int .i64 z2] by rw [eV5]; exact ((((unhide HB2).set 0 (.int .i64 z0) (by simp)).set 1 (.int .i64 z1) (by simp)).set 2 (.int .i64 z2) (by simp)))
      have hWB := unhide HW2
      have HWn := hide (hWB.trans (hK.below hWB.size (fun b e => by omega)))
      have HZn := hide ((unhide HZ2).kept hK (fun e => by omega))
      clear hK hWB HW2 HZ2 HN2 HW HZ
      go_upto_region 5 with (fail)
      rw [← eV5]
      clear eV5 n0 n1 n2 q0 q1 q2 qf0 qf1 qf2
      go_wp2_with fail
      go_roundg (L.length - (k + 1))
      case measure => omega
      case rel => exact ⟨k + 1, z0, z1, z2, by omega, rfl, by go_num, HNX, HWn, HBn, HZn⟩
      
set_option maxRecDepth 100000 in
set_option maxHeartbeats 16000000 in
theorem implBeats_any (a0 o0 s0 : Int) (v : Value) (L : List Int) (w : World) (hL : IntsIn w v L) :
    Calls Try.prog 12 #[vSway a0 o0 s0, v] w fun e w' => e = .returned (.tuple #[btS (btV a0 o0 s0 L), .bool (btV a0 o0 s0 L).1]) ∧ Below w.heap.size w w' := by
  have HVL := hide hL
  obtain ⟨ao, cap, rfl, hl, hm, -⟩ := hL
  unfold maxLen at hm
  have HS1 := hide fun W => implSwayOk_any a0 o0 s0 W
  obtain ⟨R, eR⟩ : ∃ r, r = btV a0 o0 s0 L := ⟨_, rfl⟩
  have HBAD1 : Hid (swB a0 o0 s0 = false → R = (false, 0, 0, 0)) := by
    show _ → _
    intro h
    rw [eR]; unfold btV; rw [h]; rfl
  have HBAD2 : Hid (¬ L.length ≤ 40 → R = (false, 0, 0, 0)) := by
    show _ → _
    intro h
    rw [eR]; unfold btV; rw [decide_eq_false h, Bool.and_false]; rfl
  have HGOOD : Hid (swB a0 o0 s0 = true → L.length ≤ 40 → R = btN a0 o0 s0 L) := by
    show _ → _
    intro h h2
    rw [eR]; unfold btV; rw [h, decide_eq_true h2]; rfl
  rw [← eR]
  clear eR
  unfold vSway at HS1 ⊢
  go_enter Try.func12, Try.ntmps12
  go_upto_region 1 with (fail)
  obtain ⟨g0, eg0⟩ : ∃ z, z = w.heap.size := ⟨_, rfl⟩
  obtain ⟨W, eW⟩ : ∃ z, z = (w.alloc (.cells #[.int .i64 a0, .int .i64 o0, .int .i64 s0] 31)).alloc (.cells #[.int .i64 0, .int .i64 0, .int .i64 0] 31) := ⟨_, rfl⟩
  have HW : Hid (Below w.heap.size w W) := by rw [eW]; exact Below.step (Below.alloc1 _ _) (Below.alloc1 _ _)
  have HB : Hid (OwnV W g0 [.int .i64 a0, .int .i64 o0, .int .i64 s0]) := by rw [eW, eg0]; exact (ownV_alloc _ _ _).step (Below.alloc1 _ _)
  have HZ : Hid (OwnV W (g0 + 1) [.int .i64 0, .int .i64 0, .int .i64 0]) := by
    have := ownV_alloc (w.alloc (.cells #[.int .i64 a0, .int .i64 o0, .int .i64 s0] 31)) #[.int .i64 0, .int .i64 0, .int .i64 0] 31
    simp only [World.size_alloc] at this
    rw [eW, eg0]
    exact this
  rw [← eW, ← eg0]
  have hg0 : w.heap.size ≤ g0 := by omega
  clear eW eg0
  have b0 := (unhide HB).cell (i := 0) rfl
  have b1 := (unhide HB).cell (i := 1) rfl
  have b2 := (unhide HB).cell (i := 2) rfl
  go_wp2_with fail
  refine (unhide HS1 _).mono ?_
  rintro e W1 ⟨rfl, hb⟩
  replace HW := hide (Below.step (unhide HW) hb)
  replace HB := hide ((unhide HB).step hb)
  replace HZ := hide ((unhide HZ).step hb)
  clear hb HS1 b0 b1 b2
  cases h1 : swB a0 o0 s0
  case false =>
    have z0 := (unhide HZ).cell (i := 0) rfl
    have z1 := (unhide HZ).cell (i := 1) rfl
    have z2 := (unhide HZ).cell (i := 2) rfl
    have zf0 := (unhide HZ).frozen 0
    have zf1 := (unhide HZ).frozen 1
    have zf2 := (unhide HZ).frozen 2
    have hWz := (unhide HW).size
    go_wp2
    refine bodyPost_ret (v := .tuple #[vSway 0 0 0, .bool false]) (by simp [results, Try.results12, go_sem, vSway, z0, z1, z2]) rfl ⟨by rw [unhide HBAD1 h1]; rfl, ?_⟩
    repeat (refine Below.setCell ?_ (by dsimp only; omega) _)
    exact unhide HW
  by_cases h40 : L.length ≤ 40
  case neg =>
    have n40 : ((40 : Int) < (L.length : Int)) := by omega
    have d40 : decide ((40 : Int) < (L.length : Int)) = true := decide_eq_true n40
    have z0 := (unhide HZ).cell (i := 0) rfl
    have z1 := (unhide HZ).cell (i := 1) rfl
    have z2 := (unhide HZ).cell (i := 2) rfl
    have zf0 := (unhide HZ).frozen 0
    have zf1 := (unhide HZ).frozen 1
    have zf2 := (unhide HZ).frozen 2
    have hWz := (unhide HW).size
    go_wp2
    refine bodyPost_ret (v := .tuple #[vSway 0 0 0, .bool false]) (by simp [results, Try.results12, go_sem, vSway, z0, z1, z2]) rfl ⟨by rw [unhide HBAD2 h40]; rfl, ?_⟩
    repeat (refine Below.setCell ?_ (by dsimp only; omega) _)
    exact unhide HW
  have n40 : ¬ ((40 : Int) < (L.length : Int)) := by omega
  have d40 : decide ((40 : Int) < (L.length : Int)) = false := decide_eq_false n40
  have HG := hide (unhide HGOOD h1 h40)
  clear HGOOD HBAD1 HBAD2 h1
  go_wp2_with fail
  go_loopg [21] L.length (fun gh iv wr => ∃ (k : Nat) (y0 y1 y2 : Int), k ≤ L.length ∧ gh = L.length - k ∧ iv = .int .i64 k ∧ Hid (R = btN y0 y1 y2 (L.drop k)) ∧ Hid (Below w.heap.size w wr) ∧ Hid (OwnV wr g0 [.int .i64 y0, .int .i64 y1, .int .i64 y2]) ∧ Hid (OwnV wr (g0 + 1) [.int .i64 0, .int .i64 0, .int .i64 0]))
  case atStart => exact ⟨0, a0, o0, s0, Nat.zero_le _, rfl, rfl, HG, HW, HB, HZ⟩
  case round =>
    clear HW HB HZ HG
    obtain ⟨k, y0, y1, y2, hk, rfl, rfl, HY, HW, HB, HZ⟩ := hrel
    by_cases hkn : k < L.length
    case neg =>
      have dki : decide ((k : Int) < (L.length : Int)) = false := decide_eq_false (by omega)
      have nki : ¬ ((k : Int) < (L.length : Int)) := by omega
      have HE : Hid (R = (true, y0, y1, y2)) := by show _ = _; rw [unhide HY, List.drop_eq_nil_of_le (by omega)]; rfl
      have b0 := (unhide HB).cell (i := 0) rfl
      have b1 := (unhide HB).cell (i := 1) rfl
      have b2 := (unhide HB).cell (i := 2) rfl
      have z0 := (unhide HZ).cell (i := 0) rfl
      have z1 := (unhide HZ).cell (i := 1) rfl
      have z2 := (unhide HZ).cell (i := 2) rfl
      have zf0 := (unhide HZ).frozen 0
      have zf1 := (unhide HZ).frozen 1
      have zf2 := (unhide HZ).frozen 2
      have hWz := (unhide HW).size
      go_wp2
      refine bodyPost_ret (v := .tuple #[vSway y0 y1 y2, .bool true]) (by simp [results, Try.results12, go_sem, vSway, z0, z1, z2]) rfl ⟨by rw [unhide HE]; rfl, ?_⟩
      repeat (refine Below.setCell ?_ (by dsimp only; omega) _)
      exact unhide HW
    have hki : (k : Int) < (L.length : Int) := by omega
    have dki : decide ((k : Int) < (L.length : Int)) = true := decide_eq_true hki
    obtain ⟨bo, of, eao, hc⟩ := intAt (unhide HVL) hkn
    have hbw : bo < w.heap.size := lt_of_cell hc
    subst eao
    obtain ⟨x, ex⟩ : ∃ z, z = L.getD k 0 := ⟨_, rfl⟩
    have HSg : Hid (PuA wr bo (of + k) x) := by rw [ex]; exact ((unhide HW).cell hbw).trans hc
    clear hc
    obtain ⟨b, z0, z1, z2, e1, e2, e3⟩ := sw_cases y0 y1 y2 x (L.drop (k + 1))
    have HNX : Hid (R = bif b then btN z0 z1 z2 (L.drop (k + 1)) else (false, 0, 0, 0)) := by show _ = _; rw [unhide HY, drop_cons L hkn, ← ex, e3]
    have HC := hide fun W => implSwing1_any y0 y1 y2 x W
    rw [e1, e2] at HC
    unfold vSway at HC
    have hg1w := (unhide HZ).lt
    have hww := (unhide HW).size
    clear e1 e2 e3 ex HY
    have HPU := unhide HSg
    unfold PuA at HPU
    have b0 := (unhide HB).cell (i := 0) rfl
    have b1 := (unhide HB).cell (i := 1) rfl
    have b2 := (unhide HB).cell (i := 2) rfl
    go_upto_region 6 with (fail)
    go_wp2_with fail
    refine (unhide HC _).mono ?_
    rintro e wq ⟨rfl, hb⟩
    replace HW := hide (Below.step (unhide HW) hb)
    replace HB := hide ((unhide HB).step hb)
    replace HZ := hide ((unhide HZ).step hb)
    clear hb HC HPU HSg b0 b1 b2
    go_upto_region 7 with (fail)
    have hltz := (unhide HZ).lt
    have A5 := Below.alloc1 wq (.cells #[.int .i64 z0, .int .i64 z1, .int .i64 z2] 31)
    have HN2 := hide (ownV_alloc wq #[.int .i64 z0, .int .i64 z1, .int .i64 z2] 31)
    replace HW := hide (Below.step (unhide HW) A5)
    have HB2 := hide ((unhide HB).step A5)
    replace HZ := hide ((unhide HZ).step A5)
    obtain ⟨gn, egn⟩ : ∃ z, z = wq.heap.size := ⟨_, rfl⟩
    obtain ⟨wc, ewc⟩ : ∃ z, z = wq.alloc (.cells #[.int .i64 z0, .int .i64 z1, .int .i64 z2] 31) := ⟨_, rfl⟩
    have hgn : g0 + 1 < gn := by omega
    clear HB A5
    rw [← ewc] at HW HB2 HZ HN2 ⊢
    rw [← egn] at HN2 ⊢
    clear ewc egn
    have HW2 := HW
    have HZ2 := HZ
    cases b
    case false =>
      have zz0 := (unhide HZ).cell (i := 0) rfl
      have zz1 := (unhide HZ).cell (i := 1) rfl
      have zz2 := (unhide HZ).cell (i := 2) rfl
      have zzf0 := (unhide HZ).frozen 0
      have zzf1 := (unhide HZ).frozen 1
      have zzf2 := (unhide HZ).frozen 2
      have hgz : g0 + 1 < wc.heap.size := (unhide HZ).lt
      have hWz := (unhide HW).size
      go_wp2
      refine bodyPost_ret (v := .tuple #[vSway 0 0 0, .bool false]) (by simp [results, Try.results12, go_sem, vSway, zz0, zz1, zz2]) rfl ⟨by rw [unhide HNX]; rfl, ?_⟩
      repeat (refine Below.setCell ?_ (by dsimp only; omega) _)
      exact unhide HW
    have n0 := (unhide HN2).cell (i := 0) rfl
    have n1 := (unhide HN2).cell (i := 1) rfl
    have n2 := (unhide HN2).cell (i := 2) rfl
    have q0 := (unhide HB2).cell (i := 0) rfl
    have q1 := (unhide HB2).cell (i := 1) rfl
    have q2 := (unhide HB2).cell (i := 2) rfl
    have qf0 := (unhide HB2).frozen 0
    have qf1 := (unhide HB2).frozen 1
    have qf2 := (unhide HB2).frozen 2
    have hng : ¬ gn = g0 := by omega
    have hng2 : ¬ g0 = gn := by omega
    obtain ⟨V5, eV5⟩ : ∃ vv, vv = (((wc.setCell ⟨g0, 0, none⟩ (.int .i64 z0)).setCell ⟨g0, 1, none⟩ (.int .i64 z1)).setCell ⟨g0, 2, none⟩ (.int .i64 z2)) := ⟨_, rfl⟩
    have hK : Kept (fun b => b = g0) wc V5 := by rw [eV5]; exact ((((Kept.refl (fun b => b = g0) _).setCell (p := ⟨g0, 0, none⟩) rfl _).setCell (p := ⟨g0, 1, none⟩) rfl _).setCell (p := ⟨g0, 2, none⟩) rfl _)
    have HBn := hide (show OwnV V5 g0 [.int .i64 z0, .int .i64 z1, .int .i64 z2] by rw [eV5]; exact ((((unhide HB2).set 0 (.int .i64 z0) (by simp)).set 1 (.int .i64 z1) (by simp)).set 2 (.int .i64 z2) (by simp)))
    have hWB := unhide HW2
    have HWn := hide (hWB.trans (hK.below hWB.size (fun b e => by omega)))
    have HZn := hide ((unhide HZ2).kept hK (fun e => by omega))
    clear hK hWB HW2 HZ2 HN2 HW HZ
    go_upto_region 10 with (fail)
    rw [← eV5]
    clear eV5 n0 n1 n2 q0 q1 q2 qf0 qf1 qf2
    go_wp2_with fail
    go_roundg (L.length - (k + 1))
    case measure => omega
    case rel => exact ⟨k + 1, z0, z1, z2, by omega, rfl, by go_num, HNX, HWn, HBn, HZn⟩
    
end Go.Proofs.Ytkfdcpnbpmipkaa

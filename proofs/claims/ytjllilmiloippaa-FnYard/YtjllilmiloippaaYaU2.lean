/- The specification's l18Shift. Written by wip/mkyu.py. -/
import Derived.Test.YtjllilmiloippaaYaT
import Derived.BigRegion
import Derived.Deep.RegionWith
import Derived.Deep.RegionHeld
import Derived.Deep.DeepMust
namespace Go.Proofs.Ytjllilmiloippaa
open Go.RowKit

theorem recs_oneI (w : World) (x : Int) (T : TypeId) : RecsIn 1 eI (w.alloc (.cells #[.int .i64 x] T)) (.slice (some ⟨w.heap.size, 0, none⟩) 1 1) [x] := by
  have h := ownV_alloc w #[.int .i64 x] T
  refine OwnV.recsIn (L := [x]) ?_ (Nat.le_refl _) (by unfold maxLen; omega)
  rw [recCells_one]
  exact h

theorem last_at {L : List Int} {n : Nat} (h : L.length = n + 1) : L.getD n 0 = L.getLastD 0 ∧ L.take n = L.dropLast := by
  have hne : L ≠ [] := fun e => by rw [e] at h; simp at h
  constructor
  · rw [List.getLastD_eq_getLast?, List.getLast?_eq_getElem?, h]
    simp [List.getD]
  · rw [List.dropLast_eq_take, h]
    rfl

set_option maxRecDepth 100000 in
set_option maxHeartbeats 4000000 in
theorem l18Shift_any (U : Nat → Prop) (H : Int) (g cap : Nat) (A C : Nat → Nat) (R : List (List Int)) (a b : Nat) (w : World) (h : SY U w g A C R) (hU : ∀ k, w.heap.size ≤ k → U k) (_hl : R.length ≤ cap) (_hm : cap ≤ maxLen) (ha : a < R.length) (hb : b < R.length) (hab : a ≠ b) (hne : 0 < (R.getD a []).length) (h6a : (R.getD a []).length ≤ 1048576) (h6b : (R.getD b []).length ≤ 1000000) :
    Calls Try.prog 73 #[yardV H (.slice (some ⟨g, 0, none⟩) R.length cap), .int .i64 a, .int .i64 b] w fun e w' => e = .returned (.tuple #[]) ∧ ∃ A' C', SY U w' g A' C' (shiftY R a b) ∧ Kept U w w' := by
  unfold maxLen at _hm
  have HA := hide (Below.alloc1 w (.cells #[.int .i64 H, .slice (some ⟨g, 0, none⟩) R.length cap] 26))
  have HB := hide (ownV_alloc w #[.int .i64 H, .slice (some ⟨g, 0, none⟩) R.length cap] 26)
  have HS := hide (h.below (unhide HA))
  have HU : Hid (∀ k, w.heap.size ≤ k → U k) := hU
  have hgl : g < w.heap.size := h.top.lt
  have hAb : A b < w.heap.size := (h.caps hb).2.2.2
  have hAa : A a < w.heap.size := (h.caps ha).2.2.2
  have hca := (h.caps ha).2.1
  have hcb := (h.caps hb).2.1
  have hcam := (h.caps ha).2.2.1
  have hga : A a ≠ g := h.off a ha
  have hgb : A b ≠ g := h.off b hb
  have hAab : A a ≠ A b := h.apart a b ha hb hab
  unfold maxLen at hcam
  obtain ⟨g0, eg⟩ : ∃ z, z = w.heap.size := ⟨_, rfl⟩
  obtain ⟨ma, ema⟩ : ∃ z, (R.getD a []).length = z + 1 := ⟨(R.getD a []).length - 1, by omega⟩
  obtain ⟨mb, emb⟩ : ∃ z, (R.getD b []).length = z := ⟨_, rfl⟩
  obtain ⟨hla, hta⟩ := last_at ema
  have hca' := (h.below (unhide HA)).at ha
  have hcb' := (h.below (unhide HA)).at hb
  have hva := ((h.below (unhide HA)).caps ha).1.cell (ints_get _ (show ma < (R.getD a []).length by omega))
  obtain ⟨la, ela⟩ : ∃ z, z = ma + 1 := ⟨_, rfl⟩
  rw [← ela] at ema
  rw [ema] at hca' hca h6a
  have hml : ma < la := by omega
  have hmli : (ma : Int) < (la : Int) := by omega
  have hmq : (la : Int) - 1 = (ma : Int) := by omega
  have hmw : IntKind.i64.wrap ((la : Int) - 1) = (ma : Int) := by rw [IntKind.wrap_i64]; omega
  have ELA := hide ela
  rw [emb] at hcb' hcb h6b
  rw [hla] at hva
  have HRB := hide ((h.below (unhide HA)).row b hb)
  rw [emb] at HRB
  have HTA := hide hta
  have HLA := hide hla
  have EMB := hide emb
  have EMA := hide ema
  have HU0 : Hid (∀ k, g0 ≤ k → U k) := fun k hk => hU k (by omega)
  unfold yardV
  clear h hU hne hta hla ema emb ela
  go_enter Try.func73, Try.ntmps73
  go_upto_region 1 with (fail)
  obtain ⟨W0, eW⟩ : ∃ z, z = w.alloc (.cells #[.int .i64 H, .slice (some ⟨g, 0, none⟩) R.length cap] 26) := ⟨_, rfl⟩
  rw [← eW] at HA HB HS HRB hva hca' hcb' ⊢
  rw [← eg] at HB hgl hAb hAa ⊢
  clear eW eg HU
  have hz := (unhide HB).lt
  have b1 := (unhide HB).cell (i := 1) rfl
  obtain ⟨ca, fa⟩ := hca'
  obtain ⟨cb, fb⟩ := hcb'
  obtain ⟨x, ex⟩ : ∃ x, x = (R.getD a []).getLastD 0 := ⟨_, rfl⟩
  rw [← ex] at hva
  have EX := hide ex
  clear ex
  have hsz0 := (unhide HA).size
  have hba : ¬ a = b := hab
  have hba2 : ¬ b = a := fun e => hab e.symm
  clear hab
  have n1 : ¬ W0.heap.size = g := by omega
  have n2 : ¬ g = W0.heap.size := by omega
  go_upto_region 2 with (fail)
  go_cut [] (fun wx => ∃ A1 C1, Hid (SY U wx g A1 C1 (R.set b (R.getD b [] ++ [x]))) ∧ Hid (OwnV wx g0 [.int .i64 H, .slice (some ⟨g, 0, none⟩) R.length cap]) ∧ Hid (Kept U W0 wx) ∧ A1 a = A a ∧ C1 a = C a)
  case first =>
    refine wp_region_held_drew (S := fun w' => w'.cell? ⟨g0, 1, none⟩ = some (.slice (some ⟨g, 0, none⟩) R.length cap) ∧ w'.cell? ⟨g, a, none⟩ = some (.slice (some ⟨A a, 0, none⟩) la (C a)) ∧ w'.cell? ⟨A a, ma, none⟩ = some (.int .i64 x)) (by kernel_rfl) ⟨b1, ca, hva⟩ (fun hHeld => ?_)
    refine wpAnyH_take (i := 0) (v := ?_) rfl (by kernel_rfl) (by kernel_rfl) (by kernel_rfl) (fun _ _ _ h => h) (Or.inl ⟨by rfl, ?_⟩) (by assumption) ?_
    rotate_left
    · intro wy hSw
      obtain ⟨hS0, hS1, hS2⟩ := hSw
      go_simp
      try with_reducible rfl
    try simp only [Act.put, List.getElem_toArray, List.getElem_cons_zero, List.setIfInBounds_toArray, List.set_cons_zero, List.set_cons_succ]
    refine wpAnyH_take (i := 1) (v := ?_) rfl (by kernel_rfl) (by kernel_rfl) (by kernel_rfl) (fun _ _ _ h => h) (Or.inl ⟨by rfl, ?_⟩) (by assumption) ?_
    rotate_left
    · intro wy hSw
      obtain ⟨hS0, hS1, hS2⟩ := hSw
      go_simp
      try with_reducible rfl
    try simp only [Act.put, List.getElem_toArray, List.getElem_cons_succ, List.getElem_cons_zero, List.setIfInBounds_toArray, List.set_cons_zero, List.set_cons_succ]
    refine wpAnyH_take (i := 2) (v := ?_) rfl (by kernel_rfl) (by kernel_rfl) (by kernel_rfl) (fun _ _ _ h => h) (Or.inl ⟨by rfl, ?_⟩) (by assumption) ?_
    rotate_left
    · intro wy hSw
      obtain ⟨hS0, hS1, hS2⟩ := hSw
      go_simp
      try with_reducible rfl
    try simp only [Act.put, List.getElem_toArray, List.getElem_cons_succ, List.getElem_cons_zero, List.setIfInBounds_toArray, List.set_cons_zero, List.set_cons_succ]
    refine wpAnyH_take (i := 3) (v := ?_) rfl (by kernel_rfl) (by kernel_rfl) (by kernel_rfl) (fun _ _ _ h => h) (Or.inl ⟨by rfl, ?_⟩) (by assumption) ?_
    rotate_left
    · intro wy hSw
      obtain ⟨hS0, hS1, hS2⟩ := hSw
      go_simp
      try with_reducible rfl
    try simp only [Act.put, List.getElem_toArray, List.getElem_cons_succ, List.getElem_cons_zero, List.setIfInBounds_toArray, List.set_cons_zero, List.set_cons_succ]
    refine wpAnyH_take (i := 4) (v := ?_) rfl (by kernel_rfl) (by kernel_rfl) (by kernel_rfl) (fun _ _ _ h => h) (Or.inl ⟨by rfl, ?_⟩) (by assumption) ?_
    rotate_left
    · intro wy hSw
      obtain ⟨hS0, hS1, hS2⟩ := hSw
      go_simp
      try with_reducible rfl
    try simp only [Act.put, List.getElem_toArray, List.getElem_cons_succ, List.getElem_cons_zero, List.setIfInBounds_toArray, List.set_cons_zero, List.set_cons_succ]
    refine wpAnyH_take (i := 5) (v := ?_) rfl (by kernel_rfl) (by kernel_rfl) (by kernel_rfl) (fun _ _ _ h => h) (Or.inl ⟨by rfl, ?_⟩) (by assumption) ?_
    rotate_left
    · intro wy hSw
      obtain ⟨hS0, hS1, hS2⟩ := hSw
      go_simp
      try with_reducible rfl
    try simp only [Act.put, List.getElem_toArray, List.getElem_cons_succ, List.getElem_cons_zero, List.setIfInBounds_toArray, List.set_cons_zero, List.set_cons_succ]
    refine wpAnyH_take (i := 6) (v := ?_) rfl (by kernel_rfl) (by kernel_rfl) (by kernel_rfl) (fun _ _ _ h => h) (Or.inl ⟨by rfl, ?_⟩) (by assumption) ?_
    rotate_left
    · intro wy hSw
      obtain ⟨hS0, hS1, hS2⟩ := hSw
      go_simp
      try with_reducible rfl
    try simp only [Act.put, List.getElem_toArray, List.getElem_cons_succ, List.getElem_cons_zero, List.setIfInBounds_toArray, List.set_cons_zero, List.set_cons_succ]
    refine wpAnyH_take (i := 8) (v := ?_) rfl (by kernel_rfl) (by kernel_rfl) (by kernel_rfl) (fun _ _ _ h => h) (Or.inl ⟨by rfl, ?_⟩) (by assumption) ?_
    rotate_left
    · intro wy hSw
      obtain ⟨hS0, hS1, hS2⟩ := hSw
      go_simp
      try with_reducible rfl
    try simp only [Act.put, List.getElem_toArray, List.getElem_cons_succ, List.getElem_cons_zero, List.setIfInBounds_toArray, List.set_cons_zero, List.set_cons_succ]
    refine wpAnyH_take (i := 9) (v := ?_) rfl (by kernel_rfl) (by kernel_rfl) (by kernel_rfl) (fun _ _ _ h => h) (Or.inl ⟨by rfl, ?_⟩) (by assumption) ?_
    rotate_left
    · intro wy hSw
      obtain ⟨hS0, hS1, hS2⟩ := hSw
      go_simp
      try with_reducible rfl
    try simp only [Act.put, List.getElem_toArray, List.getElem_cons_succ, List.getElem_cons_zero, List.setIfInBounds_toArray, List.set_cons_zero, List.set_cons_succ]
    refine wpAnyH_take (i := 10) (v := ?_) rfl (by kernel_rfl) (by kernel_rfl) (by kernel_rfl) (fun _ _ _ h => h) (Or.inl ⟨by rfl, ?_⟩) (by assumption) ?_
    rotate_left
    · intro wy hSw
      obtain ⟨hS0, hS1, hS2⟩ := hSw
      go_simp
      try with_reducible rfl
    try simp only [Act.put, List.getElem_toArray, List.getElem_cons_succ, List.getElem_cons_zero, List.setIfInBounds_toArray, List.set_cons_zero, List.set_cons_succ]
    refine wpAnyH_take (i := 11) (v := ?_) rfl (by kernel_rfl) (by kernel_rfl) (by kernel_rfl) (fun _ _ _ h => h) (Or.inl ⟨by rfl, ?_⟩) (by assumption) ?_
    rotate_left
    · intro wy hSw
      obtain ⟨hS0, hS1, hS2⟩ := hSw
      go_simp
      try with_reducible rfl
    try simp only [Act.put, List.getElem_toArray, List.getElem_cons_succ, List.getElem_cons_zero, List.setIfInBounds_toArray, List.set_cons_zero, List.set_cons_succ]
    refine wpAnyH_take (i := 12) (v := ?_) rfl (by kernel_rfl) (by kernel_rfl) (by kernel_rfl) (fun _ _ _ h => h) (Or.inl ⟨by rfl, ?_⟩) (by assumption) ?_
    rotate_left
    · intro wy hSw
      obtain ⟨hS0, hS1, hS2⟩ := hSw
      go_simp
      try with_reducible rfl
    try simp only [Act.put, List.getElem_toArray, List.getElem_cons_succ, List.getElem_cons_zero, List.setIfInBounds_toArray, List.set_cons_zero, List.set_cons_succ]
    refine wpAnyH_take (i := 13) (v := ?_) rfl (by kernel_rfl) (by kernel_rfl) (by kernel_rfl) (fun _ _ _ h => h) (Or.inl ⟨by rfl, ?_⟩) (by assumption) ?_
    rotate_left
    · intro wy hSw
      obtain ⟨hS0, hS1, hS2⟩ := hSw
      go_simp
      try with_reducible rfl
    try simp only [Act.put, List.getElem_toArray, List.getElem_cons_succ, List.getElem_cons_zero, List.setIfInBounds_toArray, List.set_cons_zero, List.set_cons_succ]
    refine wpAnyH_take (i := 14) (v := ?_) rfl (by kernel_rfl) (by kernel_rfl) (by kernel_rfl) (fun _ _ _ h => h) (Or.inl ⟨by rfl, ?_⟩) (by assumption) ?_
    rotate_left
    · intro wy hSw
      obtain ⟨hS0, hS1, hS2⟩ := hSw
      go_simp
      try with_reducible rfl
    try simp only [Act.put, List.getElem_toArray, List.getElem_cons_succ, List.getElem_cons_zero, List.setIfInBounds_toArray, List.set_cons_zero, List.set_cons_succ]
    refine wpAnyH_take (i := 15) (v := ?_) rfl (by kernel_rfl) (by kernel_rfl) (by kernel_rfl) (fun _ _ _ h => h) (Or.inl ⟨by rfl, ?_⟩) (by assumption) ?_
    rotate_left
    · intro wy hSw
      obtain ⟨hS0, hS1, hS2⟩ := hSw
      go_simp
      try with_reducible rfl
    try simp only [Act.put, List.getElem_toArray, List.getElem_cons_succ, List.getElem_cons_zero, List.setIfInBounds_toArray, List.set_cons_zero, List.set_cons_succ]
    refine wpAnyH_ready (rs := [7, 16]) (by kernel_rfl) (by simp) ?_
    refine AllReadyH.cons rfl (fun K hK => ?_) (AllReadyH.cons rfl (fun K hK => ?_) AllReadyH.nil)
    · go_simp
      refine hK.out _ _ hHeld (fun hHeld => ?_)
      clear hK K
      try simp only [Act.put, List.setIfInBounds_toArray, List.set_cons_zero, List.set_cons_succ]
      refine wpAnyH_ready (rs := [16]) (by kernel_rfl) (by simp) ?_
      refine AllReadyH.cons rfl (fun K hK => ?_) AllReadyH.nil
      go_simp
      refine hK.out _ _ ⟨wcell3 hHeld.1 (Below.alloc1 _ _), wcell3 hHeld.2.1 (Below.alloc1 _ _), wcell3 hHeld.2.2 (Below.alloc1 _ _)⟩ (fun hHeld => ?_)
      clear hK K
      try simp only [Act.put, List.setIfInBounds_toArray, List.set_cons_zero, List.set_cons_succ]
      refine wpAnyH_ready (rs := [17]) (by kernel_rfl) (by simp) ?_
      refine AllReadyH.cons rfl (fun K hK => ?_) AllReadyH.nil
      refine step_appTo tyI (by rfl) (.tmp 21) (.tmp 30) (by rfl) 0 (A b) mb (C b) (R.getD b []) (by rfl) ((unhide HRB).below ((Below.refl _ _).drew.trans (Below.alloc1 W0.drew _))) (Nat.zero_le _) (by omega) (some ⟨W0.heap.size, 0, none⟩) 1 1 [x] (by rfl) (recs_oneI W0.drew _ _) (by omega) ?_
      intro g1 c1 w1 h1 hk1 hor1
      have HK1 : Hid (Kept (fun k => k = A b) W0 w1) := (kept_of_below ((Below.refl _ _).drew.trans (Below.alloc1 W0.drew _))).trans hk1
      have hg1 : g1 = A b ∨ W0.heap.size ≤ g1 := by rcases hor1 with e | e <;> first | exact Or.inl e | (right; simp at e; omega)
      have HTP1 := hide ((unhide HS).top.kept (unhide HK1) (fun e => hgb e.symm))
      have ca1 := (unhide HTP1).cell (tops_get A C R ha)
      have cb1 := (unhide HTP1).cell (tops_get A C R hb)
      have fb1 := (unhide HTP1).frozen b
      rw [unhide EMB] at cb1
      rw [unhide EMA] at ca1
      have HBw := hide ((unhide HB).kept (unhide HK1) (by omega))
      have b1w := (unhide HBw).cell (i := 1) rfl
      have e1w := (((unhide HS).caps ha).1.kept (unhide HK1) hAab).cell (ints_get _ (show ma < (R.getD a []).length by rw [unhide EMA]; exact hml))
      rw [unhide HLA, ← unhide EX] at e1w
      refine hK.out _ _ ⟨b1w, ca1, e1w⟩ (fun hHeld => ?_)
      clear hK K
      try simp only [Act.put, List.setIfInBounds_toArray]
      refine wpAnyH_take (i := 18) (v := ?_) rfl (by kernel_rfl) (by kernel_rfl) (by kernel_rfl) (fun _ _ _ h => h) (Or.inl ⟨by rfl, ?_⟩) (by assumption) ?_
      rotate_left
      · intro wy hSw
        obtain ⟨hS0, hS1, hS2⟩ := hSw
        go_simp
        try with_reducible rfl
      try simp only [Act.put, List.getElem_toArray, List.getElem_cons_succ, List.getElem_cons_zero, List.setIfInBounds_toArray, List.set_cons_zero, List.set_cons_succ]
      refine wpAnyH_ready (rs := [19]) (by kernel_rfl) (by simp) ?_
      refine AllReadyH.cons rfl (fun K hK => ?_) AllReadyH.nil
      have HN := hide ((unhide HS).put (row := R.getD b [] ++ [x]) (g' := g1) (cap' := c1) hb (unhide HK1) (by rw [List.length_append, unhide EMB]; exact h1) (hg1.imp id fun e => ⟨e, unhide HU0 g1 (by omega)⟩))
      rw [List.length_append, unhide EMB] at HN
      have HBx := hide ((unhide HBw).other (a := ⟨g, b, none⟩) (by show g0 ≠ g; omega) (.slice (some ⟨g1, 0, none⟩) (mb + 1) c1))
      have HKx : Hid (Kept U W0 (w1.setCell ⟨g, b, none⟩ (.slice (some ⟨g1, 0, none⟩) (mb + 1) c1))) := ((unhide HK1).mono (fun k _ e => e ▸ (unhide HS).ua b hb)).setCell (p := ⟨g, b, none⟩) (unhide HS).ug _
      have ca2 := (unhide HN).at (r := a) (by rw [List.length_set]; exact ha)
      rw [getD_set_ne hba, unhide EMA] at ca2
      simp only [if_neg hba] at ca2
      have e2w := ((unhide HN).caps (r := a) (by rw [List.length_set]; exact ha)).1
      rw [getD_set_ne hba] at e2w
      simp only [if_neg hba] at e2w
      have e3w := e2w.cell (ints_get _ (show ma < (R.getD a []).length by rw [unhide EMA]; exact hml))
      rw [unhide HLA, ← unhide EX] at e3w
      have b3w := (unhide HBx).cell (i := 1) rfl
      go_simp
      refine hK.out _ _ ⟨b3w, ca2.1, e3w⟩ (fun hHeld => ?_)
      clear hK K
      try simp only [Act.put, List.setIfInBounds_toArray, List.set_cons_zero, List.set_cons_succ]
      refine wpAnyH_done (by kernel_rfl) ?_ _
      go_wp2_with fail
      go_meet
      exact ⟨_, _, HN, HBx, HKx, if_neg hba, if_neg hba⟩
    · go_simp
      refine hK.out _ _ ⟨wcell3 hHeld.1 (Below.alloc1 _ _), wcell3 hHeld.2.1 (Below.alloc1 _ _), wcell3 hHeld.2.2 (Below.alloc1 _ _)⟩ (fun hHeld => ?_)
      clear hK K
      try simp only [Act.put, List.setIfInBounds_toArray, List.set_cons_zero, List.set_cons_succ]
      refine wpAnyH_ready (rs := [7]) (by kernel_rfl) (by simp) ?_
      refine AllReadyH.cons rfl (fun K hK => ?_) AllReadyH.nil
      have cbx := wcell3 cb (Below.alloc1 W0 (.cells #[.int .i64 x] 3))
      go_simp
      clear cbx
      refine hK.out _ _ hHeld (fun hHeld => ?_)
      clear hK K
      try simp only [Act.put, List.setIfInBounds_toArray, List.set_cons_zero, List.set_cons_succ]
      refine wpAnyH_ready (rs := [17]) (by kernel_rfl) (by simp) ?_
      refine AllReadyH.cons rfl (fun K hK => ?_) AllReadyH.nil
      refine step_appTo tyI (by rfl) (.tmp 21) (.tmp 30) (by rfl) 0 (A b) mb (C b) (R.getD b []) (by rfl) ((unhide HRB).below ((Below.refl _ _).drew.trans (Below.alloc1 W0.drew _))) (Nat.zero_le _) (by omega) (some ⟨W0.heap.size, 0, none⟩) 1 1 [x] (by rfl) (recs_oneI W0.drew _ _) (by omega) ?_
      intro g1 c1 w1 h1 hk1 hor1
      have HK1 : Hid (Kept (fun k => k = A b) W0 w1) := (kept_of_below ((Below.refl _ _).drew.trans (Below.alloc1 W0.drew _))).trans hk1
      have hg1 : g1 = A b ∨ W0.heap.size ≤ g1 := by rcases hor1 with e | e <;> first | exact Or.inl e | (right; simp at e; omega)
      have HTP1 := hide ((unhide HS).top.kept (unhide HK1) (fun e => hgb e.symm))
      have ca1 := (unhide HTP1).cell (tops_get A C R ha)
      have cb1 := (unhide HTP1).cell (tops_get A C R hb)
      have fb1 := (unhide HTP1).frozen b
      rw [unhide EMB] at cb1
      rw [unhide EMA] at ca1
      have HBw := hide ((unhide HB).kept (unhide HK1) (by omega))
      have b1w := (unhide HBw).cell (i := 1) rfl
      have e1w := (((unhide HS).caps ha).1.kept (unhide HK1) hAab).cell (ints_get _ (show ma < (R.getD a []).length by rw [unhide EMA]; exact hml))
      rw [unhide HLA, ← unhide EX] at e1w
      refine hK.out _ _ ⟨b1w, ca1, e1w⟩ (fun hHeld => ?_)
      clear hK K
      try simp only [Act.put, List.setIfInBounds_toArray]
      refine wpAnyH_take (i := 18) (v := ?_) rfl (by kernel_rfl) (by kernel_rfl) (by kernel_rfl) (fun _ _ _ h => h) (Or.inl ⟨by rfl, ?_⟩) (by assumption) ?_
      rotate_left
      · intro wy hSw
        obtain ⟨hS0, hS1, hS2⟩ := hSw
        go_simp
        try with_reducible rfl
      try simp only [Act.put, List.getElem_toArray, List.getElem_cons_succ, List.getElem_cons_zero, List.setIfInBounds_toArray, List.set_cons_zero, List.set_cons_succ]
      refine wpAnyH_ready (rs := [19]) (by kernel_rfl) (by simp) ?_
      refine AllReadyH.cons rfl (fun K hK => ?_) AllReadyH.nil
      have HN := hide ((unhide HS).put (row := R.getD b [] ++ [x]) (g' := g1) (cap' := c1) hb (unhide HK1) (by rw [List.length_append, unhide EMB]; exact h1) (hg1.imp id fun e => ⟨e, unhide HU0 g1 (by omega)⟩))
      rw [List.length_append, unhide EMB] at HN
      have HBx := hide ((unhide HBw).other (a := ⟨g, b, none⟩) (by show g0 ≠ g; omega) (.slice (some ⟨g1, 0, none⟩) (mb + 1) c1))
      have HKx : Hid (Kept U W0 (w1.setCell ⟨g, b, none⟩ (.slice (some ⟨g1, 0, none⟩) (mb + 1) c1))) := ((unhide HK1).mono (fun k _ e => e ▸ (unhide HS).ua b hb)).setCell (p := ⟨g, b, none⟩) (unhide HS).ug _
      have ca2 := (unhide HN).at (r := a) (by rw [List.length_set]; exact ha)
      rw [getD_set_ne hba, unhide EMA] at ca2
      simp only [if_neg hba] at ca2
      have e2w := ((unhide HN).caps (r := a) (by rw [List.length_set]; exact ha)).1
      rw [getD_set_ne hba] at e2w
      simp only [if_neg hba] at e2w
      have e3w := e2w.cell (ints_get _ (show ma < (R.getD a []).length by rw [unhide EMA]; exact hml))
      rw [unhide HLA, ← unhide EX] at e3w
      have b3w := (unhide HBx).cell (i := 1) rfl
      go_simp
      refine hK.out _ _ ⟨b3w, ca2.1, e3w⟩ (fun hHeld => ?_)
      clear hK K
      try simp only [Act.put, List.setIfInBounds_toArray, List.set_cons_zero, List.set_cons_succ]
      refine wpAnyH_done (by kernel_rfl) ?_ _
      go_wp2_with fail
      go_meet
      exact ⟨_, _, HN, HBx, HKx, if_neg hba, if_neg hba⟩
  case rest =>
    obtain ⟨A1, C1, HN, HBx, HKx, eA, eC⟩ := hcut
    clear cb fb hva ca fa b1 HRB HS HB
    have hl2 : a < (R.set b (R.getD b [] ++ [x])).length := by rw [List.length_set]; exact ha
    have hc2 := (unhide HN).at hl2
    rw [getD_set_ne hba, unhide EMA, eA, eC] at hc2
    obtain ⟨ca, fa⟩ := hc2
    have HR2 := hide ((unhide HN).row a hl2)
    rw [getD_set_ne hba, unhide EMA, eA, eC] at HR2
    have hgx : g < wc.heap.size := (unhide HN).top.lt
    have b1 := (unhide HBx).cell (i := 1) rfl
    have hmC : ma ≤ C a := by omega
    have hmCi : (ma : Int) ≤ (C a : Int) := by omega
    have hng : ¬ g0 = g := by omega
    have hng2 : ¬ g = g0 := by omega
    have HEA := hide eA
    have HEC := hide eC
    clear eA eC
    go_upto_region 3 with (fail)
    go_region
    all_goals
      have HF := hide ((unhide HN).put (row := (R.getD a []).dropLast) (g' := A a) (cap' := C a) hl2 (Kept.refl _ wc) (by rw [← unhide HTA]; have hq := (unhide HR2).cut (n := ma) (by omega); have hle : ((R.getD a []).take ma).length = ma := (by rw [List.length_take, unhide EMA]; omega); rw [hle]; exact hq) (Or.inl (unhide HEA).symm))
      have hle : ((R.getD a []).dropLast).length = ma := by rw [← unhide HTA, List.length_take, unhide EMA]; omega
      rw [hle] at HF
      have hKf : Kept U w (wc.setCell ⟨g, a, none⟩ (.slice (some ⟨A a, 0, none⟩) ma (C a))) := (((kept_of_below (unhide HA)).trans (unhide HKx)).setCell (p := ⟨g, a, none⟩) (unhide HN).ug _)
      have HKF := hide (hKf.trans (kept_of_below (Below.refl _ _).drew))
      clear hKf hle
      go_end0
      refine ⟨rfl, ?_⟩
      have := (unhide HF).below (Below.refl _ _).drew
      unfold shiftY
      rw [← unhide EX]
      exact ⟨_, _, this, unhide HKF⟩

end Go.Proofs.Ytjllilmiloippaa

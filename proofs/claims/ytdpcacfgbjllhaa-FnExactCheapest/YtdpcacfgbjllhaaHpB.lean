/- The heap's row; contract of the heap's Swap. -/
import Derived.Test.YtdpcacfgbjllhaaHpA
import Derived.Test.YtdpcacfgbjllhaaGrow
namespace Go.Proofs.Ytdpcacfgbjllhaa
open Go.RowKit

theorem ownsRow_setG {w : World} {base : Nat} {e : TypeId} {size g m cap : Nat} {xs : List Value} (h : w.ownsRow base e size (.slice (some ⟨g, 0, none⟩) m cap) m xs) (j : Nat) (u : Value) :
    (w.setCell ⟨g, j, none⟩ u).ownsRow base e size (.slice (some ⟨g, 0, none⟩) m cap) m (xs.set j u) := by
  obtain ⟨h1, h2⟩ := h
  refine ⟨by rw [List.length_set]; exact h1, ?_⟩
  rcases h2 with ⟨hv, _⟩ | ⟨g', cap', cur, hv, hg, hh, hc, hm, hs, ht⟩
  · cases hv
  · simp only [Value.slice.injEq, Option.some.injEq, Addr.mk.injEq, and_true, true_and] at hv
    obtain ⟨rfl, rfl⟩ := hv
    refine Or.inr ⟨g, cap, cur.setIfInBounds j u, rfl, hg, by simp [World.setCell, Array.getElem?_modify, hh], hc, hm, by simpa using hs, ?_⟩
    rw [← ht]
    simp [List.take_set]
theorem ownsRow_ownG {w : World} {B g n cap size : Nat} {e : TypeId} {xs : List Value} (h : w.ownsRow B e size (.slice (some ⟨g, 0, none⟩) n cap) n xs) : B ≤ g ∧ OwnV w g xs := by
  obtain ⟨h1, h2⟩ := h
  rcases h2 with ⟨hv, _⟩ | ⟨g', cap', cur, hv, hg, hh, hc, hm, hs, ht⟩
  · cases hv
  · simp only [Value.slice.injEq, Option.some.injEq, Addr.mk.injEq, and_true, true_and] at hv
    obtain ⟨rfl, rfl⟩ := hv
    refine ⟨hg, cur, e, hh, fun i hi => ?_⟩
    rw [← ht, List.getElem?_take, if_pos (by omega)]
    simp
theorem swp_comm (L : List Rc) {i j : Nat} (hi : i < L.length) (hj : j < L.length) : swp L j i = swp L i j := by
  apply List.ext_getElem?
  intro r
  by_cases hr : r < L.length
  · have h1 := swp_at hi hj r
    have h2 := swp_at hj hi r
    have e : (swp L j i).getD r (0, 0) = (swp L i j).getD r (0, 0) := by
      rw [h1, h2]
      by_cases e1 : r = i <;> by_cases e2 : r = j <;> simp [e1, e2]
      · subst e1; rw [e2]; simp
      · intro h; exact absurd h (by omega)
      · intro h; exact absurd h (by omega)
    have l1 : r < (swp L j i).length := by rw [swp_len]; exact hr
    have l2 : r < (swp L i j).length := by rw [swp_len]; exact hr
    rw [getD_lt l1, getD_lt l2] at e
    rw [List.getElem?_eq_getElem l1, List.getElem?_eq_getElem l2, e]
  · rw [List.getElem?_eq_none (by rw [swp_len]; omega), List.getElem?_eq_none (by rw [swp_len]; omega)]
theorem rcAt (M : List I2) {q : Nat} (hq : q < M.length * 2) : (recCells 2 e2 M)[q]? = some (e2 (M.getD (q / 2) default) (q % 2)) := by
  simp [recCells, hq]
theorem rcSet (M : List I2) {j : Nat} (hj : j < M.length) (x y : Int) : ((recCells 2 e2 M).set (j * 2) (.int .i64 x)).set (j * 2 + 1) (.int .i64 y) = recCells 2 e2 (M.set j (x, y)) := by
  apply List.ext_getElem?
  intro q
  by_cases hq : q < M.length * 2
  · rw [rcAt _ (by rw [List.length_set]; exact hq), List.getElem?_set, List.getElem?_set, rcAt _ hq, List.length_set, recCells_length]
    have hd : (M.set j (x, y)).getD (q / 2) default = if q / 2 = j then (x, y) else M.getD (q / 2) default := by
      rw [List.getD_eq_getElem?_getD, List.getElem?_set]
      by_cases e : j = q / 2
      · rw [if_pos e, if_pos hj, if_pos e.symm]; rfl
      · rw [if_neg e, if_neg (fun h => e h.symm), List.getD_eq_getElem?_getD]
    rw [hd]
    by_cases e1 : j * 2 + 1 = q
    · rw [if_pos e1, if_pos (by omega), if_pos (by omega), show q % 2 = 1 by omega]; rfl
    · rw [if_neg e1]
      by_cases e2' : j * 2 = q
      · rw [if_pos e2', if_pos (by omega), if_pos (by omega), show q % 2 = 0 by omega]; rfl
      · rw [if_neg e2', if_neg (by omega)]
  · rw [List.getElem?_eq_none (by rw [List.length_set, List.length_set, recCells_length]; omega), List.getElem?_eq_none (by rw [recCells_length, List.length_set]; omega)]
theorem rcSwp (L : List I2) {i j : Nat} (hi : i < L.length) (hj : j < L.length) {x y x' y' : Int} (ei : L.getD i (0, 0) = (x, y)) (ej : L.getD j (0, 0) = (x', y')) :
    (((recCells 2 e2 L).set (i * 2) (.int .i64 x')).set (i * 2 + 1) (.int .i64 y') |>.set (j * 2) (.int .i64 x)).set (j * 2 + 1) (.int .i64 y) = recCells 2 e2 (swp L i j) := by
  rw [rcSet L hi, rcSet _ (by rw [List.length_set]; exact hj)]
  unfold swp
  rw [ei, ej]

set_option maxRecDepth 10000 in
set_option maxHeartbeats 4000000 in
theorem swap_any (B g n cap : Nat) (L : List I2) (i j : Nat) (w : World) (h : w.ownsRow B 64 2 (.slice (some ⟨g, 0, none⟩) n cap) n (recCells 2 e2 L)) (hn : n = L.length) (hi : i < L.length) (hj : j < L.length) :
    Calls Try.prog 88 #[.slice (some ⟨g, 0, none⟩) n cap, .int .i64 (i : Int), .int .i64 (j : Int)] w fun e w' => e = .returned (.tuple #[]) ∧ w'.ownsRow B 64 2 (.slice (some ⟨g, 0, none⟩) n cap) n (recCells 2 e2 (swp L i j)) ∧ Kept (fun b => b = g) w w' := by
  subst hn
  obtain ⟨x, y, eX⟩ : ∃ x y, L.getD i (0, 0) = (x, y) := ⟨_, _, rfl⟩
  obtain ⟨x', y', eY⟩ : ∃ x y, L.getD j (0, 0) = (x, y) := ⟨_, _, rfl⟩
  obtain ⟨-, hO⟩ := ownsRow_ownG h
  have a0 := hO.cell (i := i * 2) (v := .int .i64 x) (by rw [rcAt L (by omega), show i * 2 / 2 = i by omega, show i * 2 % 2 = 0 by omega]; rw [show (L.getD i default) = (x, y) from eX]; rfl)
  have a1 := hO.cell (i := i * 2 + 1) (v := .int .i64 y) (by rw [rcAt L (by omega), show (i * 2 + 1) / 2 = i by omega, show (i * 2 + 1) % 2 = 1 by omega]; rw [show (L.getD i default) = (x, y) from eX]; rfl)
  have b0 := hO.cell (i := j * 2) (v := .int .i64 x') (by rw [rcAt L (by omega), show j * 2 / 2 = j by omega, show j * 2 % 2 = 0 by omega]; rw [show (L.getD j default) = (x', y') from eY]; rfl)
  have b1 := hO.cell (i := j * 2 + 1) (v := .int .i64 y') (by rw [rcAt L (by omega), show (j * 2 + 1) / 2 = j by omega, show (j * 2 + 1) % 2 = 1 by omega]; rw [show (L.getD j default) = (x', y') from eY]; rfl)
  have fz := hO.frozen
  have hiI : (i : Int) < L.length := by omega
  have hjI : (j : Int) < L.length := by omega
  have H1 := hide (rcSwp L hi hj eX eY)
  have H2 := hide (rcSwp L hj hi eY eX)
  have HS := hide (swp_comm L hi hj)
  have HR := hide h
  have hm : L.length ≤ cap ∧ cap ≤ maxLen := by
    obtain ⟨_, h2⟩ := h
    rcases h2 with ⟨hv, _⟩ | ⟨g', cap', cur, hv, hg, hh, hc, hm, hs, ht⟩
    · cases hv
    · simp only [Value.slice.injEq, Option.some.injEq, Addr.mk.injEq, and_true, true_and] at hv
      obtain ⟨rfl, rfl⟩ := hv
      exact ⟨hc, hm⟩
  obtain ⟨hm1, hm2⟩ := hm
  unfold maxLen at hm2
  clear h hO eX eY
  have HE := hide (show (((((w.setCell ⟨g, i * 2, none⟩ (.int .i64 x')).setCell ⟨g, i * 2 + 1, none⟩ (.int .i64 y')).setCell ⟨g, j * 2, none⟩ (.int .i64 x)).setCell ⟨g, j * 2 + 1, none⟩ (.int .i64 y))).ownsRow B 64 2 (.slice (some ⟨g, 0, none⟩) L.length cap) L.length (recCells 2 e2 (swp L i j)) from (unhide H1) ▸ ownsRow_setG (ownsRow_setG (ownsRow_setG (ownsRow_setG (unhide HR) _ _) _ _) _ _) _ _)
  have HK := hide ((((Kept.refl (fun b => b = g) w).setCell (p := ⟨g, i * 2, none⟩) rfl (.int .i64 x')).setCell (p := ⟨g, i * 2 + 1, none⟩) rfl (.int .i64 y')).setCell (p := ⟨g, j * 2, none⟩) rfl (.int .i64 x) |>.setCell (p := ⟨g, j * 2 + 1, none⟩) rfl (.int .i64 y))
  by_cases hij : i = j
  · subst hij
    simp only [a0, a1, Option.some.injEq, Value.int.injEq, true_and] at b0 b1
    subst b0 b1
    go_enter Try.func88, Try.ntmps88
    go_wp2_with fail
    go_region_with (fail)
    all_goals
      go_wp2
      go_end0
      first | exact ⟨rfl, unhide HE, unhide HK⟩ | exact ⟨rfl, ownsRow_below (unhide HE) (Below.refl _ _).drew, (unhide HK).trans (kept_of_below (Below.refl _ _).drew)⟩
  have n1 : ¬ i * 2 = j * 2 := by omega
  have n2 : ¬ i * 2 = j * 2 + 1 := by omega
  have n3 : ¬ i * 2 + 1 = j * 2 := by omega
  have n4 : ¬ i * 2 + 1 = j * 2 + 1 := by omega
  have n5 : ¬ j * 2 = i * 2 := by omega
  have n6 : ¬ j * 2 = i * 2 + 1 := by omega
  have n7 : ¬ j * 2 + 1 = i * 2 := by omega
  have n8 : ¬ j * 2 + 1 = i * 2 + 1 := by omega
  have n9 : ¬ j = i := by omega
  go_enter Try.func88, Try.ntmps88
  go_wp2_with fail
  go_region_with (fail)
  all_goals
    go_wp2
    go_end0
    first | exact ⟨rfl, unhide HE, unhide HK⟩ | exact ⟨rfl, ownsRow_below (unhide HE) (Below.refl _ _).drew, (unhide HK).trans (kept_of_below (Below.refl _ _).drew)⟩

end Go.Proofs.Ytdpcacfgbjllhaa

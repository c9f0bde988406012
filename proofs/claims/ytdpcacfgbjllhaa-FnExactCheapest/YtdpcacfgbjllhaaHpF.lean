/- Contract of the frontier's Pop. -/
import Derived.Test.YtdpcacfgbjllhaaHpE
namespace Go.Proofs.Ytdpcacfgbjllhaa
open Go.RowKit

theorem rcTake (L : List I2) (m : Nat) (hm : m ≤ L.length) : (recCells 2 e2 L).take (m * 2) = recCells 2 e2 (L.take m) := by
  apply List.ext_getElem?
  intro q
  by_cases hq : q < m * 2
  · rw [List.getElem?_take, if_pos hq, rcAt L (by omega), rcAt _ (by rw [List.length_take]; omega)]
    have e : (L.take m).getD (q / 2) default = L.getD (q / 2) default := by
      rw [List.getD_eq_getElem?_getD, List.getElem?_take, if_pos (by omega), List.getD_eq_getElem?_getD]
    rw [e]
  · rw [List.getElem?_take, if_neg hq, List.getElem?_eq_none (by rw [recCells_length, List.length_take]; omega)]
theorem ownsRow_takeG {w : World} {base : Nat} {e : TypeId} {size g m n cap : Nat} {xs : List Value} (h : w.ownsRow base e size (.slice (some ⟨g, 0, none⟩) n cap) n xs) (hm : m ≤ n) :
    w.ownsRow base e size (.slice (some ⟨g, 0, none⟩) m cap) m (xs.take (m * size)) := by
  obtain ⟨h1, h2⟩ := h
  have hms : m * size ≤ n * size := Nat.mul_le_mul_right _ hm
  refine ⟨by rw [List.length_take]; omega, ?_⟩
  rcases h2 with ⟨hv, _⟩ | ⟨g', cap', cur, hv, hg, hh, hc, hmx, hs, ht⟩
  · cases hv
  · simp only [Value.slice.injEq, Option.some.injEq, Addr.mk.injEq, and_true, true_and] at hv
    obtain ⟨rfl, rfl⟩ := hv
    refine Or.inr ⟨g, cap, cur, rfl, hg, hh, by omega, hmx, hs, ?_⟩
    rw [← ht, List.take_take, Nat.min_eq_left hms]

set_option maxRecDepth 10000 in
set_option maxHeartbeats 8000000 in
theorem frPop_any (B gf g n cap : Nat) (L : List Rc) (w : World) (h : Fr w B gf g (n + 1) cap L) (hn : n ≤ 1000000) (hc1 : n + 1 ≤ cap) :
    Calls Try.prog 86 #[.pointer (some ⟨gf, 0, none⟩)] w fun e w' => e = .returned (.iface 64 (.agg #[.int .i64 (L.getD n (0, 0)).1, .int .i64 (L.getD n (0, 0)).2])) ∧ Fr w' B gf g n cap (L.take n) ∧ Kept (fun b => b = gf) w w' := by
  obtain ⟨-, hO⟩ := ownsRow_ownG h.row
  have hl := h.len
  have HLn : Hid (n = (L.take n).length) := by show _ = _; rw [List.length_take]; omega
  have ha0 := hO.cell (i := n * 2) (v := .int .i64 (L.getD n (0, 0)).1) (by rw [rcAt L (by omega), show n * 2 / 2 = n by omega, show n * 2 % 2 = 0 by omega]; rfl)
  have ha1 := hO.cell (i := n * 2 + 1) (v := .int .i64 (L.getD n (0, 0)).2) (by rw [rcAt L (by omega), show (n * 2 + 1) / 2 = n by omega, show (n * 2 + 1) % 2 = 1 by omega]; rfl)
  generalize (L.getD n (0, 0)).1 = x at *
  generalize (L.getD n (0, 0)).2 = y at *
  have c0 := h.box.cell (i := 0) rfl
  have fz := h.box.frozen
  have hlt := h.box.lt
  have hlg := hO.lt
  have hne := h.ne
  have A := Below.alloc1 w (.cells #[.int .i64 x, .int .i64 y] 64)
  have HR := hide (rcTake L n (by omega) ▸ ownsRow_takeG h.row (show n ≤ n + 1 by omega))
  have HB := hide h.box
  have HA := hide A
  have i1 : IntKind.i64.wrap (((n : Int) + 1) - 1) = (n : Int) := by rw [IntKind.wrap_i64]; omega
  have i2 : IntKind.i64.wrap (((n + 1 : Nat) : Int) - 1) = (n : Int) := by rw [IntKind.wrap_i64]; omega
  have c0' := (A.cell (lt_of_cell c0)).trans c0
  clear h hO hl A
  go_enter Try.func86, Try.ntmps86
  go_wp2
  go_ret
  refine ⟨rfl, ⟨((unhide HB).set 0 (.slice (some ⟨g, 0, none⟩) n cap) (by simp)).alloc _, ?_, unhide HLn, hne⟩, ?_⟩
  · refine ownsRow_below (ownsRow_setCell_other (unhide HR) (a := ⟨gf, 0, none⟩) ?_ _) (Below.alloc1 _ _)
    simp only [Value.ownBlock, ne_eq, Option.some.injEq]
    exact fun e => hne e.symm
  · exact ((Kept.refl (fun b => b = gf) w).setCell (p := ⟨gf, 0, none⟩) rfl _).trans (kept_of_below (Below.alloc1 _ _))

end Go.Proofs.Ytdpcacfgbjllhaa

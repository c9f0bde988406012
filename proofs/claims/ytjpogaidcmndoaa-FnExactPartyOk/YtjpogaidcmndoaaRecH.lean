/- Records of the call's own: one cell of one record written; blocks told whole (the general part of RecG). No statement about the program stands here. -/
import Derived.Test.YtjpogaidcmndoaaRowK
import Derived.Test.YtjpogaidcmndoaaOwR
import Derived.Test.YtjpogaidcmndoaaCpK
import Derived.Test.YtjpogaidcmndoaaSetC
namespace Go.Proofs.Ytjpogaidcmndoaa
open Go.RowKit

theorem recG_set {α : Type} [Inhabited α] {n : Nat} {enc : α → Nat → Value} (M : List α) {i j : Nat} (hj : j < n) (hi : i < M.length) (y : α) (h : ∀ j', j' < n → j' ≠ j → enc y j' = enc (M.getD i default) j') :
    (recCells n enc M).set (i * n + j) (enc y j) = recCells n enc (M.set i y) := by
  have hn : 0 < n := by omega
  apply List.ext_getElem?
  intro q
  by_cases hq : q < M.length * n
  · have hd : q / n < M.length := by rw [Nat.div_lt_iff_lt_mul hn]; exact hq
    have hm := Nat.mod_lt q hn
    have hqe : q / n * n + q % n = q := by rw [Nat.mul_comm]; exact Nat.div_add_mod q n
    have e1 : (recCells n enc (M.set i y))[q]? = some (enc ((M.set i y).getD (q / n) default) (q % n)) := by
      have := recCells_get (enc := enc) (L := M.set i y) (n := n) (i := q / n) (j := q % n) (by rw [List.length_set]; exact hd) hm
      rwa [hqe] at this
    have e2 : (recCells n enc M)[q]? = some (enc (M.getD (q / n) default) (q % n)) := by
      have := recCells_get (enc := enc) (L := M) (n := n) (i := q / n) (j := q % n) hd hm
      rwa [hqe] at this
    rw [e1]
    obtain ⟨p1, p2⟩ := rec_place (i := i) hj
    by_cases hqi : q = i * n + j
    · subst hqi
      rw [List.getElem?_set_self (by rw [recCells_length]; exact hq), p1, p2]
      simp [List.getD, hi]
    · rw [List.getElem?_set_ne (fun e => hqi e.symm), e2]
      by_cases hdi : q / n = i
      · rw [hdi, List.getD_eq_getElem?_getD (l := M.set i y), List.getElem?_set_self hi]
        have hne : q % n ≠ j := fun e => hqi (by rw [← hqe, hdi, e])
        rw [← h (q % n) hm hne]
        rfl
      · rw [List.getD_eq_getElem?_getD (l := M.set i y), List.getElem?_set_ne (fun e => hdi e.symm), ← List.getD_eq_getElem?_getD]
  · rw [List.getElem?_eq_none (by rw [List.length_set, recCells_length]; omega), List.getElem?_eq_none (by rw [recCells_length, List.length_set]; omega)]
theorem RowB.set {α : Type} [Inhabited α] {T : TypeId} {n : Nat} {enc : α → Nat → Value} {B : Nat} {w : World} {g m cap : Nat} {L : List α} (h : RowB T n enc B w (some ⟨g, 0, none⟩) m cap L) {i j : Nat} (hj : j < n) (hi : i < L.length) (y : α) (u : Value) (hu : enc y j = u) (hy : ∀ j', j' < n → j' ≠ j → enc y j' = enc (L.getD i default) j') :
    RowB T n enc B (w.setCell ⟨g, i * n + j, none⟩ u) (some ⟨g, 0, none⟩) m cap (L.set i y) := by
  have hn : 0 < n := by omega
  have hl := h.len hn
  have h' := h
  obtain ⟨h1, h2⟩ := h'
  refine ⟨by rw [recCells_length, List.length_set, hl], ?_⟩
  rcases h2 with ⟨e, _⟩ | ⟨g', cap', cur, e, hg, hh, hc, hm, hs, ht⟩
  · cases e
  · simp only [Value.slice.injEq, Option.some.injEq, Addr.mk.injEq, and_true, true_and] at e
    obtain ⟨rfl, rfl⟩ := e
    refine Or.inr ⟨g, cap, cur.setIfInBounds (i * n + j) u, rfl, hg, heap_setCell_same w g _ _ _ _ hh, hc, hm, by simpa using hs, ?_⟩
    rw [← recG_set L hj hi y hy, hu, ← ht]
    simp [List.take_set]
/-- Block g is just the cells vs, of type T. -/
def Blk (w : World) (g : Nat) (T : TypeId) (vs : List Value) : Prop := w.heap[g]? = some (.cells vs.toArray T (0, 0))
section
variable {w w' : World} {g : Nat} {T : TypeId} {vs : List Value}
theorem Blk.own (h : Blk w g T vs) : OwnV w g vs := ⟨vs.toArray, T, h, fun i _ => by simp⟩
theorem Blk.lt (h : Blk w g T vs) : g < w.heap.size := h.own.lt
theorem Blk.kept {P : Nat → Prop} (h : Blk w g T vs) (hk : Kept P w w') (hg : ¬ P g) : Blk w' g T vs := (hk.block g h.lt hg).trans h
theorem Blk.step (h : Blk w g T vs) (hb : Below w.heap.size w w') : Blk w' g T vs := (hb.block g h.lt).trans h
theorem Blk.set (h : Blk w g T vs) (i : Nat) (v : Value) : Blk (w.setCell ⟨g, i, none⟩ v) g T (vs.set i v) := by
  have := heap_setCell_same w g i _ _ v h
  unfold Blk
  rw [this]
  simp
theorem Blk.far {g' i : Nat} {v : Value} (h : Blk w g T vs) (hne : g ≠ g') : Blk (w.setCell ⟨g', i, none⟩ v) g T vs := (Below.heap_setCell _ _ _ _ hne).trans h
theorem Blk.row {α : Type} [Inhabited α] {n : Nat} {enc : α → Nat → Value} {L : List α} (h : Blk w g T (recCells n enc L)) (hl : L.length ≤ 1048576) : RowB T n enc 0 w (some ⟨g, 0, none⟩) L.length L.length L :=
  ⟨recCells_length, Or.inr ⟨g, L.length, _, rfl, Nat.zero_le _, h, Nat.le_refl _, by unfold maxLen; omega, by simp [recCells_length], by simp [List.take_of_length_le, recCells_length]⟩⟩
end
section
variable {w w' : World} {g m cap : Nat}
theorem RowB.ownG {α : Type} [Inhabited α] {T : TypeId} {n : Nat} {enc : α → Nat → Value} {L : List α} (h : RowB T n enc 0 w (some ⟨g, 0, none⟩) m cap L) (hn : 0 < n) : OwnV w g (recCells n enc L) ∧ m ≤ cap ∧ cap ≤ maxLen ∧ g < w.heap.size ∧ L.length = m := by
  have hl := h.len hn
  rcases h.parts hn with ⟨e, _⟩ | ⟨g', e, _, hlt, h1, h2, ho⟩
  · cases e
  · simp only [Option.some.injEq, Addr.mk.injEq, and_true] at e
    subst e
    exact ⟨ho, h1, h2, hlt, hl⟩
end
end Go.Proofs.Ytjpogaidcmndoaa

/- TideDay in numbers, and its two rows; the specification's walk follows in TdJ. -/
import Derived.Test.YtglehiakikhlaaaTdA
import Derived.Test.YtglehiakikhlaaaHaA
import Derived.Test.YtglehiakikhlaaaFlK
import Derived.Test.YtglehiakikhlaaaWalkD
namespace Go.Proofs.Ytglehiakikhlaaa
open Go.RowKit

def phaseAt (h : F4) : Nat → F2
  | 0 => (h.1, h.2.1)
  | i + 1 => (tRe (phaseAt h i).1 (phaseAt h i).2 h.2.2.1 h.2.2.2, tIm (phaseAt h i).1 (phaseAt h i).2 h.2.2.1 h.2.2.2)
def heightTo (L : List F4) (mean i : Nat) : Nat → Nat
  | 0 => mean
  | k + 1 => fop .add .f64 (heightTo L mean i k) (phaseAt (L.getD k default) i).1
def tideOk (L : List F4) (n : Int) : Bool := decide (L.length ≤ 8) && inB n 0 1500
def tideOf (mean : Nat) (L : List F4) (n : Int) : List Nat := if tideOk L n = true then (List.range n.toNat).map (fun i => heightTo L mean i L.length) else []
theorem tideOf_len (mean : Nat) (L : List F4) (n : Int) : (tideOf mean L n).length ≤ 1500 := by
  unfold tideOf
  split
  · rename_i h
    simp only [tideOk, inB, Bool.and_eq_true, decide_eq_true_eq] at h
    simp
    omega
  · simp

/-- Waves up to which NaN: the phases behind i minutes, those below k behind one more. -/
def phOk (L : List F4) (i k : Nat) (P : List F2) : Prop := P.length = L.length ∧ ∀ j, j < L.length →
  fsame .f64 (P.getD j default).1 (phaseAt (L.getD j default) (if j < k then i + 1 else i)).1 ∧ fsame .f64 (P.getD j default).2 (phaseAt (L.getD j default) (if j < k then i + 1 else i)).2

theorem phOk.next {L : List F4} {i k : Nat} {P : List F2} (h : phOk L i k P) (hk : k < L.length) {r s : Nat} {x y z p a b : Nat} (eL : L.getD k default = (x, y, z, p)) (eP : P.getD k default = (a, b))
    (hr : fsame .f64 r (tRe a b z p)) (hs : fsame .f64 s (tIm a b z p)) : phOk L i (k + 1) (P.set k (r, s)) := by
  obtain ⟨h1, h2⟩ := h
  refine ⟨by rw [List.length_set]; exact h1, fun j hj => ?_⟩
  by_cases e : j = k
  · subst e
    obtain ⟨q1, q2⟩ := h2 j hj
    rw [if_neg (by omega), eP] at q1 q2
    rw [show (P.set j (r, s)).getD j default = (r, s) by simp [List.getD, show j < P.length by omega], if_pos (by omega), phaseAt]
    rw [eL] at q1 q2 ⊢
    dsimp only at q1 q2 ⊢
    exact ⟨by rw [← tRe_same q1 q2 (fsame.refl _ z) (fsame.refl _ p)]; exact hr, by rw [← tIm_same q1 q2 (fsame.refl _ z) (fsame.refl _ p)]; exact hs⟩
  · rw [show (P.set k (r, s)).getD j default = P.getD j default by simp [List.getD, show ¬ k = j by omega]]
    have := h2 j hj
    rw [show (if j < k + 1 then i + 1 else i) = (if j < k then i + 1 else i) by by_cases hlt : j < k <;> simp [hlt] <;> omega]
    exact this

theorem phOk.turn {L : List F4} {i : Nat} {P : List F2} (h : phOk L i L.length P) : phOk L (i + 1) 0 P :=
  ⟨h.1, fun j hj => by have := h.2 j hj; rw [if_pos hj] at this; rw [if_neg (by omega)]; exact this⟩

theorem recW_snoc (L : List F2) (p : F2) : recCells 2 eW (L ++ [p]) = recCells 2 eW L ++ [.float .f64 p.1, .float .f64 p.2] := by
  have e : (L ++ [p]).length * 2 = L.length * 2 + 1 + 1 := by simp; omega
  unfold recCells
  rw [e, List.range_succ, List.range_succ]
  simp only [List.map_append, List.map_cons, List.map_nil, List.append_assoc, List.cons_append, List.nil_append]
  congr 1
  · apply List.map_congr_left
    intro k hk
    have : k / 2 < L.length := by simp at hk; omega
    simp [List.getD, List.getElem?_append, this]
  · have h0 : L.length * 2 / 2 = L.length := by omega
    have h1 : (L.length * 2 + 1) / 2 = L.length := by omega
    have m0 : L.length * 2 % 2 = 0 := by omega
    have m1 : (L.length * 2 + 1) % 2 = 1 := by omega
    rw [h0, h1, m0, m1]
    simp [List.getD, eW]
theorem recW_at (M : List F2) {q : Nat} (hq : q < M.length * 2) : (recCells 2 eW M)[q]? = some (eW (M.getD (q / 2) default) (q % 2)) := by
  simp [recCells, List.getElem?_range hq]
theorem recW_set (M : List F2) {j : Nat} (hj : j < M.length) (x : F2) : ((recCells 2 eW M).set (j * 2) (.float .f64 x.1)).set (j * 2 + 1) (.float .f64 x.2) = recCells 2 eW (M.set j x) := by
  apply List.ext_getElem?
  intro q
  by_cases hq : q < M.length * 2
  · rw [recW_at (M.set j x) (by simpa using hq), List.getElem?_set, List.getElem?_set, recW_at M hq, recCells_length]
    by_cases h1 : j * 2 + 1 = q
    · subst h1
      have e1 : (j * 2 + 1) / 2 = j := by omega
      have e2' : (j * 2 + 1) % 2 = 1 := by omega
      rw [if_pos rfl, if_pos (by simp [recCells_length]; omega), e1, e2']
      simp [List.getD, hj, eW]
    · rw [if_neg h1]
      by_cases h2 : j * 2 = q
      · subst h2
        have e1 : (j * 2) / 2 = j := by omega
        have e2' : (j * 2) % 2 = 0 := by omega
        rw [if_pos rfl, if_pos hq, e1, e2']
        simp [List.getD, hj, eW]
      · rw [if_neg h2]
        have : ¬ j = q / 2 := by omega
        simp [List.getD, this]
  · rw [List.getElem?_eq_none (by simp [recCells_length]; omega), List.getElem?_eq_none (by rw [recCells_length, List.length_set]; omega)]

/-- The row of phases. -/
structure PhR (w A : World) (v : Value) (P : List F2) : Prop where
  row : A.ownsRow w.heap.size 37 2 v P.length (recCells 2 eW P)
  fv : ∃ g c, v = .slice (some ⟨g, 0, none⟩) P.length c
theorem phR_new (w A : World) (h : Below w.heap.size w A) : PhR w (A.alloc (.cells #[] 37)) (.slice (some ⟨A.heap.size, 0, none⟩) 0 0) [] :=
  ⟨⟨rfl, Or.inr ⟨A.heap.size, 0, #[], rfl, h.size, Go.Deep.blk_alloc_new _ _, Nat.le_refl _, Nat.zero_le _, rfl, rfl⟩⟩, ⟨_, _, rfl⟩⟩
theorem PhR.step {w A B : World} {v : Value} {P : List F2} (h : PhR w A v P) (hb : Below A.heap.size A B) : PhR w B v P := ⟨ownsRow_below h.row hb, h.fv⟩
theorem PhR.cells {w A : World} {g cap : Nat} {P : List F2} (h : PhR w A (.slice (some ⟨g, 0, none⟩) P.length cap) P) {j : Nat} (hj : j < P.length) :
    A.cell? ⟨g, j * 2, none⟩ = some (.float .f64 (P.getD j default).1) ∧ A.cell? ⟨g, j * 2 + 1, none⟩ = some (.float .f64 (P.getD j default).2) ∧ ∀ q, A.frozen? ⟨g, q, none⟩ = false := by
  have c0 := h.row.cells (g := g) rfl (j * 2) _ (by have := recCells_get (n := 2) (enc := eW) (L := P) (i := j) (j := 0) hj (by omega); rwa [Nat.add_zero] at this)
  have c1 := h.row.cells (g := g) rfl (j * 2 + 1) _ (recCells_get (n := 2) (enc := eW) (L := P) (i := j) (j := 1) hj (by omega))
  rw [Go.WideShapes.add_plain, Nat.zero_add] at c0 c1
  refine ⟨c0, c1, fun q => ?_⟩
  rcases h.row.2 with ⟨hv, _⟩ | ⟨g', cap', cur, hv, hg, hh, _⟩
  · cases hv
  · simp only [Value.slice.injEq, Option.some.injEq, Addr.mk.injEq, and_true, true_and] at hv
    obtain ⟨rfl, rfl⟩ := hv
    simp [World.frozen?, hh]
theorem ownsRow_setW {w : World} {base : Nat} {e : TypeId} {g m cap : Nat} {xs : List Value} (h : w.ownsRow base e 2 (.slice (some ⟨g, 0, none⟩) m cap) m xs) (j : Nat) (u : Value) :
    (w.setCell ⟨g, j, none⟩ u).ownsRow base e 2 (.slice (some ⟨g, 0, none⟩) m cap) m (xs.set j u) := by
  obtain ⟨h1, h2⟩ := h
  refine ⟨by rw [List.length_set]; exact h1, ?_⟩
  rcases h2 with ⟨hv, _⟩ | ⟨g', cap', cur, hv, hg, hh, hc, hm, hs, ht⟩
  · cases hv
  · simp only [Value.slice.injEq, Option.some.injEq, Addr.mk.injEq, and_true, true_and] at hv
    obtain ⟨rfl, rfl⟩ := hv
    refine Or.inr ⟨g, cap, cur.setIfInBounds j u, rfl, hg, by simp [World.setCell, Array.getElem?_modify, hh], hc, hm, by simpa using hs, ?_⟩
    rw [← ht]
    simp [List.take_set]
theorem PhR.put {w A : World} {g cap : Nat} {P : List F2} (h : PhR w A (.slice (some ⟨g, 0, none⟩) P.length cap) P) {j : Nat} (hj : j < P.length) (x y : Nat) :
    PhR w ((A.setCell ⟨g, j * 2, none⟩ (.float .f64 x)).setCell ⟨g, j * 2 + 1, none⟩ (.float .f64 y)) (.slice (some ⟨g, 0, none⟩) P.length cap) (P.set j (x, y)) := by
  refine ⟨?_, ⟨g, cap, by simp⟩⟩
  have := ownsRow_setW (ownsRow_setW h.row (j * 2) (.float .f64 x)) (j * 2 + 1) (.float .f64 y)
  rw [recW_set P hj (x, y)] at this
  rw [List.length_set]
  exact this

end Go.Proofs.Ytglehiakikhlaaa

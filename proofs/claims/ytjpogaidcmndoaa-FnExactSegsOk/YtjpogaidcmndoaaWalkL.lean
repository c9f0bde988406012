/- The contract of the specification's Strips2: the strips, in memory of its own. -/
import Derived.Test.YtjpogaidcmndoaaWalkK
namespace Go.Proofs.Ytjpogaidcmndoaa
open Go.RowKit

theorem ownsRow_below {w w' : World} {base n size : Nat} {e : TypeId} {v : Value} {xs : List Value} (h : w.ownsRow base e size v n xs) (hb : Below w.heap.size w w') : w'.ownsRow base e size v n xs := by
  obtain ⟨h1, h2⟩ := h
  refine ⟨h1, ?_⟩
  rcases h2 with h2 | ⟨g, cap, cur, hv, hg, hh, r⟩
  · exact Or.inl h2
  · obtain ⟨hlt, _⟩ := Array.getElem?_eq_some_iff.1 hh
    exact Or.inr ⟨g, cap, cur, hv, hg, (hb.block g hlt).trans hh, r⟩

theorem ownsRow_ownSl {w : World} {base : Nat} {e : TypeId} {v : Value} {n : Nat} {xs : List Int} (h : w.ownsRow base e 1 v n (ints xs)) : OwnSl base w v xs ∧ ∃ ao cap, v = .slice ao n cap := by
  obtain ⟨h1, h2⟩ := h
  have hn : xs.length = n := by rw [ints_length] at h1; omega
  subst hn
  rcases h2 with ⟨rfl, h0⟩ | ⟨g, cap, cur, rfl, hg, hh, hc, hm, hs, ht⟩
  · have : xs = [] := List.length_eq_zero_iff.1 h0
    subst this
    exact ⟨⟨none, 0, rfl, Nat.le_refl _, Nat.zero_le _, fun h => absurd rfl h⟩, none, 0, rfl⟩
  · refine ⟨⟨_, cap, rfl, hc, hm, fun _ => ⟨g, rfl, hg, cur, e, hh, fun i hi => ?_⟩⟩, _, cap, rfl⟩
    rw [← ht]
    rw [ints_length] at hi
    simp [hi]

theorem range_snoc (f : Nat → Int) (k : Nat) : ints ((List.range (k + 1)).map f) = ints ((List.range k).map f) ++ [.int .i64 (f k)] := by
  simp [ints, List.range_succ]

theorem range_len (f : Nat → Int) (k : Nat) : ((List.range k).map f).length = k := by simp

/-- Two rows beside each other, at two places beside each other. -/
theorem four_cells {w : World} {ao : Option Addr} {R : List (List Int)} {k j : Nat} (h : ∀ r, r < R.length → ∃ b o vr, ao = some ⟨b, o, none⟩ ∧ w.cell? ⟨b, o + r, none⟩ = some vr ∧ IntsIn w vr (R.getD r [])) (hk : k + 1 < R.length)
    (hj : j + 1 < (R.getD k []).length) (hj' : j + 1 < (R.getD (k + 1) []).length) :
    ∃ b o b1 o1 m cr b2 o2 m' cr', ao = some ⟨b, o, none⟩ ∧ w.cell? ⟨b, o + k, none⟩ = some (.slice (some ⟨b1, o1, none⟩) m cr) ∧ w.cell? ⟨b, o + (k + 1), none⟩ = some (.slice (some ⟨b2, o2, none⟩) m' cr') ∧
      w.cell? ⟨b1, o1 + j, none⟩ = some (.int .i64 (cellOf R k j)) ∧ w.cell? ⟨b2, o2 + j, none⟩ = some (.int .i64 (cellOf R (k + 1) j)) ∧
      w.cell? ⟨b1, o1 + (j + 1), none⟩ = some (.int .i64 (cellOf R k (j + 1))) ∧ w.cell? ⟨b2, o2 + (j + 1), none⟩ = some (.int .i64 (cellOf R (k + 1) (j + 1))) ∧ (j : Int) + 1 < m ∧ (j : Int) + 1 < m' := by
  obtain ⟨b, o, ar, m, cr, rfl, hcell, hrow, EM, hm0⟩ := rowAt h (show k < R.length by omega)
  obtain ⟨b', o', ar', m', cr', eb, hcell', hrow', EM', hm0'⟩ := rowAt h hk
  simp only [Option.some.injEq, Addr.mk.injEq, and_true] at eb
  obtain ⟨rfl, rfl⟩ := eb
  rw [unhide EM] at hj
  rw [unhide EM'] at hj'
  obtain ⟨b1, o1, rfl, hx⟩ := intAt hrow (show j < m by omega)
  obtain ⟨b2, o2, rfl, hy⟩ := intAt hrow' (show j < m' by omega)
  obtain ⟨_, _, e1, hz⟩ := intAt hrow hj
  obtain ⟨_, _, e2, hu⟩ := intAt hrow' hj'
  simp only [Option.some.injEq, Addr.mk.injEq, and_true] at e1 e2
  obtain ⟨rfl, rfl⟩ := e1
  obtain ⟨rfl, rfl⟩ := e2
  exact ⟨b, o, b1, o1, m, cr, b2, o2, m', cr', rfl, hcell, hcell', hx, hy, hz, hu, by omega, by omega⟩

end Go.Proofs.Ytjpogaidcmndoaa

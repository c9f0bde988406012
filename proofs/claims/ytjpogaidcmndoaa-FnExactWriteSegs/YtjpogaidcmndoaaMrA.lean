/- Own words: marks of any kind in a row of the call's own. No statement about the program stands here. -/
import Derived.Test.YtjpogaidcmndoaaRecs
import Derived.Test.YtjpogaidcmndoaaKept
namespace Go.Proofs.Ytjpogaidcmndoaa
open Go.RowKit

/-- Block g has N cells of the call's own, the first m of them as f tells. -/
def MarkF (f : Nat → Value) (g N m : Nat) (w : World) : Prop := ∃ c t, w.heap[g]? = some (.cells c t (0, 0)) ∧ N ≤ c.size ∧ ∀ q : Nat, q < m → c[q]? = some (f q)

namespace MarkF
variable {f : Nat → Value} {g N m : Nat} {w w' : World}

theorem start {vs : List Value} (h : OwnV w g vs) (hN : N ≤ vs.length) : MarkF f g N 0 w := by
  obtain ⟨c, t, hb, hc⟩ := h
  refine ⟨c, t, hb, ?_, fun q hq => by omega⟩
  rcases Nat.lt_or_ge c.size N with hlt | hge
  · have h1 := hc c.size (by omega)
    rw [List.getElem?_eq_getElem (by omega)] at h1
    simp at h1
  · exact hge
theorem lt (h : MarkF f g N m w) : g < w.heap.size := by
  obtain ⟨c, t, hb, _⟩ := h
  exact (Array.getElem?_eq_some_iff.1 hb).1
theorem grow (h : MarkF f g N m w) (hb : Below w.heap.size w w') : MarkF f g N m w' := by
  have hlt := h.lt
  obtain ⟨c, t, h1, h2, h3⟩ := h
  exact ⟨c, t, (hb.block _ hlt).trans h1, h2, h3⟩
theorem frozen (h : MarkF f g N m w) (j : Nat) : w.frozen? ⟨g, j, none⟩ = false := by
  obtain ⟨c, t, hb, _⟩ := h
  simp [World.frozen?, hb]
theorem cell (h : MarkF f g N m w) {q : Nat} (hq : q < N) : ∃ u, w.cell? ⟨g, q, none⟩ = some u := by
  obtain ⟨c, t, hb, hs, _⟩ := h
  have : q < c.size := by omega
  exact ⟨c[q], by simp [World.cell?, hb, this]⟩
theorem set (h : MarkF f g N m w) (hm : m < N) {v : Value} (hv : v = f m) : MarkF f g N (m + 1) (w.setCell ⟨g, m, none⟩ v) := by
  subst hv
  obtain ⟨c, t, h1, h2, h3⟩ := h
  refine ⟨c.setIfInBounds m (f m), t, ?_, by simpa using h2, fun q hq => ?_⟩
  · simp [World.setCell, Array.getElem?_modify, h1]
  · rw [Array.getElem?_setIfInBounds]
    by_cases e : m = q
    · subst e
      rw [if_pos rfl, if_pos (by omega)]
    · rw [if_neg e]
      exact h3 q (by omega)
theorem done (h : MarkF f g N N w) : OwnV w g ((List.range N).map f) := by
  obtain ⟨c, t, h1, h2, h3⟩ := h
  refine ⟨c, t, h1, fun i hi => ?_⟩
  have hi' : i < N := by simpa using hi
  rw [h3 i hi']
  simp [hi']
end MarkF

end Go.Proofs.Ytjpogaidcmndoaa

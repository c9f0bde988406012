/- A list of rows that grows by append, a block a row: what is owned, and how it goes on. No statement about the program stands here. -/
import Derived.Test.YtdcbonfhakdhhaaKept
import Derived.Deep.AppendLies
namespace Go.Proofs.Ytdcbonfhakdhhaa
open Go.RowKit

theorem ownsRow_kept {T : Nat → Prop} {w w' : World} {base n size : Nat} {e : TypeId} {v : Value} {xs : List Value} (h : w.ownsRow base e size v n xs) (hk : Kept T w w') (hT : ∀ g, base ≤ g → g < w.heap.size → v.ownBlock = some g → ¬ T g) : w'.ownsRow base e size v n xs := by
  obtain ⟨h1, h2⟩ := h
  refine ⟨h1, ?_⟩
  rcases h2 with h2 | ⟨g, cap, cur, hv, hg, hh, r⟩
  · exact Or.inl h2
  · obtain ⟨hlt, _⟩ := Array.getElem?_eq_some_iff.1 hh
    exact Or.inr ⟨g, cap, cur, hv, hg, (hk.block g hlt (hT g hg hlt (by rw [hv]; rfl))).trans hh, r⟩

theorem Kept.grown {T : Nat → Prop} {a w w' : World} {row : Option Nat} (h : Kept T a w) (hg : w.grownBy w' row) (hr : ∀ k, row = some k → T k) : Kept T a w' :=
  h.trans ⟨hg.os, hg.tape, hg.output, hg.size, fun k hk ht => hg.block k hk (fun e => ht (hr k e.symm))⟩

theorem Kept.alloc {T : Nat → Prop} {a w : World} (h : Kept T a w) (o : Obj) : Kept T a (w.alloc o) := h.trans (kept_of_below (Below.alloc1 w o))

/-- The slice value ov owns one cell a row of R; row r lies at the head of a block of its own. -/
def Grow (t : TypeId) (base : Nat) (w : World) (ov : Value) (R : List (List Int)) : Prop :=
  ∃ vals, w.ownsRow base t 1 ov R.length vals ∧ ∀ r, r < R.length → ∃ g cap, vals[r]? = some (.slice (some ⟨g, 0, none⟩) (R.getD r []).length cap) ∧ (R.getD r []).length ≤ cap ∧ cap ≤ maxLen ∧ OwnV w g (ints (R.getD r [])) ∧ base ≤ g ∧ ov.ownBlock ≠ some g

theorem Grow.start (t : TypeId) (base : Nat) (w : World) : Grow t base w (.slice none 0 0) [] := ⟨[], World.ownsRow_nil _ _ _ _, fun r hr => by simp at hr⟩

theorem Grow.kept {T : Nat → Prop} {t : TypeId} {base : Nat} {w w' : World} {ov : Value} {R : List (List Int)} (h : Grow t base w ov R) (hk : Kept T w w') (hT : ∀ g, base ≤ g → g < w.heap.size → ¬ T g) : Grow t base w' ov R := by
  obtain ⟨vals, ho, hr⟩ := h
  refine ⟨vals, ownsRow_kept ho hk (fun g hg hl _ => hT g hg hl), fun r hlt => ?_⟩
  obtain ⟨g, cap, h1, h2, h3, h4, h5, h6⟩ := hr r hlt
  exact ⟨g, cap, h1, h2, h3, h4.kept hk (hT g h5 h4.lt), h5, h6⟩

theorem Grow.below {t : TypeId} {base : Nat} {w w' : World} {ov : Value} {R : List (List Int)} (h : Grow t base w ov R) (hb : Below w.heap.size w w') : Grow t base w' ov R :=
  h.kept (T := fun _ => False) (kept_of_below hb) (fun _ _ _ h => h)

theorem Grow.mono {t : TypeId} {base base' : Nat} {w : World} {ov : Value} {R : List (List Int)} (h : Grow t base w ov R) (hb : base' ≤ base) : Grow t base' w ov R := by
  obtain ⟨vals, ho, hr⟩ := h
  refine ⟨vals, ⟨ho.1, ho.2.elim Or.inl (fun ⟨g, cap, cur, hv, hg, r⟩ => Or.inr ⟨g, cap, cur, hv, Nat.le_trans hb hg, r⟩)⟩, fun r hlt => ?_⟩
  obtain ⟨g, cap, h1, h2, h3, h4, h5, h6⟩ := hr r hlt
  exact ⟨g, cap, h1, h2, h3, h4, Nat.le_trans hb h5, h6⟩

/-- Where there is a row the list lies at the head of a block of its own. -/
theorem Grow.form {t : TypeId} {base : Nat} {w : World} {ov : Value} {R : List (List Int)} (h : Grow t base w ov R) (hn : 0 < R.length) : ∃ g cap, ov = .slice (some ⟨g, 0, none⟩) R.length cap ∧ base ≤ g ∧ R.length ≤ cap ∧ cap ≤ maxLen := by
  obtain ⟨vals, ⟨_, h2⟩, _⟩ := h
  rcases h2 with ⟨_, h0⟩ | ⟨g, cap, cur, hv, hg, hh, hc, hm, _⟩
  · omega
  · exact ⟨g, cap, hv, hg, hc, hm⟩

theorem getD_snoc {α : Type} (R : List α) (x d : α) (r : Nat) : (R ++ [x]).getD r d = if r < R.length then R.getD r d else if r = R.length then x else d := by
  by_cases h : r < R.length
  · rw [if_pos h]; simp [List.getD, List.getElem?_append_left h]
  · rw [if_neg h]
    by_cases e : r = R.length
    · subst e; simp [List.getD]
    · rw [if_neg e, List.getD, List.getElem?_eq_none (by simp; omega)]; rfl

/-- One row more, behind the law of append. -/
theorem Grow.push {t : TypeId} {base : Nat} {w w1 w2 : World} {ov : Value} {R : List (List Int)} {row : List Int} {g cap g' cap' H : Nat} {vals : List Value}
    (hr : ∀ r, r < R.length → ∃ g cap, vals[r]? = some (.slice (some ⟨g, 0, none⟩) (R.getD r []).length cap) ∧ (R.getD r []).length ≤ cap ∧ cap ≤ maxLen ∧ OwnV w g (ints (R.getD r [])) ∧ base ≤ g ∧ ov.ownBlock ≠ some g)
    (hvl : vals.length = R.length) (hb : Below w.heap.size w w1) (ho : OwnV w g (ints row)) (hg : base ≤ g) (hne : ov.ownBlock ≠ some g) (hc1 : row.length ≤ cap) (hc2 : cap ≤ maxLen) (hH : w.heap.size ≤ H)
    (hown : w2.ownsRow base t 1 (.slice (some ⟨g', 0, none⟩) (R.length + 1) cap') (R.length + 1) (vals ++ [.slice (some ⟨g, 0, none⟩) row.length cap])) (hgrow : w1.grownBy w2 ov.ownBlock) (hat : ov.ownBlock = some g' ∨ g' = H) :
    Grow t base w2 (.slice (some ⟨g', 0, none⟩) (R.length + 1) cap') (R ++ [row]) := by
  refine ⟨vals ++ [.slice (some ⟨g, 0, none⟩) row.length cap], by rw [List.length_append]; exact hown, fun r hlt => ?_⟩
  rw [List.length_append] at hlt
  simp only [List.length_cons, List.length_nil, Nat.zero_add] at hlt
  have far : ∀ x, x < w.heap.size → ov.ownBlock ≠ some x → (Value.slice (some ⟨g', 0, none⟩) (R.length + 1) cap').ownBlock ≠ some x ∧ w2.heap[x]? = w.heap[x]? := fun x hx hnx => by
    constructor
    · intro e
      have e' : g' = x := by simpa [Value.ownBlock] using e
      subst e'
      rcases hat with h | h
      · exact hnx h
      · omega
    · rw [hgrow.block x (Nat.lt_of_lt_of_le hx hb.size) (fun e => hnx e.symm), hb.block x hx]
  rw [getD_snoc]
  by_cases h : r < R.length
  · rw [if_pos h]
    obtain ⟨g1, cap1, h1, h2, h3, h4, h5, h6⟩ := hr r h
    obtain ⟨f1, f2⟩ := far g1 h4.lt h6
    exact ⟨g1, cap1, by rw [List.getElem?_append_left (by omega)]; exact h1, h2, h3, h4.of_block f2, h5, f1⟩
  · rw [if_neg h, if_pos (by omega)]
    obtain ⟨f1, f2⟩ := far g ho.lt hne
    exact ⟨g, cap, by rw [List.getElem?_append_right (by omega)]; simp [show r - vals.length = 0 by omega], hc1, hc2, ho.of_block f2, hg, f1⟩

theorem Grow.rowsIn {t : TypeId} {base : Nat} {w : World} {ov : Value} {R : List (List Int)} (h : Grow t base w ov R) : RowsIn w ov R := by
  obtain ⟨vals, ⟨h1, h2⟩, hr⟩ := h
  rcases h2 with ⟨rfl, h0⟩ | ⟨g, cap, cur, rfl, hg, hh, hc, hm, hs, ht⟩
  · have : R = [] := List.length_eq_zero_iff.1 h0
    subst this
    exact ⟨none, 0, rfl, Nat.le_refl _, Nat.zero_le _, fun r hr => by simp at hr⟩
  · refine ⟨_, cap, rfl, hc, hm, fun r hlt => ?_⟩
    obtain ⟨g1, cap1, e1, e2, e3, e4, _, _⟩ := hr r hlt
    refine ⟨g, 0, _, rfl, ?_, e4.intsIn e2 e3⟩
    rw [Nat.zero_add]
    have : cur[r]? = some (.slice (some ⟨g1, 0, none⟩) (R.getD r []).length cap1) := by
      rw [← ht] at e1
      rw [List.getElem?_take, if_pos (by omega)] at e1
      simpa using e1
    simp [World.cell?, hh, this]

end Go.Proofs.Ytdcbonfhakdhhaa

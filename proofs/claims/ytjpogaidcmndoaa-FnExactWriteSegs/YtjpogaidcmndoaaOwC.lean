/- Lists whose elements take one cell each, of the call's own, between two marks of memory. No statement about the program stands here. -/
import Derived.Test.YtjpogaidcmndoaaKept
import Derived.Test.YtjpogaidcmndoaaRecs
namespace Go.Proofs.Ytjpogaidcmndoaa
open Go.RowKit

section
variable {α : Type} {E : α → Value}

/-- The slice value v holds the elements L in w. -/
def CIn [Inhabited α] (E : α → Value) (w : World) (v : Value) (L : List α) : Prop :=
  ∃ ao cap, v = .slice ao L.length cap ∧ L.length ≤ cap ∧ cap ≤ maxLen ∧ ∀ i, i < L.length → ∃ b o, ao = some ⟨b, o, none⟩ ∧ w.cell? ⟨b, o + i, none⟩ = some (E (L.getD i default))

theorem CIn.below [Inhabited α] {w w' : World} {v : Value} {L : List α} (h : CIn E w v L) (hb : Below w.heap.size w w') : CIn E w' v L := by
  obtain ⟨ao, cap, e, h1, h2, h3⟩ := h
  refine ⟨ao, cap, e, h1, h2, fun i hi => ?_⟩
  obtain ⟨b, o, e1, hc⟩ := h3 i hi
  exact ⟨b, o, e1, (hb.cell (lt_of_cell hc)).trans hc⟩

theorem map_get [Inhabited α] (L : List α) {i : Nat} (h : i < L.length) : (L.map E)[i]? = some (E (L.getD i default)) := by
  simp [List.getD, List.getElem?_eq_getElem h]
theorem OwnV.cIn [Inhabited α] {w : World} {g cap : Nat} {L : List α} (h : OwnV w g (L.map E)) (hl : L.length ≤ cap) (hm : cap ≤ maxLen) : CIn E w (.slice (some ⟨g, 0, none⟩) L.length cap) L :=
  ⟨_, cap, rfl, hl, hm, fun i hi => ⟨g, 0, rfl, by rw [Nat.zero_add]; exact h.cell (map_get L hi)⟩⟩

/-- Of the call's own: the block, where there is an element, from B on (and below U). -/
def OwnC (E : α → Value) (B : Nat) (w : World) (v : Value) (L : List α) : Prop :=
  ∃ ao cap, v = .slice ao L.length cap ∧ L.length ≤ cap ∧ cap ≤ maxLen ∧ (L ≠ [] → ∃ g, ao = some ⟨g, 0, none⟩ ∧ B ≤ g ∧ OwnV w g (L.map E))
def OwnCU (E : α → Value) (B U : Nat) (w : World) (v : Value) (L : List α) : Prop :=
  ∃ ao cap, v = .slice ao L.length cap ∧ L.length ≤ cap ∧ cap ≤ maxLen ∧ (L ≠ [] → ∃ g, ao = some ⟨g, 0, none⟩ ∧ B ≤ g ∧ g < U ∧ OwnV w g (L.map E))

theorem OwnC.mono {B B' : Nat} {w : World} {v : Value} {L : List α} (h : OwnC E B w v L) (hB : B' ≤ B) : OwnC E B' w v L := by
  obtain ⟨ao, cap, rfl, h1, h2, h3⟩ := h
  refine ⟨ao, cap, rfl, h1, h2, fun hne => ?_⟩
  obtain ⟨g, rfl, hg, ho⟩ := h3 hne
  exact ⟨g, rfl, by omega, ho⟩

theorem OwnC.upto {B : Nat} {w : World} {v : Value} {L : List α} (h : OwnC E B w v L) : OwnCU E B w.heap.size w v L := by
  obtain ⟨ao, cap, rfl, h1, h2, h3⟩ := h
  refine ⟨ao, cap, rfl, h1, h2, fun hne => ?_⟩
  obtain ⟨g, rfl, hg, ho⟩ := h3 hne
  exact ⟨g, rfl, hg, ho.lt, ho⟩

theorem OwnCU.inn [Inhabited α] {B U : Nat} {w : World} {v : Value} {L : List α} (h : OwnCU E B U w v L) : CIn E w v L := by
  obtain ⟨ao, cap, rfl, h1, h2, h3⟩ := h
  refine ⟨ao, cap, rfl, h1, h2, fun i hi => ?_⟩
  obtain ⟨g, rfl, _, _, ho⟩ := h3 (fun e => by rw [e] at hi; simp at hi)
  exact ⟨g, 0, rfl, by rw [Nat.zero_add]; exact ho.cell (map_get L hi)⟩

theorem OwnC.intsIn [Inhabited α] {B : Nat} {w : World} {v : Value} {L : List α} (h : OwnC E B w v L) : CIn E w v L := h.upto.inn

theorem OwnCU.below {B U : Nat} {w w' : World} {v : Value} {L : List α} (h : OwnCU E B U w v L) (hb : Below w.heap.size w w') : OwnCU E B U w' v L := by
  obtain ⟨ao, cap, rfl, h1, h2, h3⟩ := h
  refine ⟨ao, cap, rfl, h1, h2, fun hne => ?_⟩
  obtain ⟨g, rfl, hg, hu, ho⟩ := h3 hne
  exact ⟨g, rfl, hg, hu, ho.below hb ho.lt⟩

theorem OwnCU.kept {T : Nat → Prop} {B U : Nat} {w w' : World} {v : Value} {L : List α} (h : OwnCU E B U w v L) (hk : Kept T w w') (hT : ∀ b, B ≤ b → b < U → ¬ T b) : OwnCU E B U w' v L := by
  obtain ⟨ao, cap, rfl, h1, h2, h3⟩ := h
  refine ⟨ao, cap, rfl, h1, h2, fun hne => ?_⟩
  obtain ⟨g, rfl, hg, hu, ho⟩ := h3 hne
  exact ⟨g, rfl, hg, hu, ho.kept hk (hT g hg hu)⟩

/-- A row that was appended to. -/
theorem ownsRow_ownC {w : World} {base : Nat} {e : TypeId} {v : Value} {n : Nat} {L : List α} (h : w.ownsRow base e 1 v n (L.map E)) (hn : L.length = n) : OwnC E base w v L := by
  obtain ⟨h1, h2⟩ := h
  rcases h2 with ⟨rfl, h0⟩ | ⟨g, cap, cur, rfl, hg, hh, hc, hm, hs, ht⟩
  · have : L = [] := List.length_eq_zero_iff.1 (by omega)
    subst this
    exact ⟨none, 0, rfl, Nat.le_refl _, Nat.zero_le _, fun h => absurd rfl h⟩
  · subst hn
    refine ⟨_, cap, rfl, hc, hm, fun _ => ⟨g, rfl, hg, cur, e, hh, fun i hi => ?_⟩⟩
    rw [List.length_map] at hi
    rw [← ht]
    simp [hi]

/-- What is left of L behind j marks. -/
def midL [Inhabited α] (f : Nat → α) (L : List α) (j : Nat) : List α := (List.range L.length).map fun i => if i < j then f i else L.getD i default
def marksL (f : Nat → α) (n : Nat) : List α := (List.range n).map f
theorem marksL_len (f : Nat → α) (n : Nat) : (marksL f n).length = n := by simp [marksL]
theorem marksL_get [Inhabited α] (f : Nat → α) {n i : Nat} (h : i < n) : (marksL f n).getD i default = f i := by simp [marksL, List.getD, h]
theorem midL_len [Inhabited α] (f : Nat → α) (L : List α) (j : Nat) : (midL f L j).length = L.length := by simp [midL]
theorem midL_zero [Inhabited α] (f : Nat → α) (L : List α) : midL f L 0 = L := by
  apply List.ext_getElem
  · simp [midL]
  · intro i h1 h2
    simp [midL, List.getD, h2]
theorem midL_done [Inhabited α] (f : Nat → α) (L : List α) : midL f L L.length = marksL f L.length := by
  apply List.ext_getElem
  · simp [midL, marksL]
  · intro i h1 h2
    have : i < L.length := by simpa [midL] using h1
    simp [midL, marksL, this]
theorem midL_step [Inhabited α] (f : Nat → α) (L : List α) (j : Nat) : (midL f L j).set j (f j) = midL f L (j + 1) := by
  apply List.ext_getElem
  · simp [midL]
  · intro i h1 h2
    rw [List.getElem_set]
    by_cases e : j = i
    · subst e; simp [midL]
    · rw [if_neg e]
      have : (i < j) ↔ (i < j + 1) := by omega
      simp [midL, this]
end

end Go.Proofs.Ytjpogaidcmndoaa

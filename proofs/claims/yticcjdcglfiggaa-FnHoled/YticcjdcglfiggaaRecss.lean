/- Own words: a slice of slices of flat records, read in a world; one that is being made. No statement about the program stands here. -/
import Derived.Test.YticcjdcglfiggaaRecs
namespace Go.Proofs.Yticcjdcglfiggaa
open Go.RowKit

/-- The slice value v holds the lists LL of records in w. -/
def RecssIn {α : Type} [Inhabited α] (n : Nat) (enc : α → Nat → Value) (w : World) (v : Value) (LL : List (List α)) : Prop :=
  ∃ ao cap, v = .slice ao LL.length cap ∧ LL.length ≤ cap ∧ cap ≤ maxLen ∧ ∀ r, r < LL.length → ∃ b o vr, ao = some ⟨b, o, none⟩ ∧ w.cell? ⟨b, o + r, none⟩ = some vr ∧ RecsIn n enc w vr (LL.getD r [])

abbrev RR3 := RecssIn 3 e3
abbrev RR2 := RecssIn 2 e2

section
variable {α : Type} [Inhabited α] {n : Nat} {enc : α → Nat → Value} {w w' : World} {v : Value} {LL : List (List α)}

theorem RecssIn.below (h : RecssIn n enc w v LL) (hb : Below w.heap.size w w') : RecssIn n enc w' v LL := by
  obtain ⟨ao, cap, e, h1, h2, h3⟩ := h
  refine ⟨ao, cap, e, h1, h2, fun i hi => ?_⟩
  obtain ⟨b, o, vr, e1, hc, hr⟩ := h3 i hi
  exact ⟨b, o, vr, e1, (hb.cell (lt_of_cell hc)).trans hc, hr.below hb⟩

theorem RecssIn.inn (h : RecssIn n enc w v LL) : RecssIn n enc w v LL := h

/-- One row, its value written out, its length a number of its own. -/
theorem recsAt {ao : Option Addr} {k : Nat} (h : ∀ r, r < LL.length → ∃ b o vr, ao = some ⟨b, o, none⟩ ∧ w.cell? ⟨b, o + r, none⟩ = some vr ∧ RecsIn n enc w vr (LL.getD r [])) (hk : k < LL.length) :
    ∃ b o ar m cr, ao = some ⟨b, o, none⟩ ∧ w.cell? ⟨b, o + k, none⟩ = some (.slice ar m cr) ∧ RecsIn n enc w (.slice ar m cr) (LL.getD k []) ∧ Hid ((LL.getD k []).length = m) ∧ m ≤ 9223372036854775807 := by
  obtain ⟨b, o, vr, e1, hc, hr⟩ := h k hk
  have hr' := hr
  obtain ⟨ar, cr, rfl, h1, h2, _⟩ := hr
  exact ⟨b, o, ar, _, cr, e1, hc, hr', rfl, by unfold maxLen at h2; omega⟩
end

/-- A new list of rows, k of them made: row r holds the cells cs r in a block of its own. -/
structure FillT (t : TypeId) (w wr : World) (n : Nat) (len : Nat → Nat) (cs : Nat → List Value) (k : Nat) (G : Nat → Nat) : Prop where
  below : Below w.heap.size w wr
  top : wr.rowIs w.heap.size t n (fun r => if r < k then .slice (some ⟨G r, 0, none⟩) (len r) (len r) else .slice none 0 0)
  rows : ∀ r, r < k → OwnV wr (G r) (cs r)
  above : ∀ r, r < k → w.heap.size < G r

theorem FillT.start (t : TypeId) (w : World) (n : Nat) (len : Nat → Nat) (cs : Nat → List Value) : FillT t w (w.alloc (.cells (madeCells #[.slice none 0 0] n) t)) n len cs 0 (fun _ => 0) :=
  ⟨(Below.refl _ _).alloc (Nat.le_refl _) _, (World.rowIs_made w _ n t).congr (fun j _ => by simp), fun r hr => by omega, fun r hr => by omega⟩

theorem FillT.step {t : TypeId} {w wr w3 : World} {n k g : Nat} {len : Nat → Nat} {cs : Nat → List Value} {G : Nat → Nat} (h : FillT t w wr n len cs k G) (hg : wr.heap.size ≤ g) (ho : OwnV w3 g (cs k)) (hb : Below wr.heap.size wr w3) :
    FillT t w (w3.setCell ⟨w.heap.size, k, none⟩ (.slice (some ⟨g, 0, none⟩) (len k) (len k))) n len cs (k + 1) (fun r => if r = k then g else G r) := by
  have hlt := h.top.lt
  refine ⟨(Below.step h.below hb).setCell (Nat.le_refl _) _, ((h.top.of_block (hb.block _ hlt)).set k _).congr (fun i _ => ?_), fun r hr => ?_, fun r hr => ?_⟩
  · by_cases e : i = k
    · subst e; simp
    · rw [if_neg e]
      by_cases hi : i < k
      · rw [if_pos hi, if_pos (by omega), if_neg e]
      · rw [if_neg hi, if_neg (by omega)]
  · by_cases e : r = k
    · subst e
      simp only [if_true]
      exact ho.other (by show g ≠ w.heap.size; omega) _
    · have hr' : r < k := by omega
      rw [if_neg e]
      exact ((h.rows r hr').below hb (h.rows r hr').lt).other (by have := h.above r hr'; show G r ≠ w.heap.size; omega) _
  · by_cases e : r = k
    · subst e; simp only [if_true]; omega
    · rw [if_neg e]; exact h.above r (by omega)

theorem FillT.cell {t : TypeId} {w wr : World} {n k : Nat} {len : Nat → Nat} {cs : Nat → List Value} {G : Nat → Nat} (h : FillT t w wr n len cs k G) {w3 : World} (hb : Below wr.heap.size wr w3) (hk : k < n) : w3.cell? ⟨w.heap.size, k, none⟩ = some (.slice none 0 0) ∧ w3.frozen? ⟨w.heap.size, k, none⟩ = false := by
  have hbt := h.top.of_block (hb.block _ h.top.lt)
  have h3 := hbt.cell (i := k) hk
  rw [if_neg (Nat.lt_irrefl k)] at h3
  exact ⟨h3, hbt.frozen k⟩

theorem FillT.done {α : Type} [Inhabited α] {m : Nat} {enc : α → Nat → Value} {LL : List (List α)} {t : TypeId} {w wr : World} {G : Nat → Nat} (h : FillT t w wr LL.length (fun r => (LL.getD r []).length) (fun r => recCells m enc (LL.getD r [])) LL.length G)
    (hs : LL.length ≤ 1048576) (hl : ∀ i, i < LL.length → (LL.getD i []).length ≤ 1048576) : RecssIn m enc wr (.slice (some ⟨w.heap.size, 0, none⟩) LL.length LL.length) LL :=
  ⟨_, _, rfl, Nat.le_refl _, by unfold maxLen; omega, fun r hr => ⟨w.heap.size, 0, _, rfl, by rw [Nat.zero_add, h.top.cell hr, if_pos hr], (h.rows r hr).recsIn (Nat.le_refl _) (by have := hl r hr; unfold maxLen; omega)⟩⟩

def SizedLL {α : Type} (LL : List (List α)) (r : Int) : Prop := -1 ≤ r ∧ r ≤ 1048576 ∧ (0 ≤ r → LL.length ≤ 1048576 ∧ ∀ i, i < LL.length → (LL.getD i []).length ≤ 1048576)

end Go.Proofs.Yticcjdcglfiggaa

/- Own words of this claim's proofs: what it means that a slice value holds a list of numbers (or of such lists) in a world; that a block is the call's own; the laws by which these go on. No statement about the program stands here. -/
import Derived.WalkKit
import Derived.WalkSpells
import Derived.Deep.OwnRows
namespace Go.Proofs.Ytjpogaidcmndoaa
open Go.RowKit

/-- The slice value v holds the numbers xs in w. -/
def IntsIn (w : World) (v : Value) (xs : List Int) : Prop :=
  ∃ ao cap, v = .slice ao xs.length cap ∧ xs.length ≤ cap ∧ cap ≤ maxLen ∧ ∀ i, i < xs.length → ∃ b o, ao = some ⟨b, o, none⟩ ∧ w.cell? ⟨b, o + i, none⟩ = some (.int .i64 (xs.getD i 0))

/-- The slice value v holds the lists R in w. -/
def RowsIn (w : World) (v : Value) (R : List (List Int)) : Prop :=
  ∃ ao cap, v = .slice ao R.length cap ∧ R.length ≤ cap ∧ cap ≤ maxLen ∧ ∀ r, r < R.length → ∃ b o vr, ao = some ⟨b, o, none⟩ ∧ w.cell? ⟨b, o + r, none⟩ = some vr ∧ IntsIn w vr (R.getD r [])

theorem getD_lt {α : Type} {xs : List α} {d : α} {i : Nat} (hi : i < xs.length) : xs.getD i d = xs[i] := by
  simp [List.getD, List.getElem?_eq_getElem hi]

theorem all_true {α : Type} {p : α → Bool} {xs : List α} {d : α} (h : ∀ i, i < xs.length → p (xs.getD i d) = true) : xs.all p = true := by
  rw [List.all_eq_true]
  intro x hx
  obtain ⟨i, hi, rfl⟩ := List.mem_iff_getElem.1 hx
  have := h i hi
  rwa [getD_lt hi] at this

theorem all_false {α : Type} {p : α → Bool} {xs : List α} {d : α} {i : Nat} (hi : i < xs.length) (h : p (xs.getD i d) = false) : xs.all p = false := by
  rw [List.all_eq_false]
  refine ⟨xs.getD i d, ?_, by rw [h]; simp⟩
  rw [getD_lt hi]
  exact List.getElem_mem _

theorem all_at {α : Type} {p : α → Bool} {xs : List α} {d : α} {i : Nat} (h : xs.all p = true) (hi : i < xs.length) : p (xs.getD i d) = true := by
  rw [getD_lt hi]
  exact List.all_eq_true.1 h _ (List.getElem_mem _)

theorem hide {p : Prop} (h : p) : Hid p := h
theorem unhide {p : Prop} (h : Hid p) : p := h

theorem lt_of_cell {w : World} {a : Addr} {v : Value} (h : w.cell? a = some v) : a.block < w.heap.size := World.block_lt_of_cell? _ _ h

/-- The same numbers, the slice cut to its length. -/
theorem IntsIn.cut {w : World} {ar : Option Addr} {m cr : Nat} {xs : List Int} (h : IntsIn w (.slice ar m cr) xs) : IntsIn w (.slice ar m m) xs := by
  obtain ⟨ao, cap, e, h1, h2, h3⟩ := h
  simp only [Value.slice.injEq] at e
  obtain ⟨rfl, rfl, rfl⟩ := e
  exact ⟨_, _, rfl, Nat.le_refl _, Nat.le_trans h1 h2, h3⟩

theorem IntsIn.len {w : World} {ar : Option Addr} {m cr : Nat} {xs : List Int} (h : IntsIn w (.slice ar m cr) xs) : xs.length = m ∧ m ≤ cr ∧ cr ≤ maxLen := by
  obtain ⟨ao, cap, e, h1, h2, h3⟩ := h
  simp only [Value.slice.injEq] at e
  obtain ⟨rfl, rfl, rfl⟩ := e
  exact ⟨rfl, h1, h2⟩

/-- One number of a slice whose value is written out. -/
theorem intAt {w : World} {ar : Option Addr} {m cr : Nat} {xs : List Int} {j : Nat} (h : IntsIn w (.slice ar m cr) xs) (hj : j < m) : ∃ b o, ar = some ⟨b, o, none⟩ ∧ w.cell? ⟨b, o + j, none⟩ = some (.int .i64 (xs.getD j 0)) := by
  obtain ⟨ao, cap, e, h1, h2, h3⟩ := h
  simp only [Value.slice.injEq] at e
  obtain ⟨rfl, rfl, rfl⟩ := e
  exact h3 j hj

theorem IntsIn.below {w w' : World} {v : Value} {xs : List Int} (h : IntsIn w v xs) (hb : Below w.heap.size w w') : IntsIn w' v xs := by
  obtain ⟨ao, cap, e, h1, h2, h3⟩ := h
  refine ⟨ao, cap, e, h1, h2, fun i hi => ?_⟩
  obtain ⟨b, o, e1, hc⟩ := h3 i hi
  exact ⟨b, o, e1, (hb.cell (lt_of_cell hc)).trans hc⟩

theorem RowsIn.below {w w' : World} {v : Value} {R : List (List Int)} (h : RowsIn w v R) (hb : Below w.heap.size w w') : RowsIn w' v R := by
  obtain ⟨ao, cap, e, h1, h2, h3⟩ := h
  refine ⟨ao, cap, e, h1, h2, fun i hi => ?_⟩
  obtain ⟨b, o, vr, e1, hc, hr⟩ := h3 i hi
  exact ⟨b, o, vr, e1, (hb.cell (lt_of_cell hc)).trans hc, hr.below hb⟩

/-- One row, its value written out, its length a number of its own. -/
theorem rowAt {w : World} {ao : Option Addr} {R : List (List Int)} {k : Nat} (h : ∀ r, r < R.length → ∃ b o vr, ao = some ⟨b, o, none⟩ ∧ w.cell? ⟨b, o + r, none⟩ = some vr ∧ IntsIn w vr (R.getD r [])) (hk : k < R.length) :
    ∃ b o ar m cr, ao = some ⟨b, o, none⟩ ∧ w.cell? ⟨b, o + k, none⟩ = some (.slice ar m cr) ∧ IntsIn w (.slice ar m cr) (R.getD k []) ∧ Hid ((R.getD k []).length = m) ∧ m ≤ 9223372036854775807 := by
  obtain ⟨b, o, vr, e1, hc, hr⟩ := h k hk
  have hr' := hr
  obtain ⟨ar, cr, rfl, h1, h2, _⟩ := hr
  exact ⟨b, o, ar, _, cr, e1, hc, hr', rfl, by unfold maxLen at h2; omega⟩

theorem bcell {W w1 : World} (hb : Below W.heap.size W w1) : (∀ b o, b < W.heap.size → w1.cell? ⟨b, o, none⟩ = W.cell? ⟨b, o, none⟩) ∧ (∀ b o, b < W.heap.size → w1.frozen? ⟨b, o, none⟩ = W.frozen? ⟨b, o, none⟩) :=
  ⟨fun b o h => hb.cell (p := ⟨b, o, none⟩) h, fun b o h => hb.frozen (p := ⟨b, o, none⟩) h⟩

theorem Below.step {w w1 w2 : World} (h : Below w.heap.size w w1) (k : Below w1.heap.size w1 w2) : Below w.heap.size w w2 := h.trans (k.mono h.size)

theorem below_alloc {w w' : World} (h : Below w.heap.size w w') (o : Obj) : Below w.heap.size w (w'.alloc o) := h.alloc h.size o

/-- Block g holds three values. -/
structure Box3 (w : World) (g : Nat) (x y z : Value) : Prop where
  c0 : w.cell? ⟨g, 0, none⟩ = some x
  c1 : w.cell? ⟨g, 1, none⟩ = some y
  c2 : w.cell? ⟨g, 2, none⟩ = some z

theorem Box3.below {w w' : World} {g B : Nat} {x y z : Value} (h : Box3 w g x y z) (hb : Below B w w') (hg : g < B) : Box3 w' g x y z :=
  ⟨(hb.cell hg).trans h.c0, (hb.cell hg).trans h.c1, (hb.cell hg).trans h.c2⟩

theorem Box3.step {w w' : World} {g : Nat} {x y z : Value} (h : Box3 w g x y z) (hb : Below w.heap.size w w') : Box3 w' g x y z := h.below hb (lt_of_cell h.c0)

theorem box3_alloc (w : World) (x y z : Value) (t : TypeId) : Box3 (w.alloc (.cells #[x, y, z] t)) w.heap.size x y z := ⟨by simp, by simp, by simp⟩

theorem Below.alloc1 (w : World) (o : Obj) : Below w.heap.size w (w.alloc o) := (Below.refl _ _).alloc (Nat.le_refl _) o

/-- BLOCK g IS THE CALL's OWN (never frozen), its first cells the values vs. -/
def OwnV (w : World) (g : Nat) (vs : List Value) : Prop := ∃ c t, w.heap[g]? = some (.cells c t (0, 0)) ∧ ∀ i, i < vs.length → c[i]? = vs[i]?

namespace OwnV
variable {w w' : World} {g : Nat} {vs : List Value}

theorem cell (h : OwnV w g vs) {i : Nat} {v : Value} (hi : vs[i]? = some v) : w.cell? ⟨g, i, none⟩ = some v := by
  obtain ⟨c, t, hb, hc⟩ := h
  have hlt : i < vs.length := by
    rcases Nat.lt_or_ge i vs.length with h | h
    · exact h
    · rw [List.getElem?_eq_none h] at hi; cases hi
  simp [World.cell?, hb, hc i hlt, hi]

theorem frozen (h : OwnV w g vs) (i : Nat) : w.frozen? ⟨g, i, none⟩ = false := by
  obtain ⟨c, t, hb, _⟩ := h
  simp [World.frozen?, hb]

theorem lt (h : OwnV w g vs) : g < w.heap.size := by
  obtain ⟨c, t, hb, _⟩ := h
  obtain ⟨hlt, _⟩ := Array.getElem?_eq_some_iff.1 hb
  exact hlt

theorem of_block (h : OwnV w g vs) (e : w'.heap[g]? = w.heap[g]?) : OwnV w' g vs := by
  obtain ⟨c, t, hb, hc⟩ := h
  exact ⟨c, t, e.trans hb, hc⟩

theorem below {B : Nat} (h : OwnV w g vs) (hb : Below B w w') (hB : g < B) : OwnV w' g vs := h.of_block (hb.block g hB)

theorem set (h : OwnV w g vs) (i : Nat) (v : Value) (hi : i < vs.length) : OwnV (w.setCell ⟨g, i, none⟩ v) g (vs.set i v) := by
  obtain ⟨c, t, hb, hc⟩ := h
  refine ⟨c.setIfInBounds i v, t, ?_, fun j hj => ?_⟩
  · simp [World.setCell, Array.getElem?_modify, hb]
  · rw [List.length_set] at hj
    have hcj := hc j hj
    rw [Array.getElem?_setIfInBounds, List.getElem?_set]
    by_cases e : i = j
    · subst e
      have hsz : i < c.size := by
        have := hc i hi
        rw [List.getElem?_eq_getElem hi] at this
        exact (Array.getElem?_eq_some_iff.1 this).1
      simp [hsz, hi]
    · simp [e, hcj]

theorem other (h : OwnV w g vs) {a : Addr} (ha : g ≠ a.block) (v : Value) : OwnV (w.setCell a v) g vs := h.of_block (by
  simp only [World.setCell, Array.getElem?_modify]
  rw [if_neg (by omega)])

theorem alloc (h : OwnV w g vs) (o : Obj) : OwnV (w.alloc o) g vs := h.of_block (Below.heap_alloc _ _ _ h.lt)

theorem drew (h : OwnV w g vs) : OwnV w.drew g vs := h

end OwnV

def ints (xs : List Int) : List Value := xs.map (Value.int .i64)

theorem ints_length (xs : List Int) : (ints xs).length = xs.length := by simp [ints]

theorem ints_get (xs : List Int) {i : Nat} (h : i < xs.length) : (ints xs)[i]? = some (.int .i64 (xs.getD i 0)) := by
  simp [ints, List.getD, List.getElem?_eq_getElem h]

theorem ints_set (xs : List Int) (i : Nat) (v : Int) : (ints xs).set i (.int .i64 v) = ints (xs.set i v) := by
  simp [ints, List.map_set]

theorem OwnV.intsIn {w : World} {g cap : Nat} {xs : List Int} (h : OwnV w g (ints xs)) (hl : xs.length ≤ cap) (hm : cap ≤ maxLen) : IntsIn w (.slice (some ⟨g, 0, none⟩) xs.length cap) xs :=
  ⟨_, cap, rfl, hl, hm, fun i hi => ⟨g, 0, rfl, by rw [Nat.zero_add]; exact h.cell (ints_get xs hi)⟩⟩

theorem rowIs_ownV {w : World} {b n : Nat} {t : TypeId} {f : Nat → Value} {vs : List Value} (h : w.rowIs b t n f) (hl : vs.length = n) (hf : ∀ i, i < n → vs[i]? = some (f i)) : OwnV w b vs := by
  obtain ⟨c, hb, _, hc⟩ := h
  exact ⟨c, t, hb, fun i hi => by rw [hc i (hl ▸ hi), hf i (hl ▸ hi)]⟩

/-- The cells of a list of rows that lie in the blocks G. -/
def tops (G C : Nat → Nat) (R : List (List Int)) : List Value := (List.range R.length).map fun r => .slice (some ⟨G r, 0, none⟩) (R.getD r []).length (C r)

theorem tops_length (G C : Nat → Nat) (R : List (List Int)) : (tops G C R).length = R.length := by simp [tops]

theorem tops_get (G C : Nat → Nat) (R : List (List Int)) {r : Nat} (h : r < R.length) : (tops G C R)[r]? = some (.slice (some ⟨G r, 0, none⟩) (R.getD r []).length (C r)) := by
  simp [tops, h]

/-- A LIST OF ROWS OF THE CALL's OWN: its block g, one block a row, in rising order, all from B on. -/
structure OwnRows (B : Nat) (w : World) (g : Nat) (G C : Nat → Nat) (R : List (List Int)) : Prop where
  base : B ≤ g
  top : OwnV w g (tops G C R)
  rows : ∀ r, r < R.length → OwnV w (G r) (ints (R.getD r []))
  caps : ∀ r, r < R.length → (R.getD r []).length ≤ C r ∧ C r ≤ maxLen
  above : ∀ r, r < R.length → B ≤ G r ∧ G r ≠ g
  apart : ∀ r s, r < R.length → s < R.length → r ≠ s → G r ≠ G s

theorem OwnRows.rowsIn {B : Nat} {w : World} {g cap : Nat} {G C : Nat → Nat} {R : List (List Int)} (h : OwnRows B w g G C R) (hl : R.length ≤ cap) (hm : cap ≤ maxLen) : RowsIn w (.slice (some ⟨g, 0, none⟩) R.length cap) R :=
  ⟨_, cap, rfl, hl, hm, fun r hr => ⟨g, 0, _, rfl, by rw [Nat.zero_add]; exact h.top.cell (tops_get G C R hr), (h.rows r hr).intsIn (h.caps r hr).1 (h.caps r hr).2⟩⟩

theorem OwnRows.below {B : Nat} {w w' : World} {g : Nat} {G C : Nat → Nat} {R : List (List Int)} (h : OwnRows B w g G C R) (hb : Below w.heap.size w w') : OwnRows B w' g G C R :=
  ⟨h.base, h.top.below hb h.top.lt, fun r hr => (h.rows r hr).below hb (h.rows r hr).lt, h.caps, h.above, h.apart⟩

theorem OwnRows.mono {B B' : Nat} {w : World} {g : Nat} {G C : Nat → Nat} {R : List (List Int)} (h : OwnRows B w g G C R) (hB : B' ≤ B) : OwnRows B' w g G C R :=
  ⟨Nat.le_trans hB h.base, h.top, h.rows, h.caps, fun r hr => ⟨Nat.le_trans hB (h.above r hr).1, (h.above r hr).2⟩, h.apart⟩

theorem OwnRows.setBelow {B : Nat} {w : World} {g : Nat} {G C : Nat → Nat} {R : List (List Int)} (h : OwnRows B w g G C R) {a : Addr} (ha : a.block < B) (v : Value) : OwnRows B (w.setCell a v) g G C R :=
  ⟨h.base, h.top.other (by have := h.base; omega) v, fun r hr => (h.rows r hr).other (by have := (h.above r hr).1; omega) v, h.caps, h.above, h.apart⟩

end Go.Proofs.Ytjpogaidcmndoaa

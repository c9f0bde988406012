/- Laid together out of: Base, Kept, Draw, AtBig, Recs, OwC, WalkA, WalkB, WalkC, FmB, WalkD, WalkE, WalkF, ExactKit, FmC, FmD, MrA. -/
import Derived.WalkKit
import Derived.WalkSpells
import Derived.Deep.OwnRows
import Derived.Test.YtkjikjeecjendaaRows
import Derived.WalkLawsBesides
import Derived.Deep.LoopGhost
import Derived.Deep.QuietTactic
import Derived.BigQuiet
import Derived.Laws.BitsAllLaws

/- Own words of this claim's proofs: what it means that a slice value holds a list of numbers (or of such lists) in a world; that a block is the call's own; the laws by which these go on. No statement about the program stands here. -/
namespace Go.Proofs.Ytkjikjeecjendaa
open Go.RowKit

/-- The slice value v holds the numbers xs in w. -/
def IntsIn (w : World) (v : Value) (xs : List Int) : Prop :=
  ∃ ao cap, v = .slice ao xs.length cap ∧ xs.length ≤ cap ∧ cap ≤ maxLen ∧ ∀ i, i < xs.length → ∃ b o, ao = some ⟨b, o, none⟩ ∧ w.cell? ⟨b, o + i, none⟩ = some (.int .i64 (xs.getD i 0))

/-- The slice value v holds the lists R in w. -/
def RowsIn (w : World) (v : Value) (R : List (List Int)) : Prop :=
  ∃ ao cap, v = .slice ao R.length cap ∧ R.length ≤ cap ∧ cap ≤ maxLen ∧ ∀ r, r < R.length → ∃ b o vr, ao = some ⟨b, o, none⟩ ∧ w.cell? ⟨b, o + r, none⟩ = some vr ∧ IntsIn w vr (R.getD r [])

theorem getD_lt {α : Type} {xs : List α} {d : α} {i : Nat} (hi : i < xs.length) : xs.getD i d = xs[i] := by
  simp [List.getD, List.getElem?_eq_getElem hi]

theorem all_true {α : Type} {p : α → Bool} {xs : List α} {d : α} (h : ∀ i, i < xs.length → p (xs.getD i d) = true) : xs.all p = true := by
  rw [List.all_eq_true]
  intro x hx
  obtain ⟨i, hi, rfl⟩ := List.mem_iff_getElem.1 hx
  have := h i hi
  rwa [getD_lt hi] at this

theorem all_false {α : Type} {p : α → Bool} {xs : List α} {d : α} {i : Nat} (hi : i < xs.length) (h : p (xs.getD i d) = false) : xs.all p = false := by
  rw [List.all_eq_false]
  refine ⟨xs.getD i d, ?_, by rw [h]; simp⟩
  rw [getD_lt hi]
  exact List.getElem_mem _

theorem all_at {α : Type} {p : α → Bool} {xs : List α} {d : α} {i : Nat} (h : xs.all p = true) (hi : i < xs.length) : p (xs.getD i d) = true := by
  rw [getD_lt hi]
  exact List.all_eq_true.1 h _ (List.getElem_mem _)

theorem hide {p : Prop} (h : p) : Hid p := h
theorem unhide {p : Prop} (h : Hid p) : p := h

theorem lt_of_cell {w : World} {a : Addr} {v : Value} (h : w.cell? a = some v) : a.block < w.heap.size := World.block_lt_of_cell? _ _ h

/-- The same numbers, the slice cut to its length. -/
theorem IntsIn.cut {w : World} {ar : Option Addr} {m cr : Nat} {xs : List Int} (h : IntsIn w (.slice ar m cr) xs) : IntsIn w (.slice ar m m) xs := by
  obtain ⟨ao, cap, e, h1, h2, h3⟩ := h
  simp only [Value.slice.injEq] at e
  obtain ⟨rfl, rfl, rfl⟩ := e
  exact ⟨_, _, rfl, Nat.le_refl _, Nat.le_trans h1 h2, h3⟩

theorem IntsIn.len {w : World} {ar : Option Addr} {m cr : Nat} {xs : List Int} (h : IntsIn w (.slice ar m cr) xs) : xs.length = m ∧ m ≤ cr ∧ cr ≤ maxLen := by
  obtain ⟨ao, cap, e, h1, h2, h3⟩ := h
  simp only [Value.slice.injEq] at e
  obtain ⟨rfl, rfl, rfl⟩ := e
  exact ⟨rfl, h1, h2⟩

/-- One number of a slice whose value is written out. -/
theorem intAt {w : World} {ar : Option Addr} {m cr : Nat} {xs : List Int} {j : Nat} (h : IntsIn w (.slice ar m cr) xs) (hj : j < m) : ∃ b o, ar = some ⟨b, o, none⟩ ∧ w.cell? ⟨b, o + j, none⟩ = some (.int .i64 (xs.getD j 0)) := by
  obtain ⟨ao, cap, e, h1, h2, h3⟩ := h
  simp only [Value.slice.injEq] at e
  obtain ⟨rfl, rfl, rfl⟩ := e
  exact h3 j hj

theorem IntsIn.below {w w' : World} {v : Value} {xs : List Int} (h : IntsIn w v xs) (hb : Below w.heap.size w w') : IntsIn w' v xs := by
  obtain ⟨ao, cap, e, h1, h2, h3⟩ := h
  refine ⟨ao, cap, e, h1, h2, fun i hi => ?_⟩
  obtain ⟨b, o, e1, hc⟩ := h3 i hi
  exact ⟨b, o, e1, (hb.cell (lt_of_cell hc)).trans hc⟩

theorem RowsIn.below {w w' : World} {v : Value} {R : List (List Int)} (h : RowsIn w v R) (hb : Below w.heap.size w w') : RowsIn w' v R := by
  obtain ⟨ao, cap, e, h1, h2, h3⟩ := h
  refine ⟨ao, cap, e, h1, h2, fun i hi => ?_⟩
  obtain ⟨b, o, vr, e1, hc, hr⟩ := h3 i hi
  exact ⟨b, o, vr, e1, (hb.cell (lt_of_cell hc)).trans hc, hr.below hb⟩

/-- One row, its value written out, its length a number of its own. -/
theorem rowAt {w : World} {ao : Option Addr} {R : List (List Int)} {k : Nat} (h : ∀ r, r < R.length → ∃ b o vr, ao = some ⟨b, o, none⟩ ∧ w.cell? ⟨b, o + r, none⟩ = some vr ∧ IntsIn w vr (R.getD r [])) (hk : k < R.length) :
    ∃ b o ar m cr, ao = some ⟨b, o, none⟩ ∧ w.cell? ⟨b, o + k, none⟩ = some (.slice ar m cr) ∧ IntsIn w (.slice ar m cr) (R.getD k []) ∧ Hid ((R.getD k []).length = m) ∧ m ≤ 9223372036854775807 := by
  obtain ⟨b, o, vr, e1, hc, hr⟩ := h k hk
  have hr' := hr
  obtain ⟨ar, cr, rfl, h1, h2, _⟩ := hr
  exact ⟨b, o, ar, _, cr, e1, hc, hr', rfl, by unfold maxLen at h2; omega⟩

theorem bcell {W w1 : World} (hb : Below W.heap.size W w1) : (∀ b o, b < W.heap.size → w1.cell? ⟨b, o, none⟩ = W.cell? ⟨b, o, none⟩) ∧ (∀ b o, b < W.heap.size → w1.frozen? ⟨b, o, none⟩ = W.frozen? ⟨b, o, none⟩) :=
  ⟨fun b o h => hb.cell (p := ⟨b, o, none⟩) h, fun b o h => hb.frozen (p := ⟨b, o, none⟩) h⟩

theorem Below.step {w w1 w2 : World} (h : Below w.heap.size w w1) (k : Below w1.heap.size w1 w2) : Below w.heap.size w w2 := h.trans (k.mono h.size)

theorem below_alloc {w w' : World} (h : Below w.heap.size w w') (o : Obj) : Below w.heap.size w (w'.alloc o) := h.alloc h.size o

/-- Block g holds three values. -/
structure Box3 (w : World) (g : Nat) (x y z : Value) : Prop where
  c0 : w.cell? ⟨g, 0, none⟩ = some x
  c1 : w.cell? ⟨g, 1, none⟩ = some y
  c2 : w.cell? ⟨g, 2, none⟩ = some z

theorem Box3.below {w w' : World} {g B : Nat} {x y z : Value} (h : Box3 w g x y z) (hb : Below B w w') (hg : g < B) : Box3 w' g x y z :=
  ⟨(hb.cell hg).trans h.c0, (hb.cell hg).trans h.c1, (hb.cell hg).trans h.c2⟩

theorem Box3.step {w w' : World} {g : Nat} {x y z : Value} (h : Box3 w g x y z) (hb : Below w.heap.size w w') : Box3 w' g x y z := h.below hb (lt_of_cell h.c0)

theorem box3_alloc (w : World) (x y z : Value) (t : TypeId) : Box3 (w.alloc (.cells #[x, y, z] t)) w.heap.size x y z := ⟨by simp, by simp, by simp⟩

theorem Below.alloc1 (w : World) (o : Obj) : Below w.heap.size w (w.alloc o) := (Below.refl _ _).alloc (Nat.le_refl _) o

/-- BLOCK g IS THE CALL's OWN (never frozen), its first cells the values vs. -/
def OwnV (w : World) (g : Nat) (vs : List Value) : Prop := ∃ c t, w.heap[g]? = some (.cells c t (0, 0)) ∧ ∀ i, i < vs.length → c[i]? = vs[i]?

namespace OwnV
variable {w w' : World} {g : Nat} {vs : List Value}

theorem cell (h : OwnV w g vs) {i : Nat} {v : Value} (hi : vs[i]? = some v) : w.cell? ⟨g, i, none⟩ = some v := by
  obtain ⟨c, t, hb, hc⟩ := h
  have hlt : i < vs.length := by
    rcases Nat.lt_or_ge i vs.length with h | h
    · exact h
    · rw [List.getElem?_eq_none h] at hi; cases hi
  simp [World.cell?, hb, hc i hlt, hi]

theorem frozen (h : OwnV w g vs) (i : Nat) : w.frozen? ⟨g, i, none⟩ = false := by
  obtain ⟨c, t, hb, _⟩ := h
  simp [World.frozen?, hb]

theorem lt (h : OwnV w g vs) : g < w.heap.size := by
  obtain ⟨c, t, hb, _⟩ := h
  obtain ⟨hlt, _⟩ := Array.getElem?_eq_some_iff.1 hb
  exact hlt

theorem of_block (h : OwnV w g vs) (e : w'.heap[g]? = w.heap[g]?) : OwnV w' g vs := by
  obtain ⟨c, t, hb, hc⟩ := h
  exact ⟨c, t, e.trans hb, hc⟩

theorem below {B : Nat} (h : OwnV w g vs) (hb : Below B w w') (hB : g < B) : OwnV w' g vs := h.of_block (hb.block g hB)

theorem set (h : OwnV w g vs) (i : Nat) (v : Value) (hi : i < vs.length) : OwnV (w.setCell ⟨g, i, none⟩ v) g (vs.set i v) := by
  obtain ⟨c, t, hb, hc⟩ := h
  refine ⟨c.setIfInBounds i v, t, ?_, fun j hj => ?_⟩
  · simp [World.setCell, Array.getElem?_modify, hb]
  · rw [List.length_set] at hj
    have hcj := hc j hj
    rw [Array.getElem?_setIfInBounds, List.getElem?_set]
    by_cases e : i = j
    · subst e
      have hsz : i < c.size := by
        have := hc i hi
        rw [List.getElem?_eq_getElem hi] at this
        exact (Array.getElem?_eq_some_iff.1 this).1
      simp [hsz, hi]
    · simp [e, hcj]

theorem other (h : OwnV w g vs) {a : Addr} (ha : g ≠ a.block) (v : Value) : OwnV (w.setCell a v) g vs := h.of_block (by
  simp only [World.setCell, Array.getElem?_modify]
  rw [if_neg (by omega)])

theorem alloc (h : OwnV w g vs) (o : Obj) : OwnV (w.alloc o) g vs := h.of_block (Below.heap_alloc _ _ _ h.lt)

theorem drew (h : OwnV w g vs) : OwnV w.drew g vs := h

end OwnV

def ints (xs : List Int) : List Value := xs.map (Value.int .i64)

theorem ints_length (xs : List Int) : (ints xs).length = xs.length := by simp [ints]

theorem ints_get (xs : List Int) {i : Nat} (h : i < xs.length) : (ints xs)[i]? = some (.int .i64 (xs.getD i 0)) := by
  simp [ints, List.getD, List.getElem?_eq_getElem h]

theorem ints_set (xs : List Int) (i : Nat) (v : Int) : (ints xs).set i (.int .i64 v) = ints (xs.set i v) := by
  simp [ints, List.map_set]

theorem OwnV.intsIn {w : World} {g cap : Nat} {xs : List Int} (h : OwnV w g (ints xs)) (hl : xs.length ≤ cap) (hm : cap ≤ maxLen) : IntsIn w (.slice (some ⟨g, 0, none⟩) xs.length cap) xs :=
  ⟨_, cap, rfl, hl, hm, fun i hi => ⟨g, 0, rfl, by rw [Nat.zero_add]; exact h.cell (ints_get xs hi)⟩⟩

theorem rowIs_ownV {w : World} {b n : Nat} {t : TypeId} {f : Nat → Value} {vs : List Value} (h : w.rowIs b t n f) (hl : vs.length = n) (hf : ∀ i, i < n → vs[i]? = some (f i)) : OwnV w b vs := by
  obtain ⟨c, hb, _, hc⟩ := h
  exact ⟨c, t, hb, fun i hi => by rw [hc i (hl ▸ hi), hf i (hl ▸ hi)]⟩

/-- The cells of a list of rows that lie in the blocks G. -/
def tops (G C : Nat → Nat) (R : List (List Int)) : List Value := (List.range R.length).map fun r => .slice (some ⟨G r, 0, none⟩) (R.getD r []).length (C r)

theorem tops_length (G C : Nat → Nat) (R : List (List Int)) : (tops G C R).length = R.length := by simp [tops]

theorem tops_get (G C : Nat → Nat) (R : List (List Int)) {r : Nat} (h : r < R.length) : (tops G C R)[r]? = some (.slice (some ⟨G r, 0, none⟩) (R.getD r []).length (C r)) := by
  simp [tops, h]

/-- A LIST OF ROWS OF THE CALL's OWN: its block g, one block a row, in rising order, all from B on. -/
structure OwnRows (B : Nat) (w : World) (g : Nat) (G C : Nat → Nat) (R : List (List Int)) : Prop where
  base : B ≤ g
  top : OwnV w g (tops G C R)
  rows : ∀ r, r < R.length → OwnV w (G r) (ints (R.getD r []))
  caps : ∀ r, r < R.length → (R.getD r []).length ≤ C r ∧ C r ≤ maxLen
  above : ∀ r, r < R.length → B ≤ G r ∧ G r ≠ g
  apart : ∀ r s, r < R.length → s < R.length → r ≠ s → G r ≠ G s

theorem OwnRows.rowsIn {B : Nat} {w : World} {g cap : Nat} {G C : Nat → Nat} {R : List (List Int)} (h : OwnRows B w g G C R) (hl : R.length ≤ cap) (hm : cap ≤ maxLen) : RowsIn w (.slice (some ⟨g, 0, none⟩) R.length cap) R :=
  ⟨_, cap, rfl, hl, hm, fun r hr => ⟨g, 0, _, rfl, by rw [Nat.zero_add]; exact h.top.cell (tops_get G C R hr), (h.rows r hr).intsIn (h.caps r hr).1 (h.caps r hr).2⟩⟩

theorem OwnRows.below {B : Nat} {w w' : World} {g : Nat} {G C : Nat → Nat} {R : List (List Int)} (h : OwnRows B w g G C R) (hb : Below w.heap.size w w') : OwnRows B w' g G C R :=
  ⟨h.base, h.top.below hb h.top.lt, fun r hr => (h.rows r hr).below hb (h.rows r hr).lt, h.caps, h.above, h.apart⟩

theorem OwnRows.mono {B B' : Nat} {w : World} {g : Nat} {G C : Nat → Nat} {R : List (List Int)} (h : OwnRows B w g G C R) (hB : B' ≤ B) : OwnRows B' w g G C R :=
  ⟨Nat.le_trans hB h.base, h.top, h.rows, h.caps, fun r hr => ⟨Nat.le_trans hB (h.above r hr).1, (h.above r hr).2⟩, h.apart⟩

theorem OwnRows.setBelow {B : Nat} {w : World} {g : Nat} {G C : Nat → Nat} {R : List (List Int)} (h : OwnRows B w g G C R) {a : Addr} (ha : a.block < B) (v : Value) : OwnRows B (w.setCell a v) g G C R :=
  ⟨h.base, h.top.other (by have := h.base; omega) v, fun r hr => (h.rows r hr).other (by have := (h.above r hr).1; omega) v, h.caps, h.above, h.apart⟩

end Go.Proofs.Ytkjikjeecjendaa

/- Own words of this claim's proofs: of what was there only some blocks have turned. -/
namespace Go.Proofs.Ytkjikjeecjendaa
open Go.RowKit

/-- Of what was there only blocks of T have turned. -/
structure Kept (T : Nat → Prop) (w w' : World) : Prop where
  os : w'.os = w.os
  tape : w'.tape = w.tape
  output : w'.output = w.output
  size : w.heap.size ≤ w'.heap.size
  block : ∀ k, k < w.heap.size → ¬ T k → w'.heap[k]? = w.heap[k]?

theorem Kept.refl (T : Nat → Prop) (w : World) : Kept T w w := ⟨rfl, rfl, rfl, Nat.le_refl _, fun _ _ _ => rfl⟩

theorem Kept.trans {T : Nat → Prop} {a b c : World} (h : Kept T a b) (k : Kept T b c) : Kept T a c :=
  ⟨k.os.trans h.os, k.tape.trans h.tape, k.output.trans h.output, Nat.le_trans h.size k.size, fun i hi ht => (k.block i (Nat.lt_of_lt_of_le hi h.size) ht).trans (h.block i hi ht)⟩

theorem Kept.mono {T T' : Nat → Prop} {w w' : World} (h : Kept T w w') (ht : ∀ k, k < w.heap.size → T k → T' k) : Kept T' w w' := ⟨h.os, h.tape, h.output, h.size, fun k hk hn => h.block k hk (fun x => hn (ht k hk x))⟩

theorem Kept.below {T : Nat → Prop} {w w' : World} {B : Nat} (h : Kept T w w') (hB : B ≤ w.heap.size) (ht : ∀ k, T k → B ≤ k) : Below B w w' :=
  ⟨h.os, h.tape, h.output, h.size, fun k hk => h.block k (by omega) (fun x => by have := ht k x; omega)⟩

theorem kept_of_below {T : Nat → Prop} {w w' : World} (h : Below w.heap.size w w') : Kept T w w' := ⟨h.os, h.tape, h.output, h.size, fun k hk _ => h.block k hk⟩

theorem Kept.setCell {T : Nat → Prop} {a w : World} (h : Kept T a w) {p : Addr} (hp : T p.block) (u : Value) : Kept T a (w.setCell p u) :=
  h.trans ⟨rfl, rfl, rfl, by simp [World.setCell], fun k _ hk => Below.heap_setCell _ _ _ _ (fun e => hk (e ▸ hp))⟩

theorem OwnV.kept {T : Nat → Prop} {w w' : World} {g : Nat} {vs : List Value} (h : OwnV w g vs) (hk : Kept T w w') (hg : ¬ T g) : OwnV w' g vs := h.of_block (hk.block g h.lt hg)

theorem Box3.kept {T : Nat → Prop} {w w' : World} {g : Nat} {x y z : Value} (h : Box3 w g x y z) (hk : Kept T w w') (hg : ¬ T g) : Box3 w' g x y z := by
  have e := hk.block g (lt_of_cell h.c0) hg
  exact ⟨(World.cell?_of_block (w := w) (a := ⟨g, 0, none⟩) e).trans h.c0, (World.cell?_of_block (w := w) (a := ⟨g, 1, none⟩) e).trans h.c1, (World.cell?_of_block (w := w) (a := ⟨g, 2, none⟩) e).trans h.c2⟩

end Go.Proofs.Ytkjikjeecjendaa

/- The cursor over a draw's bytes: what its functions l1Byte, l1Below, l1Once tell (bounds alone) and what they leave of memory. -/
namespace Go.Proofs.Ytkjikjeecjendaa
open Go.RowKit

/-- The slice value v holds n bytes in w, in blocks below B. -/
def BytesIn (B : Nat) (w : World) (v : Value) (n : Nat) : Prop :=
  ∃ ao cap, v = .slice ao n cap ∧ n ≤ cap ∧ cap ≤ maxLen ∧ ∀ i, i < n → ∃ b o x, ao = some ⟨b, o, none⟩ ∧ b < B ∧ w.cell? ⟨b, o + i, none⟩ = some (.int .u8 x) ∧ 0 ≤ x ∧ x ≤ 255

theorem BytesIn.below {B B' : Nat} {w w' : World} {v : Value} {n : Nat} (h : BytesIn B w v n) (hb : Below B' w w') (hB : B ≤ B') : BytesIn B w' v n := by
  obtain ⟨ao, cap, e, h1, h2, h3⟩ := h
  refine ⟨ao, cap, e, h1, h2, fun i hi => ?_⟩
  obtain ⟨b, o, x, e1, hlt, hc, hx⟩ := h3 i hi
  exact ⟨b, o, x, e1, hlt, (hb.cell (show b < B' by omega)).trans hc, hx⟩

/-- THE CURSOR in block cb: the bytes v, a place in them, a number. -/
def Cur (w : World) (cb : Nat) (v : Value) (n : Nat) : Prop := BytesIn cb w v n ∧ ∃ i h : Int, 0 ≤ i ∧ i ≤ n ∧ OwnV w cb [v, .int .i64 i, .int .i64 h]

theorem drewN_below (B : Nat) (w : World) (n : Nat) : Below B w (w.drewN n) := ⟨rfl, rfl, rfl, Nat.le_refl _, fun _ _ => rfl⟩

theorem Cur.drewN {w : World} {cb n : Nat} {v : Value} (h : Cur w cb v n) (q : Nat) : Cur (w.drewN q) cb v n := by
  obtain ⟨hB, i, h2, a, b, hO⟩ := h
  exact ⟨hB.below (drewN_below cb w q) (Nat.le_refl _), i, h2, a, b, hO⟩

theorem Cur.kept {T : Nat → Prop} {w w' : World} {cb n : Nat} {v : Value} (h : Cur w cb v n) (hk : Kept T w w') (hT : ∀ b, T b → cb < b) : Cur w' cb v n := by
  obtain ⟨hB, i, h2, a, b, hO⟩ := h
  refine ⟨hB.below (hk.below (Nat.le_of_lt hO.lt) (fun b hb => Nat.le_of_lt (hT b hb))) (Nat.le_refl _), i, h2, a, b, hO.kept hk (fun hb => by have := hT cb hb; omega)⟩

theorem Cur.below {w w' : World} {cb n : Nat} {v : Value} (h : Cur w cb v n) (hb : Below w.heap.size w w') : Cur w' cb v n := h.kept (T := fun _ => False) (kept_of_below hb) (fun _ h => h.elim)

theorem Cur.lt {w : World} {cb n : Nat} {v : Value} (h : Cur w cb v n) : cb < w.heap.size := by
  obtain ⟨_, _, _, _, _, hO⟩ := h
  exact hO.lt

theorem cur_step {w : World} {cb n j : Nat} {v : Value} {h2 : Int} (hB : BytesIn cb w v n) (hO : OwnV w cb [v, .int .i64 j, .int .i64 h2]) (hj : j < n) (q : Nat) : Cur ((w.drewN q).setCell ⟨cb, 1, none⟩ (.int .i64 ((j : Int) + 1))) cb v n := by
  refine ⟨hB.below ((drewN_below cb w q).setCell (Nat.le_refl _) _) (Nat.le_refl _), (j : Int) + 1, h2, by omega, by omega, ?_⟩
  have h1 : OwnV (w.drewN q) cb [v, .int .i64 j, .int .i64 h2] := hO
  exact h1.set 1 _ (by simp)

theorem and255 (a : Int) : 0 ≤ bits .and .i64 a 255 ∧ bits .and .i64 a 255 ≤ 255 := by
  have hle : (BitVec.ofInt 64 a &&& BitVec.ofInt 64 255).toNat ≤ 255 := by
    rw [BitVec.toNat_and]
    exact Nat.le_trans Nat.and_le_right (by decide)
  have e : bits .and .i64 a 255 = (((BitVec.ofInt 64 a &&& BitVec.ofInt 64 255).toNat : Nat) : Int) := by
    show IntKind.i64.wrap _ = _
    rw [IntKind.wrap_i64]
    show ((((BitVec.ofInt 64 a &&& BitVec.ofInt 64 255).toNat : Nat) : Int) + 9223372036854775808) % 18446744073709551616 - 9223372036854775808 = _
    omega
  rw [e]
  omega

set_option maxHeartbeats 800000 in
theorem l1Byte_any (cb n : Nat) (v : Value) (w : World) (h : Cur w cb v n) (hn : n ≤ 1048576) :
    Calls Try.prog 89 #[.pointer (some ⟨cb, 0, none⟩)] w fun e w' => ∃ x, e = .returned (.int .i64 x) ∧ 0 ≤ x ∧ x ≤ 255 ∧ Cur w' cb v n ∧ Kept (fun b => b = cb) w w' := by
  obtain ⟨hB, i, hh, hi0, hi1, hO⟩ := h
  obtain ⟨j, rfl⟩ := Int.eq_ofNat_of_zero_le hi0
  clear hi0
  have HB := hide hB
  obtain ⟨ao, cap, rfl, hl, hm, hc⟩ := hB
  have HC := hide hc
  unfold maxLen at hm
  have c0 := hO.cell (i := 0) rfl
  have c1 := hO.cell (i := 1) rfl
  have c2 := hO.cell (i := 2) rfl
  have f1 := hO.frozen 1
  have f2 := hO.frozen 2
  have HO := hide hO
  clear hc hO
  go_enter Try.func89, Try.ntmps89
  go_wp2
  obtain ⟨h2, eh2⟩ : ∃ h2, h2 = wrap64 (wrap64 (hh * 6364136223846793005) + 1442695040888963407) := ⟨_, rfl⟩
  rw [← eh2]
  clear eh2
  obtain ⟨W1, eW⟩ : ∃ W, W = w.setCell ⟨cb, 2, none⟩ (.int .i64 h2) := ⟨_, rfl⟩
  rw [← eW]
  have hO1 : OwnV W1 cb [.slice ao n cap, .int .i64 j, .int .i64 h2] := by rw [eW]; exact (unhide HO).set 2 _ (by simp)
  have HK1 : Hid (Kept (fun b => b = cb) w W1) := by show Kept _ _ _; rw [eW]; exact (Kept.refl (fun b => b = cb) w).setCell (p := ⟨cb, 2, none⟩) rfl _
  have HB1 : Hid (BytesIn cb W1 (.slice ao n cap) n) := (unhide HB).below ((unhide HK1).below (Nat.le_of_lt hO1.lt |> fun h => by rw [eW] at h; simpa [World.setCell] using h) (fun b e => by omega)) (Nat.le_refl _)
  clear c0 c1 c2 f1 f2 eW
  have c0 := hO1.cell (i := 0) rfl
  have c1 := hO1.cell (i := 1) rfl
  have c2 := hO1.cell (i := 2) rfl
  have f1 := hO1.frozen 1
  have HO1 := hide hO1
  clear hO1
  go_quiet (fail)
  go_wp2
  have hx := and255 (bits BinOp.xor IntKind.i64 (h2 / 8589934592) (h2 / 35184372088832))
  generalize bits BinOp.and IntKind.i64 (bits BinOp.xor IntKind.i64 (h2 / 8589934592) (h2 / 35184372088832)) 255 = x0 at *
  generalize bits BinOp.xor IntKind.i64 (h2 / 8589934592) (h2 / 35184372088832) = x1 at *
  obtain ⟨hx1, hx2⟩ := hx
  by_cases hjn : j < n
  · have hjn' : (j : Int) < (n : Int) := by omega
    obtain ⟨ao', cap', ev, _, _, hcs⟩ := unhide HB1
    simp only [Value.slice.injEq, true_and] at ev
    obtain ⟨rfl, rfl⟩ := ev
    obtain ⟨b, o, y, rfl, hlt, hcell, hy1, hy2⟩ := hcs j hjn
    clear hcs
    go_quiet (fail)
    go_wp2
    go_quiet (fail)
    have hz := and255 (x0 + y)
    generalize bits BinOp.and IntKind.i64 (x0 + y) 255 = z at *
    obtain ⟨hz1, hz2⟩ := hz
    go_wp2
    go_ret
    exact ⟨z, rfl, hz1, hz2, cur_step (unhide HB1) (unhide HO1) hjn _, ((unhide HK1).trans (kept_of_below (drewN_below _ _ _))).setCell rfl _⟩
  · have hjn' : decide ((j : Int) < (n : Int)) = false := by simp; omega
    go_quiet (fail)
    go_wp2
    go_ret
    have hcur : Cur W1 cb (.slice ao n cap) n := ⟨unhide HB1, j, h2, by omega, hi1, unhide HO1⟩
    exact ⟨x0, rfl, hx1, hx2, (hcur.drewN _).drewN _, ((unhide HK1).trans (kept_of_below (drewN_below _ _ _))).trans (kept_of_below (drewN_below _ _ _))⟩

set_option maxHeartbeats 800000 in
theorem l1Below_any (cb n : Nat) (v : Value) (k : Int) (w : World) (h : Cur w cb v n) (hn : n ≤ 1048576) (hk0 : 1 ≤ k) (hk1 : k ≤ 256) :
    Calls Try.prog 78 #[.pointer (some ⟨cb, 0, none⟩), .int .i64 k] w fun e w' => ∃ x, e = .returned (.int .i64 x) ∧ 0 ≤ x ∧ x < k ∧ Cur w' cb v n ∧ Kept (fun b => b = cb) w w' := by
  have HB := hide (l1Byte_any cb n v w h hn)
  clear h
  go_enter Try.func78, Try.ntmps78
  go_wp2_with fail
  refine (unhide HB).mono ?_
  rintro e w1 ⟨x, rfl, hx0, hx1, hc, hK⟩
  have HC := hide hc
  have HK := hide hK
  clear hc hK HB
  go_wp2
  go_ret
  exact ⟨_, rfl, Int.emod_nonneg _ (by omega), Int.emod_lt_of_pos _ (by omega), unhide HC, unhide HK⟩

set_option maxHeartbeats 800000 in
theorem l1Once_any (cb n : Nat) (v : Value) (k : Int) (w : World) (h : Cur w cb v n) (hn : n ≤ 1048576) (hk0 : 1 ≤ k) (hk1 : k ≤ 256) :
    Calls Try.prog 81 #[.pointer (some ⟨cb, 0, none⟩), .int .i64 k] w fun e w' => ∃ b, e = .returned (.bool b) ∧ Cur w' cb v n ∧ Kept (fun b => b = cb) w w' := by
  have HB := hide (l1Below_any cb n v k w h hn hk0 hk1)
  clear h
  go_enter Try.func81, Try.ntmps81
  go_wp2_with fail
  refine (unhide HB).mono ?_
  rintro e w1 ⟨x, rfl, hx0, hx1, hc, hK⟩
  have HC := hide hc
  have HK := hide hK
  clear hc hK HB
  go_wp2
  go_ret
  exact ⟨_, rfl, unhide HC, unhide HK⟩

end Go.Proofs.Ytkjikjeecjendaa

/- Contracts of the laws' own big and at. -/
namespace Go.Proofs.Ytkjikjeecjendaa
open Go.RowKit

set_option maxHeartbeats 400000 in
theorem big_any (ao : Option Addr) (n cap : Nat) (w : World) : Calls Try.prog 13 #[.slice ao n cap] w fun e w' => e = .returned (.bool (decide ((1048576 : Int) < (n : Int)))) ∧ w = w' := by
  go_enter Try.func13, Try.ntmps13
  go_wp2
  go_ret
  exact ⟨rfl, rfl⟩

set_option maxHeartbeats 400000 in
theorem at_any (v : Value) (n : Nat) (B : Nat) (k : Nat) (w : World) (h : BytesIn B w v n) (hn : n ≤ 1048576) (hk : k ≤ 1000) :
    Calls Try.prog 19 #[v, .int .i64 k] w fun e w' => ∃ x, e = .returned (.int .i64 x) ∧ 0 ≤ x ∧ x ≤ 255 ∧ w = w' := by
  obtain ⟨ao, cap, rfl, _, _, hc⟩ := h
  by_cases hkn : k < n
  · have hkn' : (k : Int) < (n : Int) := by omega
    obtain ⟨b, o, y, rfl, _, hcell, hy1, hy2⟩ := hc k hkn
    clear hc
    go_enter Try.func19, Try.ntmps19
    go_wp2
    go_ret
    exact ⟨_, rfl, hy1, hy2, rfl⟩
  · have hkn' : (n : Int) ≤ (k : Int) := by omega
    clear hc
    go_enter Try.func19, Try.ntmps19
    go_wp2
    go_ret
    exact ⟨_, rfl, by omega, by omega, rfl⟩

end Go.Proofs.Ytkjikjeecjendaa

/- Own words: a slice of flat records (n cells each, each cell told by 'enc'), read in a world; such a slice in new memory of the call's own. No statement about the program stands here. -/
namespace Go.Proofs.Ytkjikjeecjendaa
open Go.RowKit

/-- The slice value v holds the records L in w: n cells each, cell j of a record x being 'enc x j'. -/
def RecsIn {α : Type} [Inhabited α] (n : Nat) (enc : α → Nat → Value) (w : World) (v : Value) (L : List α) : Prop :=
  ∃ ao cap, v = .slice ao L.length cap ∧ L.length ≤ cap ∧ cap ≤ maxLen ∧ ∀ i, i < L.length → ∃ b o, ao = some ⟨b, o, none⟩ ∧ ∀ j, j < n → w.cell? ⟨b, o + (i * n + j), none⟩ = some (enc (L.getD i default) j)

section
variable {α : Type} [Inhabited α] {n : Nat} {enc : α → Nat → Value} {w w' : World} {v : Value} {L : List α}

theorem RecsIn.below (h : RecsIn n enc w v L) (hb : Below w.heap.size w w') : RecsIn n enc w' v L := by
  obtain ⟨ao, cap, e, h1, h2, h3⟩ := h
  refine ⟨ao, cap, e, h1, h2, fun i hi => ?_⟩
  obtain ⟨b, o, e1, hc⟩ := h3 i hi
  exact ⟨b, o, e1, fun j hj => (hb.cell (lt_of_cell (hc j hj))).trans (hc j hj)⟩

/-- The cells of records in a row. -/
def recCells (n : Nat) (enc : α → Nat → Value) (L : List α) : List Value := (List.range (L.length * n)).map fun k => enc (L.getD (k / n) default) (k % n)

theorem recCells_length : (recCells n enc L).length = L.length * n := by simp [recCells]

theorem rec_place {i j n : Nat} (hj : j < n) : (i * n + j) / n = i ∧ (i * n + j) % n = j := by
  have hn : 0 < n := by omega
  constructor
  · rw [Nat.add_comm, Nat.add_mul_div_right _ _ hn, Nat.div_eq_of_lt hj, Nat.zero_add]
  · rw [Nat.add_comm, Nat.add_mul_mod_self_right, Nat.mod_eq_of_lt hj]

theorem rec_lt {i j n m : Nat} (hi : i < m) (hj : j < n) : i * n + j < m * n := by
  have : (i + 1) * n ≤ m * n := Nat.mul_le_mul_right n (by omega)
  rw [Nat.succ_mul] at this
  omega

theorem recCells_get {i j : Nat} (hi : i < L.length) (hj : j < n) : (recCells n enc L)[i * n + j]? = some (enc (L.getD i default) j) := by
  have h := rec_lt hi hj
  simp [recCells, List.getElem?_range h, (rec_place (i := i) hj).1, (rec_place (i := i) hj).2]

theorem OwnV.recsIn {g cap : Nat} (h : OwnV w g (recCells n enc L)) (hl : L.length ≤ cap) (hm : cap ≤ maxLen) : RecsIn n enc w (.slice (some ⟨g, 0, none⟩) L.length cap) L :=
  ⟨_, cap, rfl, hl, hm, fun i hi => ⟨g, 0, rfl, fun j hj => by rw [Nat.zero_add]; exact h.cell (recCells_get hi hj)⟩⟩

theorem recsIn_nil : RecsIn n enc w (.slice none 0 0) ([] : List α) := ⟨none, 0, rfl, Nat.le_refl _, Nat.zero_le _, fun i hi => by simp at hi⟩

end

/-- make of k records. -/
theorem run_make_recs {P : Program} (t e : TypeId) (z : Value) (n bytes : Nat) (ht : P.underlying t = some (.slice e)) (hinfo : (P.info? e).map (fun i => (i.zero, i.size, i.bytes)) = some (some z, n, bytes))
    (kl kc : IntKind) (k : Nat) (hbytes : bytes * k ≤ 281474976710656) (h63 : k ≤ 9223372036854775807) (w : World) :
    (Instr.makeSlice t (.int kl (k : Int)) (.int kc (k : Int))).run P w = .ok (.slice (some ⟨w.heap.size, 0, none⟩) k k) (w.alloc (.cells (madeCells z.cells (k * n)) e)) := by
  obtain ⟨i, hi, hzz⟩ := Option.map_eq_some_iff.1 hinfo
  simp only [Prod.mk.injEq] at hzz
  obtain ⟨hz, hs, hb⟩ := hzz
  have hb' : (i.bytes : Int) * (k : Int) ≤ 281474976710656 := by
    have h : ((i.bytes * k : Nat) : Int) ≤ 281474976710656 := by rw [hb]; omega
    rwa [Int.natCast_mul] at h
  have hr := run_make (P := P) w t e i z ht hi hz kl kc k k (by omega) (Int.le_refl _) hb' (by omega)
  simp only [Int.toNat_natCast, hs] at hr
  exact hr

/-- Three numbers; two numbers. -/
abbrev I3 := Int × Int × Int
abbrev I2 := Int × Int
def e3 (x : I3) : Nat → Value
  | 0 => .int .i64 x.1
  | 1 => .int .i64 x.2.1
  | _ => .int .i64 x.2.2
def e2 (x : I2) : Nat → Value
  | 0 => .int .i64 x.1
  | _ => .int .i64 x.2
abbrev v3 (x : I3) : Value := .agg #[.int .i64 x.1, .int .i64 x.2.1, .int .i64 x.2.2]
abbrev v2 (x : I2) : Value := .agg #[.int .i64 x.1, .int .i64 x.2]
abbrev R3 := RecsIn 3 e3
abbrev R2 := RecsIn 2 e2

/-- One record of three, its cells written out, its three numbers as numbers of their own. -/
theorem rec3At {w : World} {ao : Option Addr} {L : List I3} {k : Nat} (h : ∀ i, i < L.length → ∃ b o, ao = some ⟨b, o, none⟩ ∧ ∀ j, j < 3 → w.cell? ⟨b, o + (i * 3 + j), none⟩ = some (e3 (L.getD i default) j)) (hk : k < L.length) :
    ∃ b o x y z, ao = some ⟨b, o, none⟩ ∧ w.cell? ⟨b, o + k * 3, none⟩ = some (.int .i64 x) ∧ w.cell? ⟨b, o + k * 3 + 1, none⟩ = some (.int .i64 y) ∧ w.cell? ⟨b, o + k * 3 + 2, none⟩ = some (.int .i64 z) ∧ Hid (L.getD k default = (x, y, z)) := by
  obtain ⟨b, o, e, hc⟩ := h k hk
  exact ⟨b, o, _, _, _, e, hc 0 (by omega), hc 1 (by omega), hc 2 (by omega), rfl⟩

theorem rec2At {w : World} {ao : Option Addr} {L : List I2} {k : Nat} (h : ∀ i, i < L.length → ∃ b o, ao = some ⟨b, o, none⟩ ∧ ∀ j, j < 2 → w.cell? ⟨b, o + (i * 2 + j), none⟩ = some (e2 (L.getD i default) j)) (hk : k < L.length) :
    ∃ b o x y, ao = some ⟨b, o, none⟩ ∧ w.cell? ⟨b, o + k * 2, none⟩ = some (.int .i64 x) ∧ w.cell? ⟨b, o + k * 2 + 1, none⟩ = some (.int .i64 y) ∧ Hid (L.getD k default = (x, y)) := by
  obtain ⟨b, o, e, hc⟩ := h k hk
  exact ⟨b, o, _, _, e, hc 0 (by omega), hc 1 (by omega), rfl⟩

theorem wcell3 {w w' : World} {b o : Nat} {v : Value} (h : w.cell? ⟨b, o, none⟩ = some v) (hb : Below w.heap.size w w') : w'.cell? ⟨b, o, none⟩ = some v := (hb.cell (lt_of_cell h)).trans h

/-- A new row of records in the block that w had next, the first m of its cells filled. -/
def FillC {α : Type} [Inhabited α] (n : Nat) (enc : α → Nat → Value) (w wr : World) (L : List α) (m : Nat) : Prop :=
  Below w.heap.size w wr ∧ ∃ c t, wr.heap[w.heap.size]? = some (.cells c t (0, 0)) ∧ c.size = L.length * n ∧ ∀ q, q < m → c[q]? = some (enc (L.getD (q / n) default) (q % n))

namespace FillC
variable {α : Type} [Inhabited α] {n : Nat} {enc : α → Nat → Value} {w wr w1 : World} {L : List α} {m : Nat}

theorem start (w : World) (L : List α) (z : Array Value) (t : TypeId) : FillC n enc w (w.alloc (.cells (madeCells z (L.length * n)) t)) L 0 :=
  ⟨(Below.refl _ _).alloc (Nat.le_refl _) _, _, t, Deep.blk_alloc_new _ _, size_madeCells _ _, fun q hq => by omega⟩

theorem below (h : FillC n enc w wr L m) : Below w.heap.size w wr := h.1

theorem lt (h : FillC n enc w wr L m) : w.heap.size < wr.heap.size := by
  obtain ⟨_, c, t, hb, _⟩ := h
  exact (Array.getElem?_eq_some_iff.1 hb).1

theorem grow (h : FillC n enc w wr L m) (hb : Below wr.heap.size wr w1) : FillC n enc w w1 L m := by
  have hlt := h.lt
  obtain ⟨h0, c, t, h1, h2, h3⟩ := h
  exact ⟨Below.step h0 hb, c, t, (hb.block _ hlt).trans h1, h2, h3⟩

theorem frozen (h : FillC n enc w wr L m) (j : Nat) : wr.frozen? ⟨w.heap.size, j, none⟩ = false := by
  obtain ⟨_, c, t, hb, _⟩ := h
  simp [World.frozen?, hb]

theorem cell (h : FillC n enc w wr L m) {q : Nat} (hq : q < L.length * n) : ∃ u, wr.cell? ⟨w.heap.size, q, none⟩ = some u := by
  obtain ⟨_, c, t, hb, hs, _⟩ := h
  have : q < c.size := by omega
  exact ⟨c[q], by simp [World.cell?, hb, this]⟩

theorem set (h : FillC n enc w wr L m) {v : Value} (hm : m < L.length * n) (hv : enc (L.getD (m / n) default) (m % n) = v) : FillC n enc w (wr.setCell ⟨w.heap.size, m, none⟩ v) L (m + 1) := by
  have hlt := h.lt
  obtain ⟨h0, c, t, h1, h2, h3⟩ := h
  refine ⟨h0.setCell (Nat.le_refl _) _, c.setIfInBounds m v, t, ?_, by simpa using h2, fun q hq => ?_⟩
  · simp [World.setCell, Array.getElem?_modify, h1]
  · rw [Array.getElem?_setIfInBounds]
    by_cases e : m = q
    · subst e
      rw [if_pos rfl, if_pos (by omega), hv]
    · rw [if_neg e]
      exact h3 q (by omega)

theorem done (h : FillC n enc w wr L (L.length * n)) : OwnV wr w.heap.size (recCells n enc L) := by
  obtain ⟨_, c, t, h1, h2, h3⟩ := h
  refine ⟨c, t, h1, fun i hi => ?_⟩
  rw [recCells_length] at hi
  rw [h3 i hi]
  simp [recCells, List.getElem?_range hi]

end FillC

/-- What a sz function tells: where it is not below 0 the list is not longer than 2^20. -/
def SizedL (n : Nat) (r : Int) : Prop := -1 ≤ r ∧ r ≤ 1048576 ∧ (0 ≤ r → n ≤ 1048576)

/-- Block g has N cells of the call's own, the first m of them marked from k on. -/
def MarkC (g : Nat) (k : Int) (N m : Nat) (w : World) : Prop := ∃ c t, w.heap[g]? = some (.cells c t (0, 0)) ∧ N ≤ c.size ∧ ∀ q : Nat, q < m → c[q]? = some (.int .i64 (k + (q : Int)))

namespace MarkC
variable {g N m : Nat} {k : Int} {w w' : World}

theorem start {vs : List Value} (h : OwnV w g vs) (hN : N ≤ vs.length) : MarkC g k N 0 w := by
  obtain ⟨c, t, hb, hc⟩ := h
  refine ⟨c, t, hb, ?_, fun q hq => by omega⟩
  rcases Nat.lt_or_ge c.size N with hlt | hge
  · have h1 := hc c.size (by omega)
    rw [List.getElem?_eq_getElem (by omega)] at h1
    simp at h1
  · exact hge

theorem frozen (h : MarkC g k N m w) (j : Nat) : w.frozen? ⟨g, j, none⟩ = false := by
  obtain ⟨c, t, hb, _⟩ := h
  simp [World.frozen?, hb]

theorem cell (h : MarkC g k N m w) {q : Nat} (hq : q < N) : ∃ u, w.cell? ⟨g, q, none⟩ = some u := by
  obtain ⟨c, t, hb, hs, _⟩ := h
  have : q < c.size := by omega
  exact ⟨c[q], by simp [World.cell?, hb, this]⟩

theorem set (h : MarkC g k N m w) (hm : m < N) {v : Int} (hv : v = k + (m : Int)) : MarkC g k N (m + 1) (w.setCell ⟨g, m, none⟩ (.int .i64 v)) := by
  subst hv
  obtain ⟨c, t, h1, h2, h3⟩ := h
  refine ⟨c.setIfInBounds m (.int .i64 (k + (m : Int))), t, ?_, by simpa using h2, fun q hq => ?_⟩
  · simp [World.setCell, Array.getElem?_modify, h1]
  · rw [Array.getElem?_setIfInBounds]
    by_cases e : m = q
    · subst e
      rw [if_pos rfl, if_pos (by omega)]
    · rw [if_neg e]
      exact h3 q (by omega)

theorem done (h : MarkC g k N N w) : OwnV w g (ints ((List.range N).map fun i : Nat => k + (i : Int))) := by
  obtain ⟨c, t, h1, h2, h3⟩ := h
  refine ⟨c, t, h1, fun i hi => ?_⟩
  have hi' : i < N := by simpa [ints] using hi
  rw [h3 i hi']
  simp [ints, hi']

end MarkC

theorem marked_cell {w : World} {g N q : Nat} {k : Int} (h : OwnV w g (ints ((List.range N).map fun i : Nat => k + (i : Int)))) (hq : q < N) : w.cell? ⟨g, q, none⟩ = some (.int .i64 (k + (q : Int))) :=
  h.cell (by simp [ints, hq])

end Go.Proofs.Ytkjikjeecjendaa

/- Lists whose elements take one cell each, of the call's own, between two marks of memory. No statement about the program stands here. -/
namespace Go.Proofs.Ytkjikjeecjendaa
open Go.RowKit

section
variable {α : Type} {E : α → Value}

/-- The slice value v holds the elements L in w. -/
def CIn [Inhabited α] (E : α → Value) (w : World) (v : Value) (L : List α) : Prop :=
  ∃ ao cap, v = .slice ao L.length cap ∧ L.length ≤ cap ∧ cap ≤ maxLen ∧ ∀ i, i < L.length → ∃ b o, ao = some ⟨b, o, none⟩ ∧ w.cell? ⟨b, o + i, none⟩ = some (E (L.getD i default))

theorem CIn.below [Inhabited α] {w w' : World} {v : Value} {L : List α} (h : CIn E w v L) (hb : Below w.heap.size w w') : CIn E w' v L := by
  obtain ⟨ao, cap, e, h1, h2, h3⟩ := h
  refine ⟨ao, cap, e, h1, h2, fun i hi => ?_⟩
  obtain ⟨b, o, e1, hc⟩ := h3 i hi
  exact ⟨b, o, e1, (hb.cell (lt_of_cell hc)).trans hc⟩

theorem map_get [Inhabited α] (L : List α) {i : Nat} (h : i < L.length) : (L.map E)[i]? = some (E (L.getD i default)) := by
  simp [List.getD, List.getElem?_eq_getElem h]
theorem OwnV.cIn [Inhabited α] {w : World} {g cap : Nat} {L : List α} (h : OwnV w g (L.map E)) (hl : L.length ≤ cap) (hm : cap ≤ maxLen) : CIn E w (.slice (some ⟨g, 0, none⟩) L.length cap) L :=
  ⟨_, cap, rfl, hl, hm, fun i hi => ⟨g, 0, rfl, by rw [Nat.zero_add]; exact h.cell (map_get L hi)⟩⟩

/-- Of the call's own: the block, where there is an element, from B on (and below U). -/
def OwnC (E : α → Value) (B : Nat) (w : World) (v : Value) (L : List α) : Prop :=
  ∃ ao cap, v = .slice ao L.length cap ∧ L.length ≤ cap ∧ cap ≤ maxLen ∧ (L ≠ [] → ∃ g, ao = some ⟨g, 0, none⟩ ∧ B ≤ g ∧ OwnV w g (L.map E))
def OwnCU (E : α → Value) (B U : Nat) (w : World) (v : Value) (L : List α) : Prop :=
  ∃ ao cap, v = .slice ao L.length cap ∧ L.length ≤ cap ∧ cap ≤ maxLen ∧ (L ≠ [] → ∃ g, ao = some ⟨g, 0, none⟩ ∧ B ≤ g ∧ g < U ∧ OwnV w g (L.map E))

theorem OwnC.mono {B B' : Nat} {w : World} {v : Value} {L : List α} (h : OwnC E B w v L) (hB : B' ≤ B) : OwnC E B' w v L := by
  obtain ⟨ao, cap, rfl, h1, h2, h3⟩ := h
  refine ⟨ao, cap, rfl, h1, h2, fun hne => ?_⟩
  obtain ⟨g, rfl, hg, ho⟩ := h3 hne
  exact ⟨g, rfl, by omega, ho⟩

theorem OwnC.upto {B : Nat} {w : World} {v : Value} {L : List α} (h : OwnC E B w v L) : OwnCU E B w.heap.size w v L := by
  obtain ⟨ao, cap, rfl, h1, h2, h3⟩ := h
  refine ⟨ao, cap, rfl, h1, h2, fun hne => ?_⟩
  obtain ⟨g, rfl, hg, ho⟩ := h3 hne
  exact ⟨g, rfl, hg, ho.lt, ho⟩

theorem OwnCU.inn [Inhabited α] {B U : Nat} {w : World} {v : Value} {L : List α} (h : OwnCU E B U w v L) : CIn E w v L := by
  obtain ⟨ao, cap, rfl, h1, h2, h3⟩ := h
  refine ⟨ao, cap, rfl, h1, h2, fun i hi => ?_⟩
  obtain ⟨g, rfl, _, _, ho⟩ := h3 (fun e => by rw [e] at hi; simp at hi)
  exact ⟨g, 0, rfl, by rw [Nat.zero_add]; exact ho.cell (map_get L hi)⟩

theorem OwnC.intsIn [Inhabited α] {B : Nat} {w : World} {v : Value} {L : List α} (h : OwnC E B w v L) : CIn E w v L := h.upto.inn

theorem OwnCU.below {B U : Nat} {w w' : World} {v : Value} {L : List α} (h : OwnCU E B U w v L) (hb : Below w.heap.size w w') : OwnCU E B U w' v L := by
  obtain ⟨ao, cap, rfl, h1, h2, h3⟩ := h
  refine ⟨ao, cap, rfl, h1, h2, fun hne => ?_⟩
  obtain ⟨g, rfl, hg, hu, ho⟩ := h3 hne
  exact ⟨g, rfl, hg, hu, ho.below hb ho.lt⟩

theorem OwnCU.kept {T : Nat → Prop} {B U : Nat} {w w' : World} {v : Value} {L : List α} (h : OwnCU E B U w v L) (hk : Kept T w w') (hT : ∀ b, B ≤ b → b < U → ¬ T b) : OwnCU E B U w' v L := by
  obtain ⟨ao, cap, rfl, h1, h2, h3⟩ := h
  refine ⟨ao, cap, rfl, h1, h2, fun hne => ?_⟩
  obtain ⟨g, rfl, hg, hu, ho⟩ := h3 hne
  exact ⟨g, rfl, hg, hu, ho.kept hk (hT g hg hu)⟩

/-- A row that was appended to. -/
theorem ownsRow_ownC {w : World} {base : Nat} {e : TypeId} {v : Value} {n : Nat} {L : List α} (h : w.ownsRow base e 1 v n (L.map E)) (hn : L.length = n) : OwnC E base w v L := by
  obtain ⟨h1, h2⟩ := h
  rcases h2 with ⟨rfl, h0⟩ | ⟨g, cap, cur, rfl, hg, hh, hc, hm, hs, ht⟩
  · have : L = [] := List.length_eq_zero_iff.1 (by omega)
    subst this
    exact ⟨none, 0, rfl, Nat.le_refl _, Nat.zero_le _, fun h => absurd rfl h⟩
  · subst hn
    refine ⟨_, cap, rfl, hc, hm, fun _ => ⟨g, rfl, hg, cur, e, hh, fun i hi => ?_⟩⟩
    rw [List.length_map] at hi
    rw [← ht]
    simp [hi]

/-- What is left of L behind j marks. -/
def midL [Inhabited α] (f : Nat → α) (L : List α) (j : Nat) : List α := (List.range L.length).map fun i => if i < j then f i else L.getD i default
def marksL (f : Nat → α) (n : Nat) : List α := (List.range n).map f
theorem marksL_len (f : Nat → α) (n : Nat) : (marksL f n).length = n := by simp [marksL]
theorem marksL_get [Inhabited α] (f : Nat → α) {n i : Nat} (h : i < n) : (marksL f n).getD i default = f i := by simp [marksL, List.getD, h]
theorem midL_len [Inhabited α] (f : Nat → α) (L : List α) (j : Nat) : (midL f L j).length = L.length := by simp [midL]
theorem midL_zero [Inhabited α] (f : Nat → α) (L : List α) : midL f L 0 = L := by
  apply List.ext_getElem
  · simp [midL]
  · intro i h1 h2
    simp [midL, List.getD, h2]
theorem midL_done [Inhabited α] (f : Nat → α) (L : List α) : midL f L L.length = marksL f L.length := by
  apply List.ext_getElem
  · simp [midL, marksL]
  · intro i h1 h2
    have : i < L.length := by simpa [midL] using h1
    simp [midL, marksL, this]
theorem midL_step [Inhabited α] (f : Nat → α) (L : List α) (j : Nat) : (midL f L j).set j (f j) = midL f L (j + 1) := by
  apply List.ext_getElem
  · simp [midL]
  · intro i h1 h2
    rw [List.getElem_set]
    by_cases e : j = i
    · subst e; simp [midL]
    · rw [if_neg e]
      have : (i < j) ↔ (i < j + 1) := by omega
      simp [midL, this]
end

end Go.Proofs.Ytkjikjeecjendaa

/- Contracts of the laws' own helpers: szIntS, szIntSS, szHull (what they return and what they leave of memory). -/
namespace Go.Proofs.Ytkjikjeecjendaa
open Go.RowKit

set_option maxHeartbeats 400000 in
theorem szIntS_no (v : Value) (xs : List Int) (left : Int) (w : World) (h : IntsIn w v xs) (h0 : 0 ≤ left) (h1 : left ≤ 1048576) (hlt : left < (xs.length : Int)) :
    Calls Try.prog 88 #[v, .int .i64 left] w fun e w' => e = .returned (.int .i64 (-1)) ∧ w = w' := by
  obtain ⟨ao, cap, rfl, hl, hm, hc⟩ := h
  clear hc
  unfold maxLen at hm
  generalize xs.length = n at *
  go_enter Try.func88, Try.ntmps88
  go_wp2
  go_ret
  exact ⟨rfl, rfl⟩

set_option maxHeartbeats 400000 in
theorem szIntS_yes (v : Value) (xs : List Int) (left : Int) (w : World) (h : IntsIn w v xs) (h1 : left ≤ 1048576) (hlt : (xs.length : Int) ≤ left) :
    Calls Try.prog 88 #[v, .int .i64 left] w fun e w' => e = .returned (.int .i64 (left - xs.length)) ∧ w = w' := by
  obtain ⟨ao, cap, rfl, hl, hm, hc⟩ := h
  clear hc
  unfold maxLen at hm
  generalize xs.length = n at *
  go_enter Try.func88, Try.ntmps88
  go_wp2
  go_ret
  exact ⟨rfl, rfl⟩

/-- What szIntSS tells: where it is not below 0 neither the list nor a row of it is longer than 2^20. -/
def Sized (R : List (List Int)) (r : Int) : Prop := -1 ≤ r ∧ r ≤ 1048576 ∧ (0 ≤ r → R.length ≤ 1048576 ∧ ∀ i, i < R.length → (R.getD i []).length ≤ 1048576)

/-- A hull's value: its three fields. -/
abbrev hullV (step rise : Int) (v : Value) : Value := .agg #[.int .i64 step, .int .i64 rise, v]

end Go.Proofs.Ytkjikjeecjendaa

/- Contracts of the laws' own copiers: toIntS, toIntSS, toHull: new memory that holds the same numbers, one block a row. -/
namespace Go.Proofs.Ytkjikjeecjendaa
open Go.RowKit

theorem Try.info3 : (Try.prog.info? 3).map (fun i => (i.zero, i.size, i.bytes)) = some (some (.int .i64 0), 1, 8) := by kernel_rfl
theorem Try.info34 : (Try.prog.info? 34).map (fun i => (i.zero, i.size, i.bytes)) = some (some (.slice none 0 0), 1, 24) := by kernel_rfl

/-- The new row, k of its cells filled. -/
structure Fill (w wr : World) (xs : List Int) (k : Nat) : Prop where
  below : Below w.heap.size w wr
  size : wr.heap.size = w.heap.size + 1
  row : wr.rowIs w.heap.size 3 xs.length (fun i => if i < k then .int .i64 (xs.getD i 0) else .int .i64 0)

theorem fill_start (w : World) (xs : List Int) : Fill w (w.alloc (.cells (madeCells #[.int .i64 0] xs.length) 3)) xs 0 :=
  ⟨(Below.refl _ _).alloc (Nat.le_refl _) _, by simp, (World.rowIs_made w _ xs.length 3).congr (fun j _ => by simp)⟩

theorem fill_step {w wr : World} {xs : List Int} {k : Nat} (h : Fill w wr xs k) : Fill w (wr.setCell ⟨w.heap.size, k, none⟩ (.int .i64 (xs.getD k 0))) xs (k + 1) := by
  refine ⟨h.below.setCell (Nat.le_refl _) _, by simp [h.size], (h.row.set k _).congr (fun i _ => ?_)⟩
  by_cases e : i = k
  · subst e; simp
  · rw [if_neg e]
    by_cases hlt : i < k
    · rw [if_pos hlt, if_pos (by omega)]
    · rw [if_neg hlt, if_neg (by omega)]

theorem fill_done {w wr : World} {xs : List Int} (h : Fill w wr xs xs.length) : OwnV wr w.heap.size (ints xs) :=
  rowIs_ownV h.row (ints_length xs) (fun i hi => by rw [ints_get xs hi, if_pos hi])

set_option maxHeartbeats 400000 in
theorem toIntS_any (v : Value) (xs : List Int) (w : World) (h : IntsIn w v xs) (hs : xs.length ≤ 1048576) :
    Calls Try.prog 47 #[v] w fun e w' => e = .returned (.slice (some ⟨w.heap.size, 0, none⟩) xs.length xs.length) ∧ OwnV w' w.heap.size (ints xs) ∧ Below w.heap.size w w' ∧ w'.heap.size = w.heap.size + 1 := by
  obtain ⟨ao, cap, rfl, hl, hm, hc⟩ := h
  clear hl hm
  have HC := hide hc
  clear hc
  have hmk := run_make_row' (P := Try.prog) 34 3 (.int .i64 0) 8 Try.underlying34 Try.info3 rfl .i64 .i64 xs.length (by omega) (by omega)
  go_enter Try.func47, Try.ntmps47
  go_wp2
  clear hmk
  go_loopg [4] xs.length (fun g i wr => ∃ k : Nat, k ≤ xs.length ∧ g = xs.length - k ∧ i = .int .i64 k ∧ Fill w wr xs k)
  case atStart => exact ⟨0, Nat.zero_le _, rfl, rfl, fill_start w xs⟩
  case round =>
    obtain ⟨k, hk, rfl, rfl, hF⟩ := hrel
    by_cases hkn : k < xs.length
    · obtain ⟨b, o, rfl, hcell⟩ := unhide HC k hkn
      have g1 : wr.cell? ⟨b, o + k, none⟩ = some (.int .i64 (xs.getD k 0)) := (hF.below.cell (lt_of_cell hcell)).trans hcell
      have g2 : wr.cell? ⟨w.heap.size, k, none⟩ = some (.int .i64 0) := by simpa using hF.row.cell hkn
      have g3 : wr.frozen? ⟨w.heap.size, k, none⟩ = false := hF.row.frozen k
      have hst := fill_step hF
      clear hcell hF
      have HF := hide hst
      clear hst
      generalize xs.getD k 0 = x at *
      go_wp2
      go_roundg (xs.length - (k + 1))
      case measure => omega
      case rel => exact ⟨k + 1, by omega, rfl, by go_num, unhide HF⟩
    · have hkk : k = xs.length := by omega
      subst hkk
      go_wp2
      go_ret
      exact ⟨rfl, fill_done hF, hF.below, hF.size⟩

/-- The new list of rows, k of them made. -/
structure FillR (w wr : World) (R : List (List Int)) (k : Nat) : Prop where
  below : Below w.heap.size w wr
  size : wr.heap.size = w.heap.size + 1 + k
  top : wr.rowIs w.heap.size 34 R.length (fun r => if r < k then .slice (some ⟨w.heap.size + 1 + r, 0, none⟩) (R.getD r []).length (R.getD r []).length else .slice none 0 0)
  rows : ∀ r, r < k → OwnV wr (w.heap.size + 1 + r) (ints (R.getD r []))

theorem fillR_start (w : World) (R : List (List Int)) : FillR w (w.alloc (.cells (madeCells #[.slice none 0 0] R.length) 34)) R 0 :=
  ⟨(Below.refl _ _).alloc (Nat.le_refl _) _, by simp, (World.rowIs_made w _ R.length 34).congr (fun j _ => by simp), fun r hr => by omega⟩

theorem fillR_step {w wr w1 : World} {R : List (List Int)} {k : Nat} (h : FillR w wr R k) (hk : k < R.length) (ho : OwnV w1 wr.heap.size (ints (R.getD k []))) (hb : Below wr.heap.size wr w1) (hs : w1.heap.size = wr.heap.size + 1) :
    FillR w (w1.setCell ⟨w.heap.size, k, none⟩ (.slice (some ⟨wr.heap.size, 0, none⟩) (R.getD k []).length (R.getD k []).length)) R (k + 1) := by
  have hsz := h.size
  have hlt := h.top.lt
  refine ⟨(h.below.trans (hb.mono (by omega))).setCell (Nat.le_refl _) _, by simp [hs, hsz]; omega, ((h.top.of_block (hb.block _ hlt)).set k _).congr (fun i _ => ?_), fun r hr => ?_⟩
  · by_cases e : i = k
    · subst e; simp [hsz]
    · rw [if_neg e]
      by_cases hlt : i < k
      · rw [if_pos hlt, if_pos (by omega)]
      · rw [if_neg hlt, if_neg (by omega)]
  · by_cases e : r = k
    · subst e
      rw [hsz] at ho
      exact ho.other (by show w.heap.size + 1 + r ≠ w.heap.size; omega) _
    · exact ((h.rows r (by omega)).below hb (h.rows r (by omega)).lt).other (by show w.heap.size + 1 + r ≠ w.heap.size; omega) _

theorem fillR_done {w wr : World} {R : List (List Int)} (h : FillR w wr R R.length) (hl : ∀ i, i < R.length → (R.getD i []).length ≤ 1048576) : OwnRows w.heap.size wr w.heap.size (fun r => w.heap.size + 1 + r) (fun r => (R.getD r []).length) R :=
  ⟨Nat.le_refl _, rowIs_ownV h.top (tops_length _ _ R) (fun i hi => by rw [tops_get _ _ R hi, if_pos hi]), h.rows, fun r hr => ⟨Nat.le_refl _, by have := hl r hr; unfold maxLen; omega⟩,
    fun r _ => ⟨by omega, by omega⟩, fun r s _ _ hne => by omega⟩

end Go.Proofs.Ytkjikjeecjendaa

/- Contracts of the laws' own comparers: eqIntS, eqIntSS, eqHull: of two values that hold the same numbers they tell true. -/
namespace Go.Proofs.Ytkjikjeecjendaa
open Go.RowKit

theorem below_drewN {w w' : World} (h : Below w.heap.size w w') (n : Nat) : Below w.heap.size w (w'.drewN n) := h.trans ⟨rfl, rfl, rfl, Nat.le_refl _, fun _ _ => rfl⟩

theorem IntsIn.drewN {w : World} {v : Value} {xs : List Int} (h : IntsIn w v xs) (n : Nat) : IntsIn (w.drewN n) v xs := h.below (below_drewN (Below.refl _ _) n)
theorem RowsIn.drewN {w : World} {v : Value} {xs : List (List Int)} (h : RowsIn w v xs) (n : Nat) : RowsIn (w.drewN n) v xs := h.below (below_drewN (Below.refl _ _) n)

set_option maxHeartbeats 400000 in
theorem eqIntS_any (v v' : Value) (xs : List Int) (w : World) (h : IntsIn w v xs) (h' : IntsIn w v' xs) :
    Calls Try.prog 41 #[v, v'] w fun e w' => e = .returned (.bool true) ∧ ∃ n, w' = w.drewN n := by
  obtain ⟨ao, cap, rfl, hl, hm, hc⟩ := h
  obtain ⟨ao', cap', rfl, _, _, hc'⟩ := h'
  unfold maxLen at hm
  have HC := hide hc
  have HC' := hide hc'
  clear hc hc'
  go_enter Try.func41, Try.ntmps41
  go_wp2
  go_loopg [5] xs.length (fun g i wr => ∃ q, wr = w.drewN q ∧ ∃ k : Nat, k ≤ xs.length ∧ g = xs.length - k ∧ i = .int .i64 k)
  case atStart => exact ⟨0, rfl, 0, Nat.zero_le _, rfl, rfl⟩
  case round =>
    obtain ⟨q, rfl, k, hk, rfl, rfl⟩ := hrel
    by_cases hkn : k < xs.length
    · obtain ⟨b, o, rfl, hcell⟩ := unhide HC k hkn
      obtain ⟨b', o', rfl, hcell'⟩ := unhide HC' k hkn
      generalize xs.getD k 0 = x at *
      go_wp2
      go_quiet (fail)
      go_wp2
      go_roundg (xs.length - (k + 1))
      case measure => omega
      case rel => exact ⟨_, rfl, k + 1, by omega, rfl, by go_num⟩
    · go_wp2
      go_ret
      exact ⟨rfl, q, rfl⟩

end Go.Proofs.Ytkjikjeecjendaa

/- Bytes: words; the check in numbers; contracts of the laws' own toByteS, eqByteS, markByteS, heldByteS. No statement about the program stands here. -/
namespace Go.Proofs.Ytkjikjeecjendaa
open Go.RowKit

abbrev Byte := Fin 256
def eB (b : Byte) : Value := .int .u8 ((b.val : Nat) : Int)
def toB (n : Int) : Byte := ⟨(n % 256).toNat, by omega⟩
theorem eB_toB (n : Int) : eB (toB n) = .int .u8 (n % 256) := by
  unfold eB toB
  congr 1
  simp only
  omega
theorem toB_val (b : Byte) : toB ((b.val : Nat) : Int) = b := by
  apply Fin.ext
  unfold toB
  simp only
  have := b.isLt
  omega
theorem wrap_byte (n : Int) : IntKind.u8.wrap n = n % 256 := IntKind.wrap_u8' n
abbrev ByIn := CIn (α := Byte) eB
abbrev OwnBy := OwnC (α := Byte) eB
abbrev OwnByU := OwnCU (α := Byte) eB

/-- One step of the check, eight of it, a byte, a list of bytes. -/
def crc1 (n : Nat) : Nat := if 32768 ≤ n then (2 * n - 65536) ^^^ 4129 else 2 * n
def crcI (j n : Nat) : Nat := Nat.repeat crc1 j n
def crcB (n b : Nat) : Nat := crcI 8 (n ^^^ (b * 256))
def crcL (L : List Byte) : Nat := L.foldl (fun n b => crcB n b.val) 65535
theorem xor_lt16 {a b : Nat} (ha : a < 65536) (hb : b < 65536) : a ^^^ b < 65536 := Nat.xor_lt_two_pow (n := 16) (by omega) (by omega)
theorem crc1_lt {n : Nat} (h : n < 65536) : crc1 n < 65536 := by
  unfold crc1
  split
  · exact xor_lt16 (by omega) (by omega)
  · omega
theorem crcI_zero (n : Nat) : crcI 0 n = n := rfl
theorem crcI_succ (j n : Nat) : crcI (j + 1) n = crc1 (crcI j n) := rfl
theorem crcI_lt {j n : Nat} (h : n < 65536) : crcI j n < 65536 := by
  induction j with
  | zero => exact h
  | succ j ih => rw [crcI_succ]; exact crc1_lt ih
theorem crcB_lt {n : Nat} (b : Byte) (h : n < 65536) : crcB n b.val < 65536 := crcI_lt (xor_lt16 h (by have := b.isLt; omega))
theorem foldl_lt (f : Nat → Byte → Nat) (hf : ∀ n b, n < 65536 → f n b < 65536) (L : List Byte) : ∀ n, n < 65536 → L.foldl f n < 65536 := by
  induction L with
  | nil => intro n h; exact h
  | cons b L ih => intro n h; rw [List.foldl_cons]; exact ih _ (hf n b h)
theorem crcL_lt (L : List Byte) : crcL L < 65536 := foldl_lt (fun n b => crcB n b.val) (fun _ b h => crcB_lt b h) L 65535 (Nat.lt_succ_self _)
theorem crcL_nil : crcL [] = 65535 := rfl
theorem crcL_snoc (L : List Byte) (b : Byte) : crcL (L ++ [b]) = crcB (crcL L) b.val := by simp [crcL, List.foldl_append]
theorem take_snoc {α : Type} [Inhabited α] (L : List α) {k : Nat} (h : k < L.length) : L.take (k + 1) = L.take k ++ [L.getD k default] := by
  rw [List.take_add_one, List.getElem?_eq_getElem h, getD_lt h]; rfl
theorem crc_step (L : List Byte) {k : Nat} (h : k < L.length) : crcL (L.take (k + 1)) = crcB (crcL (L.take k)) (L.getD k default).val := by rw [take_snoc L h, crcL_snoc]

/-- The bits of numbers that are not below 0. -/
theorem ofInt_i64 (a : Nat) (ha : a < 9223372036854775808) : (BitVec.ofInt 64 (a : Int)).toNat = a := by
  rw [BitVec.ofInt_natCast, BitVec.toNat_ofNat]; exact Nat.mod_eq_of_lt (by omega)
theorem i64_xor_nat (a b : Nat) (ha : a < 9223372036854775808) (hb : b < 9223372036854775808) : bits .xor .i64 (a : Int) (b : Int) = ((a ^^^ b : Nat) : Int) := by
  have hx : a ^^^ b < 2 ^ 63 := Nat.xor_lt_two_pow (by omega) (by omega)
  show IntKind.i64.wrap ((BitVec.ofInt 64 (a : Int) ^^^ BitVec.ofInt 64 (b : Int)).toNat : Int) = _
  rw [BitVec.toNat_xor, ofInt_i64 a ha, ofInt_i64 b hb, IntKind.wrap_i64]
  omega
theorem i64_and_nat (a b : Nat) (ha : a < 9223372036854775808) (hb : b < 9223372036854775808) : bits .and .i64 (a : Int) (b : Int) = ((a &&& b : Nat) : Int) := by
  have hx : a &&& b < 2 ^ 63 := Nat.and_lt_two_pow _ (by omega)
  show IntKind.i64.wrap ((BitVec.ofInt 64 (a : Int) &&& BitVec.ofInt 64 (b : Int)).toNat : Int) = _
  rw [BitVec.toNat_and, ofInt_i64 a ha, ofInt_i64 b hb, IntKind.wrap_i64]
  omega
theorem i64_or_nat (a b : Nat) (ha : a < 9223372036854775808) (hb : b < 9223372036854775808) : bits .or .i64 (a : Int) (b : Int) = ((a ||| b : Nat) : Int) := by
  have hx : a ||| b < 2 ^ 63 := Nat.or_lt_two_pow (by omega) (by omega)
  show IntKind.i64.wrap ((BitVec.ofInt 64 (a : Int) ||| BitVec.ofInt 64 (b : Int)).toNat : Int) = _
  rw [BitVec.toNat_or, ofInt_i64 a ha, ofInt_i64 b hb, IntKind.wrap_i64]
  omega
theorem i64_join (a b : Nat) (ha : a < 4294967296) (hb : b < 256) : bits .or .i64 ((a : Int) * 256) (b : Int) = (a : Int) * 256 + b := by
  have := i64_or_nat (a * 256) b (by omega) (by omega)
  rw [nat_join 8 (a * 256) b (by omega) hb] at this
  simpa using this
theorem i64_mask24 (n : Int) : bits .and .i64 n 16777215 = n % 16777216 := by
  have h127 : (BitVec.ofInt 64 16777215).toNat = 2 ^ 24 - 1 := by decide
  have key : (BitVec.ofInt 64 n &&& BitVec.ofInt 64 16777215).toNat = (n % ((2 ^ 64 : Nat) : Int)).toNat % 2 ^ 24 := by
    rw [BitVec.toNat_and, BitVec.toNat_ofInt, h127, Nat.and_two_pow_sub_one_eq_mod]
  show IntKind.i64.wrap ((BitVec.ofInt 64 n &&& BitVec.ofInt 64 16777215).toNat : Nat) = n % 16777216
  rw [key, IntKind.wrap_i64]
  omega

theorem Try.infoU8 : (Try.prog.info? 5).map (fun i => (i.zero, i.size, i.bytes)) = some (some (.int .u8 0), 1, 1) := by kernel_rfl

/-- So far k cells of the block that came new are filled. -/
def FillB (w wr : World) (L : List Byte) (k : Nat) : Prop := Below w.heap.size w wr ∧ ∃ c t, wr.heap[w.heap.size]? = some (.cells c t (0, 0)) ∧ c.size = L.length ∧ ∀ q, q < k → c[q]? = some (eB (L.getD q default))
theorem FillB.start (w : World) (L : List Byte) (z : Array Value) (t : TypeId) (hz : z.size = 1) : FillB w (w.alloc (.cells (madeCells z L.length) t)) L 0 :=
  ⟨Below.alloc1 _ _, _, t, Deep.blk_alloc_new _ _, by simp [madeCells, hz], fun q hq => by omega⟩
theorem FillB.frozen {w wr : World} {L : List Byte} {k : Nat} (h : FillB w wr L k) (j : Nat) : wr.frozen? ⟨w.heap.size, j, none⟩ = false := by
  obtain ⟨_, c, t, h1, _⟩ := h
  simp [World.frozen?, h1]
theorem FillB.cell {w wr : World} {L : List Byte} {k : Nat} (h : FillB w wr L k) {q : Nat} (hq : q < L.length) : ∃ u, wr.cell? ⟨w.heap.size, q, none⟩ = some u := by
  obtain ⟨_, c, t, h1, h2, _⟩ := h
  exact ⟨c[q]'(by omega), by simp [World.cell?, h1, show q < c.size by omega]⟩
theorem FillB.set {w wr : World} {L : List Byte} {k : Nat} (h : FillB w wr L k) (hk : k < L.length) : FillB w (wr.setCell ⟨w.heap.size, k, none⟩ (eB (L.getD k default))) L (k + 1) := by
  obtain ⟨h0, c, t, h1, h2, h3⟩ := h
  refine ⟨h0.setCell (Nat.le_refl _) _, c.setIfInBounds k (eB (L.getD k default)), t, by simp [World.setCell, Array.getElem?_modify, h1], by simpa using h2, fun q hq => ?_⟩
  rw [Array.getElem?_setIfInBounds]
  by_cases e : k = q
  · subst e; simp [show k < c.size by omega]
  · rw [if_neg e]; exact h3 q (by omega)
theorem FillB.done {w wr : World} {L : List Byte} (h : FillB w wr L L.length) : OwnV wr w.heap.size (L.map eB) := by
  obtain ⟨_, c, t, h1, h2, h3⟩ := h
  exact ⟨c, t, h1, fun i hi => by rw [List.length_map] at hi; rw [h3 i hi, map_get L hi]⟩

set_option maxHeartbeats 800000 in
theorem toByteS_o (v : Value) (L : List Byte) (w : World) (h : ByIn w v L) (hs : L.length ≤ 1048576) :
    Calls Try.prog 34 #[v] w fun e w' => ∃ g, e = .returned (.slice (some ⟨g, 0, none⟩) L.length L.length) ∧ w.heap.size ≤ g ∧ OwnV w' g (L.map eB) ∧ Below w.heap.size w w' := by
  obtain ⟨ao, cap, rfl, hlc, hm, hc⟩ := h
  clear hlc hm
  have HC := hide hc
  clear hc
  have hmk := run_make_recs (P := Try.prog) 22 5 _ 1 1 Try.underlying22 Try.infoU8 .i64 .i64 L.length (by omega) (by omega)
  rw [Nat.mul_one] at hmk
  go_enter Try.func34, Try.ntmps34
  go_wp2
  clear hmk
  go_loopg [4] L.length (fun g i wr => ∃ k : Nat, k ≤ L.length ∧ g = L.length - k ∧ i = .int .i64 k ∧ FillB w wr L k)
  case atStart => exact ⟨0, Nat.zero_le _, rfl, rfl, FillB.start _ _ _ _ (by rfl)⟩
  case round =>
    obtain ⟨k, hk, rfl, rfl, hF⟩ := hrel
    by_cases hkn : k < L.length
    · obtain ⟨b, o, rfl, hcell⟩ := unhide HC k hkn
      have g0 := (hF.1.cell (lt_of_cell hcell)).trans hcell
      have hf := hF.frozen
      obtain ⟨u0, hu0⟩ := hF.cell hkn
      have HF1 := hide (hF.set hkn)
      have hki : (k : Int) < L.length := by omega
      clear hF hcell
      generalize L.getD k default = z at g0 HF1
      unfold eB at g0 HF1
      go_wp2
      go_roundg (L.length - (k + 1))
      case measure => omega
      case rel => exact ⟨k + 1, by omega, rfl, by go_num, unhide HF1⟩
    · have hkk : k = L.length := by omega
      subst hkk
      go_wp2
      go_ret
      exact ⟨_, rfl, Nat.le_refl _, hF.done, hF.1⟩

set_option maxHeartbeats 400000 in
theorem eqByteS_o (v v' : Value) (M : List Byte) (w : World) (h : ByIn w v M) (h' : ByIn w v' M) :
    Calls Try.prog 30 #[v, v'] w fun e w' => e = .returned (.bool true) ∧ Below w.heap.size w w' := by
  obtain ⟨ao, cap, rfl, hl, hm, hc⟩ := h
  obtain ⟨ao', cap', rfl, _, _, hc'⟩ := h'
  unfold maxLen at hm
  have HC := hide hc
  have HC' := hide hc'
  clear hc hc'
  go_enter Try.func30, Try.ntmps30
  go_wp2
  go_loopg [5] M.length (fun g i wr => ∃ q, wr = w.drewN q ∧ ∃ k : Nat, k ≤ M.length ∧ g = M.length - k ∧ i = .int .i64 k)
  case atStart => exact ⟨0, rfl, 0, Nat.zero_le _, rfl, rfl⟩
  case round =>
    obtain ⟨q, hq, k, hk, rfl, rfl⟩ := hrel
    by_cases hkn : k < M.length
    · obtain ⟨b, o, rfl, hcell⟩ := unhide HC k hkn
      obtain ⟨b', o', rfl, hcell'⟩ := unhide HC' k hkn
      generalize M.getD k default = x at *
      unfold eB at hcell hcell'
      have c0 : wr.cell? ⟨b, o + k, none⟩ = some (.int .u8 x.val) := by rw [hq]; exact hcell
      have c1 : wr.cell? ⟨b', o' + k, none⟩ = some (.int .u8 x.val) := by rw [hq]; exact hcell'
      have HQ := hide hq
      have hki : (k : Int) < M.length := by omega
      clear hq hcell hcell'
      generalize x.val = x at *
      go_wp2
      first | done | (go_quiet (fail); go_wp2) | skip
      go_roundg (M.length - (k + 1))
      case measure => omega
      case rel => exact ⟨_, by rw [unhide HQ]; exact World.drewN_drewN _ _ _, k + 1, by omega, rfl, by go_num⟩
    · subst hq
      go_wp2
      go_ret
      exact ⟨rfl, below_drewN (Below.refl _ _) _⟩

def byMark (k : Int) (i : Nat) : Byte := toB (k + (i : Int))

set_option maxHeartbeats 800000 in
theorem markBy_any (g cap : Nat) (L : List Byte) (k : Int) (w : World) (h : OwnV w g (L.map eB)) (hn : L.length ≤ 1048576) (hk0 : 0 ≤ k) (hk1 : k ≤ 4611686018427387904) :
    Calls Try.prog 31 #[.slice (some ⟨g, 0, none⟩) L.length cap, .int .i64 k] w fun e w' => e = .returned (.int .i64 (k + (L.length : Int))) ∧ Kept (fun b => b = g) w w' ∧ OwnV w' g ((marksL (byMark k) L.length).map eB) := by
  have HM0 := hide h
  clear h
  go_enter Try.func31, Try.ntmps31
  go_wp2
  go_loopg [1, 5] L.length (fun gh kv iv wr => ∃ j : Nat, j ≤ L.length ∧ gh = L.length - j ∧ iv = .int .i64 j ∧ kv = .int .i64 (k + (j : Int)) ∧ Kept (fun b => b = g) w wr ∧ OwnV wr g ((midL (byMark k) L j).map eB))
  case atStart => exact ⟨0, Nat.zero_le _, rfl, rfl, by congr 1; omega, Kept.refl _ _, by rw [midL_zero]; exact unhide HM0⟩
  case round =>
    obtain ⟨j, hj, rfl, rfl, rfl, hK, hM⟩ := hrel
    clear HM0
    by_cases hjn : j < L.length
    · have hf := hM.frozen
      have hu0 := hM.cell (map_get (E := eB) (midL (byMark k) L j) (i := j) (by rw [midL_len]; exact hjn))
      have hN := hM.set j (eB (byMark k j)) (by rw [List.length_map, midL_len]; exact hjn)
      rw [← List.map_set, midL_step, show eB (byMark k j) = .int .u8 ((k + (j : Int)) % 256) from eB_toB _] at hN
      have HN := hide hN
      have HK := hide hK
      have hwr := wrap_byte (k + (j : Int))
      clear hM hK hN
      generalize (midL (byMark k) L j).getD j default = z0 at *
      have hji : (j : Int) < L.length := by omega
      generalize (k + (j : Int)) % 256 = z1 at *
      go_wp2
      go_roundg (L.length - (j + 1))
      case measure => omega
      case rel => exact ⟨j + 1, by omega, rfl, by go_num, by congr 1; omega, (unhide HK).setCell (p := ⟨g, j, none⟩) rfl _, unhide HN⟩
    · have hjj : j = L.length := by omega
      subst hjj
      go_wp2
      go_ret
      exact ⟨rfl, hK, by rw [← midL_done]; exact hM⟩

theorem markBy_nil (ao : Option Addr) (cap : Nat) (k : Int) (w : World) :
    Calls Try.prog 31 #[.slice ao 0 cap, .int .i64 k] w fun e w' => e = .returned (.int .i64 k) ∧ w = w' := by
  go_enter Try.func31, Try.ntmps31
  go_wp2
  go_loopg [1, 5] 0 (fun _ kv iv wr => w = wr ∧ iv = .int .i64 0 ∧ kv = .int .i64 k)
  case atStart => exact ⟨rfl, rfl, rfl⟩
  case round =>
    obtain ⟨rfl, rfl, rfl⟩ := hrel
    go_wp2
    go_ret
    exact ⟨rfl, rfl⟩

theorem markByteS_v (B U : Nat) (ao : Option Addr) (n cap : Nat) (L : List Byte) (w : World) (h : OwnByU B U w (.slice ao n cap) L) (hn : L.length ≤ 1048576) :
    Calls Try.prog 31 #[.slice ao n cap, .int .i64 1] w fun e w' => e = .returned (.int .i64 (1 + (L.length : Int))) ∧ Kept (fun b => B ≤ b ∧ b < U) w w' ∧ OwnByU B U w' (.slice ao n cap) (marksL (byMark 1) L.length) := by
  obtain ⟨ao', cap', e, h1, h2, h3⟩ := h
  simp only [Value.slice.injEq] at e
  obtain ⟨rfl, rfl, rfl⟩ := e
  by_cases hne : L = []
  · subst hne
    refine (markBy_nil ao cap 1 w).mono ?_
    rintro e w' ⟨rfl, rfl⟩
    exact ⟨rfl, Kept.refl _ _, ao, cap, by rw [marksL_len], by rw [marksL_len]; exact h1, h2, fun h => absurd rfl h⟩
  · obtain ⟨g, rfl, hg, hu, ho⟩ := h3 hne
    refine (markBy_any g cap L 1 w ho hn (by omega) (by omega)).mono ?_
    rintro e w' ⟨rfl, hk, ho'⟩
    exact ⟨rfl, hk.mono (fun b _ hb => by rw [hb]; exact ⟨hg, hu⟩), _, cap, by rw [marksL_len], by rw [marksL_len]; exact h1, h2, fun _ => ⟨g, rfl, hg, hu, ho'⟩⟩

set_option maxHeartbeats 800000 in
theorem heldByteS_v (v : Value) (M : List Byte) (W : World) (hW : ByIn W v (marksL (byMark 1) M.length)) (hn : M.length ≤ 1048576) :
    Calls Try.prog 32 #[v, .int .i64 1] W fun e w' => e = .returned (.int .i64 (1 + (M.length : Int))) ∧ Below W.heap.size W w' := by
  obtain ⟨ao, cap, rfl, hl, hm, hc⟩ := hW
  have HC := hide hc
  clear hc
  rw [marksL_len] at HC hl ⊢
  unfold maxLen at hm
  generalize M.length = n at *
  go_enter Try.func32, Try.ntmps32
  go_wp2
  go_loopg [1, 5] n (fun gh kv iv wr => (∃ q, wr = W.drewN q) ∧ ∃ j : Nat, j ≤ n ∧ gh = n - j ∧ iv = .int .i64 j ∧ kv = .int .i64 (1 + (j : Int)))
  case atStart => exact ⟨⟨0, rfl⟩, 0, Nat.zero_le _, rfl, rfl, by congr 1⟩
  case round =>
    obtain ⟨⟨q, hq⟩, j, hj, rfl, rfl, rfl⟩ := hrel
    have HW := hide hq
    by_cases hjn : j < n
    · obtain ⟨b, o, rfl, hcell⟩ := unhide HC j hjn
      rw [marksL_get (byMark 1) hjn, show eB (byMark 1 j) = .int .u8 ((1 + (j : Int)) % 256) from eB_toB _] at hcell
      have c0 : wr.cell? ⟨b, o + j, none⟩ = some (.int .u8 ((1 + (j : Int)) % 256)) := by rw [hq]; exact hcell
      have hji : (j : Int) < n := by omega
      have hwr := wrap_byte (1 + (j : Int))
      clear hq hcell
      generalize (1 + (j : Int)) % 256 = z1 at *
      go_wp2
      go_roundg (n - (j + 1))
      case measure => omega
      case rel => exact ⟨⟨q, unhide HW⟩, j + 1, by omega, rfl, by go_num, by go_num⟩
    · have hjj : j = n := by omega
      subst hjj
      subst hq
      go_wp2
      go_ret
      exact ⟨rfl, below_drewN (Below.refl _ _) _⟩

end Go.Proofs.Ytkjikjeecjendaa

/- When a hull is right (hullOk), and the contracts of the program's own helpers within, halvesOk, station and of HullOk, and of the specification's l1In and HullOk: both tell hullOk. -/
namespace Go.Proofs.Ytkjikjeecjendaa
open Go.RowKit

def inB (x a b : Int) : Bool := decide (a ≤ x) && decide (x ≤ b)

theorem inB_true {x a b : Int} (h : inB x a b = true) : a ≤ x ∧ x ≤ b := by simpa [inB] using h
theorem inB_mk {x a b : Int} (h : a ≤ x) (h' : x ≤ b) : inB x a b = true := by simp [inB, h, h']
theorem inB_not {x a b : Int} (h : x < a ∨ b < x) : inB x a b = false := by simp [inB]; omega

def rowOk (n : Nat) (r : List Int) : Bool := (r.length == n) && inB r.length 2 10 && r.all (fun x => inB x 0 50)

def hullOk (step rise : Int) (R : List (List Int)) : Bool := inB step 1 100 && inB rise 1 20 && inB R.length 2 12 && R.all (rowOk (R.getD 0 []).length)

theorem rowOk_len {n : Nat} {r : List Int} (h : r.length ≠ n) : rowOk n r = false := by simp [rowOk, h]
theorem rowOk_in {n : Nat} {r : List Int} (h : inB r.length 2 10 = false) : rowOk n r = false := by simp [rowOk, h]
theorem rowOk_all {n : Nat} {r : List Int} (h : (r.all fun x => inB x 0 50) = false) : rowOk n r = false := by unfold rowOk; rw [h]; simp
theorem rowOk_mk {n : Nat} {r : List Int} (h1 : r.length = n) (h2 : inB n 2 10 = true) (h3 : (r.all fun x => inB x 0 50) = true) : rowOk n r = true := by
  unfold rowOk; rw [h3, h1, h2]; simp

theorem ret_bool {a b : Bool} (h : a = b) : Ending.returned (.bool a) = .returned (.bool b) := by rw [h]

set_option maxHeartbeats 400000 in
theorem l1In_any (x a b : Int) (w : World) : Calls Try.prog 54 #[.int .i64 x, .int .i64 a, .int .i64 b] w fun e w' => e = .returned (.bool (inB x a b)) ∧ w' = w := by
  by_cases h1 : a ≤ x
  · by_cases h2 : x ≤ b
    · go_enter Try.func54, Try.ntmps54
      go_wp2
      go_ret
      exact ⟨ret_bool (by simp [inB, h1, h2]), rfl⟩
    · go_enter Try.func54, Try.ntmps54
      go_wp2
      go_ret
      exact ⟨ret_bool (by rw [inB_not (by omega)]), rfl⟩
  · have hd : decide (a ≤ x) = false := by simpa using h1
    go_enter Try.func54, Try.ntmps54
    go_wp2
    go_ret
    exact ⟨ret_bool (by rw [inB_not (by omega)]), rfl⟩

set_option maxHeartbeats 400000 in
theorem within_any (x a b : Int) (w : World) : Calls Try.prog 55 #[.int .i64 x, .int .i64 a, .int .i64 b] w fun e w' => e = .returned (.bool (inB x a b)) ∧ w' = w := by
  by_cases h1 : a ≤ x
  · by_cases h2 : x ≤ b
    · go_enter Try.func55, Try.ntmps55
      go_wp2
      go_ret
      exact ⟨ret_bool (by simp [inB, h1, h2]), rfl⟩
    · go_enter Try.func55, Try.ntmps55
      go_wp2
      go_ret
      exact ⟨ret_bool (by rw [inB_not (by omega)]), rfl⟩
  · have hd : decide (a ≤ x) = false := by simpa using h1
    go_enter Try.func55, Try.ntmps55
    go_wp2
    go_ret
    exact ⟨ret_bool (by rw [inB_not (by omega)]), rfl⟩

theorem hullOk_row {step rise : Int} {R : List (List Int)} {k : Nat} (hk : k < R.length) (h : rowOk (R.getD 0 []).length (R.getD k []) = false) : hullOk step rise R = false := by
  unfold hullOk
  rw [all_false hk h]
  simp

end Go.Proofs.Ytkjikjeecjendaa

/- The contract of the specification's HullOk: it tells hullOk. -/
namespace Go.Proofs.Ytkjikjeecjendaa
open Go.RowKit

theorem hullOk_mk {step rise : Int} {R : List (List Int)} (h1 : inB step 1 100 = true) (h2 : inB rise 1 20 = true) (h3 : inB R.length 2 12 = true) (h : ∀ r, r < R.length → rowOk (R.getD 0 []).length (R.getD r []) = true) : hullOk step rise R = true := by
  unfold hullOk
  rw [h1, h2, h3, all_true (d := []) h]
  rfl

end Go.Proofs.Ytkjikjeecjendaa

/- A region whose order Go leaves open and whose callees only make memory: one walk serves (the worlds that have only grown). Contracts of waterCount, stripCount, isWater, bothHalves and of the specification's l1Water. -/
namespace Go.Proofs.Ytkjikjeecjendaa
open Go.RowKit

/-- A world in which nothing of W has turned. -/
structure Gr (W : World) where
  val : World
  ok : Below W.heap.size W val

theorem wp_region_grown {P : Program} {id : Nat} {Q : Exit → Act → World → Prop} {a : Act} {w : World} {l : List Oper} (hm : P.follows .mixedOrders = true) (hB : Region.lexB .any l.toArray = true)
    (h : wpQuiet P l.toArray (fun w' => ∃ x : Gr w, w' = x.val) (fun a' => ∀ w', (∃ x : Gr w, w' = x.val) → Q .normal a' w') l a) : (Code.region id l.toArray true).wp P Q a w :=
  wp_region_quiet (C := fun w' => ∃ x : Gr w, w' = x.val) hm hB ⟨⟨w.drew, (Below.refl _ _).drew⟩, rfl⟩ (by simpa using h)

theorem calls_grown {P : Program} {f : FuncId} {args : Array Value} {w : World} {x : Gr w} {v : Value} (h : Calls P f args x.val fun e w' => e = .returned v ∧ Below x.val.heap.size x.val w') :
    Calls P f args x.val fun e w'' => e = .returned v ∧ ∃ y : Gr w, w'' = y.val :=
  h.mono fun _ w' ⟨he, hb⟩ => ⟨he, ⟨w', Below.step x.ok hb⟩, rfl⟩

theorem gr_some (w : World) : Nonempty (Gr w) := ⟨⟨w, Below.refl _ _⟩⟩

theorem gr_cell {w : World} {a : Addr} {v : Value} (h : w.cell? a = some v) (x : Gr w) : x.val.cell? a = some v := (x.ok.cell (lt_of_cell h)).trans h

/-- A water line of a right hull. -/
def waterOk (step rise : Int) (R : List (List Int)) (c : Int) : Bool := hullOk step rise R && inB c 0 ((R.getD 0 []).length - 1)

theorem hullOk_pos {step rise : Int} {R : List (List Int)} (h : hullOk step rise R = true) : 2 ≤ R.length ∧ R.length ≤ 12 := by
  unfold hullOk at h
  simp only [Bool.and_eq_true] at h
  have := inB_true h.1.2
  omega

end Go.Proofs.Ytkjikjeecjendaa

/- Own words for the walks of the exact laws. No statement about the program stands here. -/
namespace Go.Proofs.Ytkjikjeecjendaa
open Go.RowKit

theorem OwnV.step {w w' : World} {g : Nat} {vs : List Value} (h : OwnV w g vs) (hb : Below w.heap.size w w') : OwnV w' g vs := h.below hb h.lt

theorem ownV_alloc (w : World) (c : Array Value) (t : TypeId) : OwnV (w.alloc (.cells c t)) w.heap.size c.toList :=
  ⟨c, t, Deep.blk_alloc_new _ _, fun i _ => by simp⟩

end Go.Proofs.Ytkjikjeecjendaa

/- Frames: the program's put, number, fix, check and the specification's l9Check, l9Three, in numbers. No statement about the program stands here. -/
namespace Go.Proofs.Ytkjikjeecjendaa
open Go.RowKit

/-- The bytes L stand from ⟨b, o⟩ on. -/
def FrAt (w : World) (b o : Nat) (L : List Byte) : Prop := ∀ i, i < L.length → w.cell? ⟨b, o + i, none⟩ = some (eB (L.getD i default))
theorem ByIn.frAt {w : World} {b o n cap : Nat} {L : List Byte} (h : ByIn w (.slice (some ⟨b, o, none⟩) n cap) L) : FrAt w b o L := by
  obtain ⟨ao, c, e, h1, h2, h3⟩ := h
  simp only [Value.slice.injEq] at e
  obtain ⟨rfl, rfl, rfl⟩ := e
  intro i hi
  obtain ⟨b', o', e', hc⟩ := h3 i hi
  simp only [Option.some.injEq, Addr.mk.injEq, and_true] at e'
  obtain ⟨rfl, rfl⟩ := e'
  exact hc

/-- One step of the check, as the specification and as the program reckon it. -/
theorem crc1_hi {n : Nat} (h : n < 65536) (h' : 32768 ≤ n) : bits .xor .i64 (bits .and .i64 (2 * (n : Int)) 65535) 4129 = ((crc1 n : Nat) : Int) := by
  have e1 : (2 * (n : Int)) = ((2 * n : Nat) : Int) := by omega
  have e2 := i64_and_nat (2 * n) 65535 (by omega) (by omega)
  rw [show (2 * n) &&& 65535 = (2 * n) % 65536 from nat_mask16 _, show (2 * n) % 65536 = 2 * n - 65536 by omega] at e2
  rw [e1, show ((65535 : Int)) = ((65535 : Nat) : Int) from rfl, e2]
  have e3 := i64_xor_nat (2 * n - 65536) 4129 (by omega) (by omega)
  rw [show ((4129 : Int)) = ((4129 : Nat) : Int) from rfl, e3]
  unfold crc1
  rw [if_pos h']
theorem crc1_lo {n : Nat} (h' : ¬ 32768 ≤ n) : (2 * (n : Int)) = ((crc1 n : Nat) : Int) := by
  unfold crc1
  rw [if_neg h']
  omega
theorem crc1_u16 {n : Nat} (h : n < 65536) (h' : 32768 ≤ n) : bits .xor .u16 ((2 * n - 65536 : Nat) : Int) 4129 = ((crc1 n : Nat) : Int) := by
  rw [show ((4129 : Int)) = ((4129 : Nat) : Int) from rfl, u16_xor_nat _ _ (by omega) (by omega)]
  unfold crc1
  rw [if_pos h']
theorem crcX_i64 {n : Nat} (b : Byte) (h : n < 65536) : bits .xor .i64 (n : Int) ((b.val : Int) * 256) = ((n ^^^ (b.val * 256) : Nat) : Int) := by
  have hb := b.isLt
  rw [← i64_xor_nat n (b.val * 256) (by omega) (by omega)]
  congr 1
theorem crcX_u16 {n : Nat} (b : Byte) (h : n < 65536) : bits .xor .u16 (n : Int) ((b.val : Int) * 256) = ((n ^^^ (b.val * 256) : Nat) : Int) := by
  have hb := b.isLt
  rw [← u16_xor_nat n (b.val * 256) (by omega) (by omega)]
  congr 1

set_option maxHeartbeats 1600000 in
theorem l9Check_any (ao : Option Addr) (n cap : Nat) (L : List Byte) (w : World) (h : ByIn w (.slice ao n cap) L) (hl : 14 ≤ L.length) :
    Calls Try.prog 70 #[.slice ao n cap] w fun e w' => e = .returned (.int .i64 (crcL (L.take 14))) ∧ w' = w := by
  obtain ⟨ao', c, e, h1, h2, h3⟩ := h
  simp only [Value.slice.injEq] at e
  obtain ⟨rfl, rfl, rfl⟩ := e
  unfold maxLen at h2
  have HC := hide h3
  clear h3
  go_enter Try.func70, Try.ntmps70
  go_wp2
  go_loopg [3, 4] 14 (fun g nv iv wr => wr = w ∧ ∃ k : Nat, k ≤ 14 ∧ g = 14 - k ∧ iv = .int .i64 k ∧ nv = .int .i64 (crcL (L.take k)))
  case atStart => exact ⟨rfl, 0, Nat.zero_le _, rfl, rfl, rfl⟩
  case round =>
    obtain ⟨rfl, k, hk, rfl, rfl, rfl⟩ := hrel
    by_cases hkn : k < 14
    · obtain ⟨b, o, rfl, hcell⟩ := unhide HC k (by omega)
      have hx := crcX_i64 (L.getD k default) (crcL_lt (L.take k))
      have hST := hide (crc_step L (k := k) (by omega))
      have hlt := crcL_lt (L.take k)
      have hklen : (k : Int) < L.length := by omega
      generalize crcL (L.take k) = m at *
      generalize L.getD k default = z at *
      unfold eB at hcell
      have hz := z.isLt
      have hM : m ^^^ (z.val * 256) < 65536 := xor_lt16 hlt (by omega)
      unfold crcB at hST
      generalize z.val = zv at *
      generalize m ^^^ (zv * 256) = x0 at *
      go_wp2
      go_loopg [3, 5] 8 (fun g nv jv wr2 => wr2 = wr ∧ ∃ j : Nat, j ≤ 8 ∧ g = 8 - j ∧ jv = .int .i64 j ∧ nv = .int .i64 (crcI j x0))
      case atStart => exact ⟨rfl, 0, Nat.zero_le _, rfl, rfl, rfl⟩
      case round =>
        obtain ⟨rfl, j, hj, rfl, rfl, rfl⟩ := hrel
        by_cases hjn : j < 8
        · have hcl : crcI j x0 < 65536 := crcI_lt hM
          have hS2 := hide (crcI_succ j x0)
          generalize crcI j x0 = y at *
          by_cases hy : 32768 ≤ y
          · have e1 := crc1_hi hcl hy
            generalize crc1 y = y1 at *
            go_wp2
            go_roundg (8 - (j + 1))
            case measure => omega
            case rel => exact ⟨rfl, j + 1, by omega, rfl, by go_num, by rw [unhide hS2]⟩
          · have e1 := hide (crc1_lo hy)
            go_wp2
            go_roundg (8 - (j + 1))
            case measure => omega
            case rel => exact ⟨rfl, j + 1, by omega, rfl, by go_num, by rw [unhide hS2, ← unhide e1]⟩
        · have hjj : j = 8 := by omega
          subst hjj
          go_wp2
          go_roundg (14 - (k + 1))
          case measure => omega
          case rel => exact ⟨rfl, k + 1, by omega, rfl, by go_num, by rw [unhide hST]⟩
    · have hkk : k = 14 := by omega
      subst hkk
      go_wp2
      go_ret
      exact ⟨rfl, rfl⟩

end Go.Proofs.Ytkjikjeecjendaa

/- Frames: the program's check, number, fix over a frame that stands in memory. No statement about the program stands here. -/
namespace Go.Proofs.Ytkjikjeecjendaa
open Go.RowKit

theorem wrap_u16_id {n : Nat} (h : n < 65536) : IntKind.u16.wrap (n : Int) = (n : Int) := by rw [IntKind.wrap_u16]; omega
theorem wrap_u16_hi {n : Nat} (h : n < 65536) (h' : 32768 ≤ n) : IntKind.u16.wrap ((n : Int) * 2) = ((2 * n - 65536 : Nat) : Int) := by rw [IntKind.wrap_u16]; omega
theorem wrap_u16_lo {n : Nat} (h' : ¬ 32768 ≤ n) : IntKind.u16.wrap ((n : Int) * 2) = ((crc1 n : Nat) : Int) := by
  rw [← crc1_lo h', IntKind.wrap_u16]; omega
theorem wrap_u16_sh {z : Nat} (h : z < 256) : IntKind.u16.wrap ((z : Int) * 256) = (z : Int) * 256 := by rw [IntKind.wrap_u16]; omega

set_option maxRecDepth 10000 in
set_option maxHeartbeats 1600000 in
theorem check_any (b o : Nat) (L : List Byte) (w : World) (h : FrAt w b o L) (hl : L.length = 16) :
    Calls Try.prog 53 #[.pointer (some ⟨b, o, none⟩)] w fun e w' => e = .returned (.int .i64 (crcL (L.take 14))) ∧ w' = w := by
  have HC := hide h
  have HL := hide hl
  clear h hl
  go_enter Try.func53, Try.ntmps53
  go_wp2
  go_loopg [3, 11] 14 (fun g nv iv wr => wr = w ∧ ∃ k : Nat, k ≤ 14 ∧ g = 14 - k ∧ iv = .int .i64 k ∧ nv = .int .u16 (crcL (L.take k)))
  case atStart => exact ⟨rfl, 0, Nat.zero_le _, rfl, rfl, rfl⟩
  case round =>
    obtain ⟨rfl, k, hk, rfl, rfl, rfl⟩ := hrel
    by_cases hkn : k < 14
    · have hcell := unhide HC k (by rw [unhide HL]; omega)
      have hx := crcX_u16 (L.getD k default) (crcL_lt (L.take k))
      have hST := hide (crc_step L (k := k) (by rw [unhide HL]; omega))
      have hlt := crcL_lt (L.take k)
      generalize crcL (L.take k) = m at *
      generalize L.getD k default = z at *
      unfold eB at hcell
      have hz := z.isLt
      have hM : m ^^^ (z.val * 256) < 65536 := xor_lt16 hlt (by omega)
      unfold crcB at hST
      generalize z.val = zv at *
      have hw1 := wrap_u16_sh hz
      have hw2 := wrap_u16_id (n := zv) (by omega)
      generalize m ^^^ (zv * 256) = x0 at *
      go_wp2
      go_loopg [3, 20] 8 (fun g nv jv wr2 => wr2 = wr ∧ ∃ j : Nat, j ≤ 8 ∧ g = 8 - j ∧ jv = .int .i64 j ∧ nv = .int .u16 (crcI j x0))
      case atStart => exact ⟨rfl, 0, Nat.zero_le _, rfl, rfl, rfl⟩
      case round =>
        obtain ⟨rfl, j, hj, rfl, rfl, rfl⟩ := hrel
        clear hx hw1 hw2 hcell
        by_cases hjn : j < 8
        · have hcl : crcI j x0 < 65536 := crcI_lt hM
          have hS2 := hide (crcI_succ j x0)
          generalize crcI j x0 = y at *
          by_cases hy : 32768 ≤ y
          · have e1 := crc1_u16 hcl hy
            have e2 := wrap_u16_hi hcl hy
            have e3 : decide ((32768 : Int) ≤ (y : Int)) = true := by rw [decide_eq_true_eq]; omega
            generalize 2 * y - 65536 = y2 at *
            generalize crc1 y = y1 at *
            clear hy hcl
            go_wp2
            go_roundg (8 - (j + 1))
            case measure => omega
            case rel => exact ⟨rfl, j + 1, by omega, rfl, by go_num, by rw [unhide hS2]⟩
          · have e1 := wrap_u16_lo hy
            have e3 : decide ((32768 : Int) ≤ (y : Int)) = false := by rw [decide_eq_false_iff_not]; omega
            generalize crc1 y = y1 at *
            clear hy hcl
            go_wp2
            go_roundg (8 - (j + 1))
            case measure => omega
            case rel => exact ⟨rfl, j + 1, by omega, rfl, by go_num, by rw [unhide hS2]⟩
        · have hjj : j = 8 := by omega
          subst hjj
          go_wp2
          go_roundg (14 - (k + 1))
          case measure => omega
          case rel => exact ⟨rfl, k + 1, by omega, rfl, by go_num, by rw [unhide hST]⟩
    · have hkk : k = 14 := by omega
      subst hkk
      have hlt := crcL_lt (L.take 14)
      go_wp2
      go_ret
      exact ⟨rfl, rfl⟩

/-- The number that the bytes tell, the highest first. -/
def numB (L : List Byte) : Nat := L.foldl (fun n b => n * 256 + b.val) 0
theorem numB_snoc (L : List Byte) (b : Byte) : numB (L ++ [b]) = numB L * 256 + b.val := by simp [numB, List.foldl_append]
theorem numB_lt (L : List Byte) : numB L < 256 ^ L.length := by
  have : ∀ (L : List Byte) (n k : Nat), n < 256 ^ k → L.foldl (fun n b => n * 256 + b.val) n < 256 ^ (k + L.length) := by
    intro L
    induction L with
    | nil => intro n k h; simpa using h
    | cons b L ih =>
      intro n k h
      rw [List.foldl_cons, List.length_cons, show k + (L.length + 1) = (k + 1) + L.length by omega]
      refine ih _ (k + 1) ?_
      have := b.isLt
      rw [Nat.pow_succ]
      omega
  have := this L 0 0 (by simp)
  rw [Nat.zero_add] at this
  exact this
def cutB (L : List Byte) (f t : Nat) : List Byte := (L.drop f).take (t - f)

theorem Try.arrF : Try.prog.underlying 136 = some (.array (Try.prog.arrayLen 136) (Try.prog.elem 136)) := by kernel_rfl
theorem Try.lenF : Try.prog.arrayLen 136 = 16 := by kernel_rfl
theorem Try.elF : Try.prog.elem 136 = 5 := by kernel_rfl
theorem Try.szF (w : World) : (sizeOf (Try.prog.elem 136)).run Try.prog w = .ok 1 w := by
  rw [Try.elF]
  simp [sizeOf, go_sem]
  rfl
theorem run_cutF (b o f t : Nat) (hft : f < t) (ht : t ≤ 16) (w : World) : (Instr.sliceAt 136 (.pointer (some ⟨b, o, none⟩)) (some (.int .i64 f)) (some (.int .i64 t)) none).run Try.prog w = .ok (.slice (some ⟨b, o + f, none⟩) (t - f) (16 - f)) w := by
  rw [run_sliceAt_array_lh w 136 ⟨b, o, none⟩ Try.arrF .i64 .i64 f t (by omega) (by omega) (by rw [Try.lenF]; omega), Try.lenF, Try.szF]
  simp [go_sem, slicedAt, Addr.add, show ¬ 16 = f by omega]

theorem cutB_len {L : List Byte} {f t : Nat} (hl : L.length = 16) (ht : t ≤ 16) : (cutB L f t).length = t - f := by simp [cutB, hl]; omega
theorem cutB_get {L : List Byte} {f t i : Nat} (hi : i < t - f) : (cutB L f t).getD i default = L.getD (f + i) default := by
  simp [cutB, List.getD, hi]

set_option maxRecDepth 10000 in
set_option maxHeartbeats 1600000 in
theorem number_any (b o : Nat) (L : List Byte) (f t : Nat) (w : World) (h : FrAt w b o L) (hl : L.length = 16) (hft : f < t) (ht : t ≤ 16) (h4 : t ≤ f + 4) :
    Calls Try.prog 57 #[.pointer (some ⟨b, o, none⟩), .int .i64 f, .int .i64 t] w fun e w' => e = .returned (.int .i64 (numB (cutB L f t))) ∧ w' = w := by
  have HC : Hid (∀ i, i < t - f → w.cell? ⟨b, o + f + i, none⟩ = some (eB ((cutB L f t).getD i default))) := fun i hi => by
    rw [cutB_get hi, Nat.add_assoc]
    exact h (f + i) (by omega)
  have hcl := cutB_len (f := f) hl ht
  clear h hl
  generalize cutB L f t = M at *
  have hs := run_cutF b o f t hft ht
  obtain ⟨m, hm⟩ : ∃ m, t - f = m := ⟨_, rfl⟩
  rw [hm] at HC hcl hs
  have hm4 : m ≤ 4 := by omega
  have HL := hide hcl
  clear hcl hm
  go_enter Try.func57, Try.ntmps57
  go_wp2
  clear hs
  go_loopg [7, 16] m (fun g nv iv wr => wr = w ∧ ∃ k : Nat, k ≤ m ∧ g = m - k ∧ iv = .int .i64 k ∧ nv = .int .i64 (numB (M.take k)))
  case atStart => exact ⟨rfl, 0, Nat.zero_le _, rfl, rfl, rfl⟩
  case round =>
    obtain ⟨rfl, k, hk, rfl, rfl, rfl⟩ := hrel
    by_cases hkn : k < m
    · have hcell := unhide HC k hkn
      have hS : numB (M.take (k + 1)) = numB (M.take k) * 256 + (M.getD k default).val := by rw [take_snoc M (by rw [unhide HL]; exact hkn), numB_snoc]
      have hlt : numB (M.take k) < 16777216 := by
        have h1 := numB_lt (M.take k)
        rw [List.length_take, unhide HL] at h1
        have h2 : 256 ^ (min k m) ≤ 256 ^ 3 := Nat.pow_le_pow_right (by omega) (by omega)
        omega
      have HS := hide hS
      clear hS
      generalize numB (M.take k) = y at *
      generalize M.getD k default = z at *
      unfold eB at hcell
      have hz := z.isLt
      generalize z.val = zv at *
      have hj := i64_join y zv (by omega) hz
      go_wp2
      go_roundg (m - (k + 1))
      case measure => omega
      case rel => exact ⟨rfl, k + 1, by omega, rfl, by go_num, by rw [unhide HS]; simp⟩
    · have hkk : k = m := by omega
      subst hkk
      have e : M.take k = M := List.take_of_length_le (by rw [unhide HL]; exact Nat.le_refl _)
      rw [e]
      go_wp2
      go_ret
      exact ⟨rfl, rfl⟩

/-- 24 bits as a number with a sign. -/
def fixB (n : Nat) : Int := if 8388607 < (n : Int) then (n : Int) - 16777216 else n

set_option maxRecDepth 10000 in
set_option maxHeartbeats 1600000 in
theorem fix_any (b o : Nat) (L : List Byte) (f t : Nat) (w : World) (h : FrAt w b o L) (hl : L.length = 16) (hft : f < t) (ht : t ≤ 16) (h4 : t = f + 3) :
    Calls Try.prog 80 #[.pointer (some ⟨b, o, none⟩), .int .i64 f, .int .i64 t] w fun e w' => e = .returned (.int .i64 (fixB (numB (cutB L f t)))) ∧ w' = w := by
  have HN := hide (number_any b o L f t w h hl hft ht (by omega))
  have hlt := numB_lt (cutB L f t)
  rw [cutB_len hl ht, h4, show f + 3 - f = 3 by omega, show 256 ^ 3 = 16777216 by decide] at hlt
  rw [h4] at HN ⊢
  clear h hl h4
  generalize numB (cutB L f (f + 3)) = n at *
  have HT : Hid (fixB n = if 8388607 < (n : Int) then (n : Int) - 16777216 else n) := rfl
  generalize fixB n = r at *
  generalize f + 3 = t' at *
  go_enter Try.func80, Try.ntmps80
  go_wp2_with fail
  refine (unhide HN).mono ?_
  rintro e w' ⟨rfl, h9⟩
  have h8 := h9.symm
  subst h8
  clear h9 HN
  by_cases hn : 8388607 < (n : Int)
  · rw [if_pos hn] at HT
    go_wp2
    go_ret
    exact ⟨by rw [unhide HT]; congr 2, rfl⟩
  · rw [if_neg hn] at HT
    go_wp2
    go_ret
    exact ⟨by rw [unhide HT]; rfl, rfl⟩

end Go.Proofs.Ytkjikjeecjendaa

/- Own words: marks of any kind in a row of the call's own. No statement about the program stands here. -/
namespace Go.Proofs.Ytkjikjeecjendaa
open Go.RowKit

/-- Block g has N cells of the call's own, the first m of them as f tells. -/
def MarkF (f : Nat → Value) (g N m : Nat) (w : World) : Prop := ∃ c t, w.heap[g]? = some (.cells c t (0, 0)) ∧ N ≤ c.size ∧ ∀ q : Nat, q < m → c[q]? = some (f q)

namespace MarkF
variable {f : Nat → Value} {g N m : Nat} {w w' : World}

theorem start {vs : List Value} (h : OwnV w g vs) (hN : N ≤ vs.length) : MarkF f g N 0 w := by
  obtain ⟨c, t, hb, hc⟩ := h
  refine ⟨c, t, hb, ?_, fun q hq => by omega⟩
  rcases Nat.lt_or_ge c.size N with hlt | hge
  · have h1 := hc c.size (by omega)
    rw [List.getElem?_eq_getElem (by omega)] at h1
    simp at h1
  · exact hge
theorem lt (h : MarkF f g N m w) : g < w.heap.size := by
  obtain ⟨c, t, hb, _⟩ := h
  exact (Array.getElem?_eq_some_iff.1 hb).1
theorem grow (h : MarkF f g N m w) (hb : Below w.heap.size w w') : MarkF f g N m w' := by
  have hlt := h.lt
  obtain ⟨c, t, h1, h2, h3⟩ := h
  exact ⟨c, t, (hb.block _ hlt).trans h1, h2, h3⟩
theorem frozen (h : MarkF f g N m w) (j : Nat) : w.frozen? ⟨g, j, none⟩ = false := by
  obtain ⟨c, t, hb, _⟩ := h
  simp [World.frozen?, hb]
theorem cell (h : MarkF f g N m w) {q : Nat} (hq : q < N) : ∃ u, w.cell? ⟨g, q, none⟩ = some u := by
  obtain ⟨c, t, hb, hs, _⟩ := h
  have : q < c.size := by omega
  exact ⟨c[q], by simp [World.cell?, hb, this]⟩
theorem set (h : MarkF f g N m w) (hm : m < N) {v : Value} (hv : v = f m) : MarkF f g N (m + 1) (w.setCell ⟨g, m, none⟩ v) := by
  subst hv
  obtain ⟨c, t, h1, h2, h3⟩ := h
  refine ⟨c.setIfInBounds m (f m), t, ?_, by simpa using h2, fun q hq => ?_⟩
  · simp [World.setCell, Array.getElem?_modify, h1]
  · rw [Array.getElem?_setIfInBounds]
    by_cases e : m = q
    · subst e
      rw [if_pos rfl, if_pos (by omega)]
    · rw [if_neg e]
      exact h3 q (by omega)
theorem done (h : MarkF f g N N w) : OwnV w g ((List.range N).map f) := by
  obtain ⟨c, t, h1, h2, h3⟩ := h
  refine ⟨c, t, h1, fun i hi => ?_⟩
  have hi' : i < N := by simpa using hi
  rw [h3 i hi']
  simp [hi']
end MarkF

end Go.Proofs.Ytkjikjeecjendaa

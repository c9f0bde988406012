/- Laid together out of: Base, WalkA, WalkB, WalkC, WalkD, WalkE, WalkF, Recs, Kept, MrA. -/
import Derived.WalkKit
import Derived.WalkSpells
import Derived.Deep.OwnRows
import Derived.Test.YtmpicamenjnkkaaRows
import Derived.WalkLawsBesides
import Derived.Deep.LoopGhost
import Derived.Deep.QuietTactic
import Derived.BigQuiet

/- Own words of this claim's proofs: what it means that a slice value holds a list of numbers (or of such lists) in a world; that a block is the call's own; the laws by which these go on. No statement about the program stands here. -/
namespace Go.Proofs.Ytmpicamenjnkkaa
open Go.RowKit

/-- The slice value v holds the numbers xs in w. -/
def IntsIn (w : World) (v : Value) (xs : List Int) : Prop :=
  ∃ ao cap, v = .slice ao xs.length cap ∧ xs.length ≤ cap ∧ cap ≤ maxLen ∧ ∀ i, i < xs.length → ∃ b o, ao = some ⟨b, o, none⟩ ∧ w.cell? ⟨b, o + i, none⟩ = some (.int .i64 (xs.getD i 0))

/-- The slice value v holds the lists R in w. -/
def RowsIn (w : World) (v : Value) (R : List (List Int)) : Prop :=
  ∃ ao cap, v = .slice ao R.length cap ∧ R.length ≤ cap ∧ cap ≤ maxLen ∧ ∀ r, r < R.length → ∃ b o vr, ao = some ⟨b, o, none⟩ ∧ w.cell? ⟨b, o + r, none⟩ = some vr ∧ IntsIn w vr (R.getD r [])

theorem getD_lt {α : Type} {xs : List α} {d : α} {i : Nat} (hi : i < xs.length) : xs.getD i d = xs[i] := by
  simp [List.getD, List.getElem?_eq_getElem hi]

theorem all_true {α : Type} {p : α → Bool} {xs : List α} {d : α} (h : ∀ i, i < xs.length → p (xs.getD i d) = true) : xs.all p = true := by
  rw [List.all_eq_true]
  intro x hx
  obtain ⟨i, hi, rfl⟩ := List.mem_iff_getElem.1 hx
  have := h i hi
  rwa [getD_lt hi] at this

theorem all_false {α : Type} {p : α → Bool} {xs : List α} {d : α} {i : Nat} (hi : i < xs.length) (h : p (xs.getD i d) = false) : xs.all p = false := by
  rw [List.all_eq_false]
  refine ⟨xs.getD i d, ?_, by rw [h]; simp⟩
  rw [getD_lt hi]
  exact List.getElem_mem _

theorem all_at {α : Type} {p : α → Bool} {xs : List α} {d : α} {i : Nat} (h : xs.all p = true) (hi : i < xs.length) : p (xs.getD i d) = true := by
  rw [getD_lt hi]
  exact List.all_eq_true.1 h _ (List.getElem_mem _)

theorem hide {p : Prop} (h : p) : Hid p := h
theorem unhide {p : Prop} (h : Hid p) : p := h

theorem lt_of_cell {w : World} {a : Addr} {v : Value} (h : w.cell? a = some v) : a.block < w.heap.size := World.block_lt_of_cell? _ _ h

/-- The same numbers, the slice cut to its length. -/
theorem IntsIn.cut {w : World} {ar : Option Addr} {m cr : Nat} {xs : List Int} (h : IntsIn w (.slice ar m cr) xs) : IntsIn w (.slice ar m m) xs := by
  obtain ⟨ao, cap, e, h1, h2, h3⟩ := h
  simp only [Value.slice.injEq] at e
  obtain ⟨rfl, rfl, rfl⟩ := e
  exact ⟨_, _, rfl, Nat.le_refl _, Nat.le_trans h1 h2, h3⟩

theorem IntsIn.len {w : World} {ar : Option Addr} {m cr : Nat} {xs : List Int} (h : IntsIn w (.slice ar m cr) xs) : xs.length = m ∧ m ≤ cr ∧ cr ≤ maxLen := by
  obtain ⟨ao, cap, e, h1, h2, h3⟩ := h
  simp only [Value.slice.injEq] at e
  obtain ⟨rfl, rfl, rfl⟩ := e
  exact ⟨rfl, h1, h2⟩

/-- One number of a slice whose value is written out. -/
theorem intAt {w : World} {ar : Option Addr} {m cr : Nat} {xs : List Int} {j : Nat} (h : IntsIn w (.slice ar m cr) xs) (hj : j < m) : ∃ b o, ar = some ⟨b, o, none⟩ ∧ w.cell? ⟨b, o + j, none⟩ = some (.int .i64 (xs.getD j 0)) := by
  obtain ⟨ao, cap, e, h1, h2, h3⟩ := h
  simp only [Value.slice.injEq] at e
  obtain ⟨rfl, rfl, rfl⟩ := e
  exact h3 j hj

theorem IntsIn.below {w w' : World} {v : Value} {xs : List Int} (h : IntsIn w v xs) (hb : Below w.heap.size w w') : IntsIn w' v xs := by
  obtain ⟨ao, cap, e, h1, h2, h3⟩ := h
  refine ⟨ao, cap, e, h1, h2, fun i hi => ?_⟩
  obtain ⟨b, o, e1, hc⟩ := h3 i hi
  exact ⟨b, o, e1, (hb.cell (lt_of_cell hc)).trans hc⟩

theorem RowsIn.below {w w' : World} {v : Value} {R : List (List Int)} (h : RowsIn w v R) (hb : Below w.heap.size w w') : RowsIn w' v R := by
  obtain ⟨ao, cap, e, h1, h2, h3⟩ := h
  refine ⟨ao, cap, e, h1, h2, fun i hi => ?_⟩
  obtain ⟨b, o, vr, e1, hc, hr⟩ := h3 i hi
  exact ⟨b, o, vr, e1, (hb.cell (lt_of_cell hc)).trans hc, hr.below hb⟩

/-- One row, its value written out, its length a number of its own. -/
theorem rowAt {w : World} {ao : Option Addr} {R : List (List Int)} {k : Nat} (h : ∀ r, r < R.length → ∃ b o vr, ao = some ⟨b, o, none⟩ ∧ w.cell? ⟨b, o + r, none⟩ = some vr ∧ IntsIn w vr (R.getD r [])) (hk : k < R.length) :
    ∃ b o ar m cr, ao = some ⟨b, o, none⟩ ∧ w.cell? ⟨b, o + k, none⟩ = some (.slice ar m cr) ∧ IntsIn w (.slice ar m cr) (R.getD k []) ∧ Hid ((R.getD k []).length = m) ∧ m ≤ 9223372036854775807 := by
  obtain ⟨b, o, vr, e1, hc, hr⟩ := h k hk
  have hr' := hr
  obtain ⟨ar, cr, rfl, h1, h2, _⟩ := hr
  exact ⟨b, o, ar, _, cr, e1, hc, hr', rfl, by unfold maxLen at h2; omega⟩

theorem bcell {W w1 : World} (hb : Below W.heap.size W w1) : (∀ b o, b < W.heap.size → w1.cell? ⟨b, o, none⟩ = W.cell? ⟨b, o, none⟩) ∧ (∀ b o, b < W.heap.size → w1.frozen? ⟨b, o, none⟩ = W.frozen? ⟨b, o, none⟩) :=
  ⟨fun b o h => hb.cell (p := ⟨b, o, none⟩) h, fun b o h => hb.frozen (p := ⟨b, o, none⟩) h⟩

theorem Below.step {w w1 w2 : World} (h : Below w.heap.size w w1) (k : Below w1.heap.size w1 w2) : Below w.heap.size w w2 := h.trans (k.mono h.size)

theorem below_alloc {w w' : World} (h : Below w.heap.size w w') (o : Obj) : Below w.heap.size w (w'.alloc o) := h.alloc h.size o

/-- Block g holds three values. -/
structure Box3 (w : World) (g : Nat) (x y z : Value) : Prop where
  c0 : w.cell? ⟨g, 0, none⟩ = some x
  c1 : w.cell? ⟨g, 1, none⟩ = some y
  c2 : w.cell? ⟨g, 2, none⟩ = some z

theorem Box3.below {w w' : World} {g B : Nat} {x y z : Value} (h : Box3 w g x y z) (hb : Below B w w') (hg : g < B) : Box3 w' g x y z :=
  ⟨(hb.cell hg).trans h.c0, (hb.cell hg).trans h.c1, (hb.cell hg).trans h.c2⟩

theorem Box3.step {w w' : World} {g : Nat} {x y z : Value} (h : Box3 w g x y z) (hb : Below w.heap.size w w') : Box3 w' g x y z := h.below hb (lt_of_cell h.c0)

theorem box3_alloc (w : World) (x y z : Value) (t : TypeId) : Box3 (w.alloc (.cells #[x, y, z] t)) w.heap.size x y z := ⟨by simp, by simp, by simp⟩

theorem Below.alloc1 (w : World) (o : Obj) : Below w.heap.size w (w.alloc o) := (Below.refl _ _).alloc (Nat.le_refl _) o

/-- BLOCK g IS THE CALL's OWN (never frozen), its first cells the values vs. -/
def OwnV (w : World) (g : Nat) (vs : List Value) : Prop := ∃ c t, w.heap[g]? = some (.cells c t (0, 0)) ∧ ∀ i, i < vs.length → c[i]? = vs[i]?

namespace OwnV
variable {w w' : World} {g : Nat} {vs : List Value}

theorem cell (h : OwnV w g vs) {i : Nat} {v : Value} (hi : vs[i]? = some v) : w.cell? ⟨g, i, none⟩ = some v := by
  obtain ⟨c, t, hb, hc⟩ := h
  have hlt : i < vs.length := by
    rcases Nat.lt_or_ge i vs.length with h | h
    · exact h
    · rw [List.getElem?_eq_none h] at hi; cases hi
  simp [World.cell?, hb, hc i hlt, hi]

theorem frozen (h : OwnV w g vs) (i : Nat) : w.frozen? ⟨g, i, none⟩ = false := by
  obtain ⟨c, t, hb, _⟩ := h
  simp [World.frozen?, hb]

theorem lt (h : OwnV w g vs) : g < w.heap.size := by
  obtain ⟨c, t, hb, _⟩ := h
  obtain ⟨hlt, _⟩ := Array.getElem?_eq_some_iff.1 hb
  exact hlt

theorem of_block (h : OwnV w g vs) (e : w'.heap[g]? = w.heap[g]?) : OwnV w' g vs := by
  obtain ⟨c, t, hb, hc⟩ := h
  exact ⟨c, t, e.trans hb, hc⟩

theorem below {B : Nat} (h : OwnV w g vs) (hb : Below B w w') (hB : g < B) : OwnV w' g vs := h.of_block (hb.block g hB)

theorem set (h : OwnV w g vs) (i : Nat) (v : Value) (hi : i < vs.length) : OwnV (w.setCell ⟨g, i, none⟩ v) g (vs.set i v) := by
  obtain ⟨c, t, hb, hc⟩ := h
  refine ⟨c.setIfInBounds i v, t, ?_, fun j hj => ?_⟩
  · simp [World.setCell, Array.getElem?_modify, hb]
  · rw [List.length_set] at hj
    have hcj := hc j hj
    rw [Array.getElem?_setIfInBounds, List.getElem?_set]
    by_cases e : i = j
    · subst e
      have hsz : i < c.size := by
        have := hc i hi
        rw [List.getElem?_eq_getElem hi] at this
        exact (Array.getElem?_eq_some_iff.1 this).1
      simp [hsz, hi]
    · simp [e, hcj]

theorem other (h : OwnV w g vs) {a : Addr} (ha : g ≠ a.block) (v : Value) : OwnV (w.setCell a v) g vs := h.of_block (by
  simp only [World.setCell, Array.getElem?_modify]
  rw [if_neg (by omega)])

theorem alloc (h : OwnV w g vs) (o : Obj) : OwnV (w.alloc o) g vs := h.of_block (Below.heap_alloc _ _ _ h.lt)

theorem drew (h : OwnV w g vs) : OwnV w.drew g vs := h

end OwnV

def ints (xs : List Int) : List Value := xs.map (Value.int .i64)

theorem ints_length (xs : List Int) : (ints xs).length = xs.length := by simp [ints]

theorem ints_get (xs : List Int) {i : Nat} (h : i < xs.length) : (ints xs)[i]? = some (.int .i64 (xs.getD i 0)) := by
  simp [ints, List.getD, List.getElem?_eq_getElem h]

theorem ints_set (xs : List Int) (i : Nat) (v : Int) : (ints xs).set i (.int .i64 v) = ints (xs.set i v) := by
  simp [ints, List.map_set]

theorem OwnV.intsIn {w : World} {g cap : Nat} {xs : List Int} (h : OwnV w g (ints xs)) (hl : xs.length ≤ cap) (hm : cap ≤ maxLen) : IntsIn w (.slice (some ⟨g, 0, none⟩) xs.length cap) xs :=
  ⟨_, cap, rfl, hl, hm, fun i hi => ⟨g, 0, rfl, by rw [Nat.zero_add]; exact h.cell (ints_get xs hi)⟩⟩

theorem rowIs_ownV {w : World} {b n : Nat} {t : TypeId} {f : Nat → Value} {vs : List Value} (h : w.rowIs b t n f) (hl : vs.length = n) (hf : ∀ i, i < n → vs[i]? = some (f i)) : OwnV w b vs := by
  obtain ⟨c, hb, _, hc⟩ := h
  exact ⟨c, t, hb, fun i hi => by rw [hc i (hl ▸ hi), hf i (hl ▸ hi)]⟩

/-- The cells of a list of rows that lie in the blocks G. -/
def tops (G C : Nat → Nat) (R : List (List Int)) : List Value := (List.range R.length).map fun r => .slice (some ⟨G r, 0, none⟩) (R.getD r []).length (C r)

theorem tops_length (G C : Nat → Nat) (R : List (List Int)) : (tops G C R).length = R.length := by simp [tops]

theorem tops_get (G C : Nat → Nat) (R : List (List Int)) {r : Nat} (h : r < R.length) : (tops G C R)[r]? = some (.slice (some ⟨G r, 0, none⟩) (R.getD r []).length (C r)) := by
  simp [tops, h]

/-- A LIST OF ROWS OF THE CALL's OWN: its block g, one block a row, in rising order, all from B on. -/
structure OwnRows (B : Nat) (w : World) (g : Nat) (G C : Nat → Nat) (R : List (List Int)) : Prop where
  base : B ≤ g
  top : OwnV w g (tops G C R)
  rows : ∀ r, r < R.length → OwnV w (G r) (ints (R.getD r []))
  caps : ∀ r, r < R.length → (R.getD r []).length ≤ C r ∧ C r ≤ maxLen
  above : ∀ r, r < R.length → B ≤ G r ∧ G r ≠ g
  apart : ∀ r s, r < R.length → s < R.length → r ≠ s → G r ≠ G s

theorem OwnRows.rowsIn {B : Nat} {w : World} {g cap : Nat} {G C : Nat → Nat} {R : List (List Int)} (h : OwnRows B w g G C R) (hl : R.length ≤ cap) (hm : cap ≤ maxLen) : RowsIn w (.slice (some ⟨g, 0, none⟩) R.length cap) R :=
  ⟨_, cap, rfl, hl, hm, fun r hr => ⟨g, 0, _, rfl, by rw [Nat.zero_add]; exact h.top.cell (tops_get G C R hr), (h.rows r hr).intsIn (h.caps r hr).1 (h.caps r hr).2⟩⟩

theorem OwnRows.below {B : Nat} {w w' : World} {g : Nat} {G C : Nat → Nat} {R : List (List Int)} (h : OwnRows B w g G C R) (hb : Below w.heap.size w w') : OwnRows B w' g G C R :=
  ⟨h.base, h.top.below hb h.top.lt, fun r hr => (h.rows r hr).below hb (h.rows r hr).lt, h.caps, h.above, h.apart⟩

theorem OwnRows.mono {B B' : Nat} {w : World} {g : Nat} {G C : Nat → Nat} {R : List (List Int)} (h : OwnRows B w g G C R) (hB : B' ≤ B) : OwnRows B' w g G C R :=
  ⟨Nat.le_trans hB h.base, h.top, h.rows, h.caps, fun r hr => ⟨Nat.le_trans hB (h.above r hr).1, (h.above r hr).2⟩, h.apart⟩

theorem OwnRows.setBelow {B : Nat} {w : World} {g : Nat} {G C : Nat → Nat} {R : List (List Int)} (h : OwnRows B w g G C R) {a : Addr} (ha : a.block < B) (v : Value) : OwnRows B (w.setCell a v) g G C R :=
  ⟨h.base, h.top.other (by have := h.base; omega) v, fun r hr => (h.rows r hr).other (by have := (h.above r hr).1; omega) v, h.caps, h.above, h.apart⟩

end Go.Proofs.Ytmpicamenjnkkaa

/- Contracts of the laws' own helpers: szIntS, szIntSS, szHull (what they return and what they leave of memory). -/
namespace Go.Proofs.Ytmpicamenjnkkaa
open Go.RowKit

set_option maxHeartbeats 400000 in
theorem szIntS_no (v : Value) (xs : List Int) (left : Int) (w : World) (h : IntsIn w v xs) (h0 : 0 ≤ left) (h1 : left ≤ 1048576) (hlt : left < (xs.length : Int)) :
    Calls Try.prog 66 #[v, .int .i64 left] w fun e w' => e = .returned (.int .i64 (-1)) ∧ w = w' := by
  obtain ⟨ao, cap, rfl, hl, hm, hc⟩ := h
  clear hc
  unfold maxLen at hm
  generalize xs.length = n at *
  go_enter Try.func66, Try.ntmps66
  go_wp2
  go_ret
  exact ⟨rfl, rfl⟩

set_option maxHeartbeats 400000 in
theorem szIntS_yes (v : Value) (xs : List Int) (left : Int) (w : World) (h : IntsIn w v xs) (h1 : left ≤ 1048576) (hlt : (xs.length : Int) ≤ left) :
    Calls Try.prog 66 #[v, .int .i64 left] w fun e w' => e = .returned (.int .i64 (left - xs.length)) ∧ w = w' := by
  obtain ⟨ao, cap, rfl, hl, hm, hc⟩ := h
  clear hc
  unfold maxLen at hm
  generalize xs.length = n at *
  go_enter Try.func66, Try.ntmps66
  go_wp2
  go_ret
  exact ⟨rfl, rfl⟩

/-- What szIntSS tells: where it is not below 0 neither the list nor a row of it is longer than 2^20. -/
def Sized (R : List (List Int)) (r : Int) : Prop := -1 ≤ r ∧ r ≤ 1048576 ∧ (0 ≤ r → R.length ≤ 1048576 ∧ ∀ i, i < R.length → (R.getD i []).length ≤ 1048576)

/-- A hull's value: its three fields. -/
abbrev hullV (step rise : Int) (v : Value) : Value := .agg #[.int .i64 step, .int .i64 rise, v]

end Go.Proofs.Ytmpicamenjnkkaa

/- Contracts of the laws' own copiers: toIntS, toIntSS, toHull: new memory that holds the same numbers, one block a row. -/
namespace Go.Proofs.Ytmpicamenjnkkaa
open Go.RowKit

theorem Try.info3 : (Try.prog.info? 3).map (fun i => (i.zero, i.size, i.bytes)) = some (some (.int .i64 0), 1, 8) := by kernel_rfl
theorem Try.info24 : (Try.prog.info? 24).map (fun i => (i.zero, i.size, i.bytes)) = some (some (.slice none 0 0), 1, 24) := by kernel_rfl

/-- The new row, k of its cells filled. -/
structure Fill (w wr : World) (xs : List Int) (k : Nat) : Prop where
  below : Below w.heap.size w wr
  size : wr.heap.size = w.heap.size + 1
  row : wr.rowIs w.heap.size 3 xs.length (fun i => if i < k then .int .i64 (xs.getD i 0) else .int .i64 0)

theorem fill_start (w : World) (xs : List Int) : Fill w (w.alloc (.cells (madeCells #[.int .i64 0] xs.length) 3)) xs 0 :=
  ⟨(Below.refl _ _).alloc (Nat.le_refl _) _, by simp, (World.rowIs_made w _ xs.length 3).congr (fun j _ => by simp)⟩

theorem fill_step {w wr : World} {xs : List Int} {k : Nat} (h : Fill w wr xs k) : Fill w (wr.setCell ⟨w.heap.size, k, none⟩ (.int .i64 (xs.getD k 0))) xs (k + 1) := by
  refine ⟨h.below.setCell (Nat.le_refl _) _, by simp [h.size], (h.row.set k _).congr (fun i _ => ?_)⟩
  by_cases e : i = k
  · subst e; simp
  · rw [if_neg e]
    by_cases hlt : i < k
    · rw [if_pos hlt, if_pos (by omega)]
    · rw [if_neg hlt, if_neg (by omega)]

theorem fill_done {w wr : World} {xs : List Int} (h : Fill w wr xs xs.length) : OwnV wr w.heap.size (ints xs) :=
  rowIs_ownV h.row (ints_length xs) (fun i hi => by rw [ints_get xs hi, if_pos hi])

set_option maxHeartbeats 400000 in
theorem toIntS_any (v : Value) (xs : List Int) (w : World) (h : IntsIn w v xs) (hs : xs.length ≤ 1048576) :
    Calls Try.prog 71 #[v] w fun e w' => e = .returned (.slice (some ⟨w.heap.size, 0, none⟩) xs.length xs.length) ∧ OwnV w' w.heap.size (ints xs) ∧ Below w.heap.size w w' ∧ w'.heap.size = w.heap.size + 1 := by
  obtain ⟨ao, cap, rfl, hl, hm, hc⟩ := h
  clear hl hm
  have HC := hide hc
  clear hc
  have hmk := run_make_row' (P := Try.prog) 24 3 (.int .i64 0) 8 Try.underlying24 Try.info3 rfl .i64 .i64 xs.length (by omega) (by omega)
  go_enter Try.func71, Try.ntmps71
  go_wp2
  clear hmk
  go_loopg [4] xs.length (fun g i wr => ∃ k : Nat, k ≤ xs.length ∧ g = xs.length - k ∧ i = .int .i64 k ∧ Fill w wr xs k)
  case atStart => exact ⟨0, Nat.zero_le _, rfl, rfl, fill_start w xs⟩
  case round =>
    obtain ⟨k, hk, rfl, rfl, hF⟩ := hrel
    by_cases hkn : k < xs.length
    · obtain ⟨b, o, rfl, hcell⟩ := unhide HC k hkn
      have g1 : wr.cell? ⟨b, o + k, none⟩ = some (.int .i64 (xs.getD k 0)) := (hF.below.cell (lt_of_cell hcell)).trans hcell
      have g2 : wr.cell? ⟨w.heap.size, k, none⟩ = some (.int .i64 0) := by simpa using hF.row.cell hkn
      have g3 : wr.frozen? ⟨w.heap.size, k, none⟩ = false := hF.row.frozen k
      have hst := fill_step hF
      clear hcell hF
      have HF := hide hst
      clear hst
      generalize xs.getD k 0 = x at *
      go_wp2
      go_roundg (xs.length - (k + 1))
      case measure => omega
      case rel => exact ⟨k + 1, by omega, rfl, by go_num, unhide HF⟩
    · have hkk : k = xs.length := by omega
      subst hkk
      go_wp2
      go_ret
      exact ⟨rfl, fill_done hF, hF.below, hF.size⟩

/-- The new list of rows, k of them made. -/
structure FillR (w wr : World) (R : List (List Int)) (k : Nat) : Prop where
  below : Below w.heap.size w wr
  size : wr.heap.size = w.heap.size + 1 + k
  top : wr.rowIs w.heap.size 24 R.length (fun r => if r < k then .slice (some ⟨w.heap.size + 1 + r, 0, none⟩) (R.getD r []).length (R.getD r []).length else .slice none 0 0)
  rows : ∀ r, r < k → OwnV wr (w.heap.size + 1 + r) (ints (R.getD r []))

theorem fillR_start (w : World) (R : List (List Int)) : FillR w (w.alloc (.cells (madeCells #[.slice none 0 0] R.length) 24)) R 0 :=
  ⟨(Below.refl _ _).alloc (Nat.le_refl _) _, by simp, (World.rowIs_made w _ R.length 24).congr (fun j _ => by simp), fun r hr => by omega⟩

theorem fillR_step {w wr w1 : World} {R : List (List Int)} {k : Nat} (h : FillR w wr R k) (hk : k < R.length) (ho : OwnV w1 wr.heap.size (ints (R.getD k []))) (hb : Below wr.heap.size wr w1) (hs : w1.heap.size = wr.heap.size + 1) :
    FillR w (w1.setCell ⟨w.heap.size, k, none⟩ (.slice (some ⟨wr.heap.size, 0, none⟩) (R.getD k []).length (R.getD k []).length)) R (k + 1) := by
  have hsz := h.size
  have hlt := h.top.lt
  refine ⟨(h.below.trans (hb.mono (by omega))).setCell (Nat.le_refl _) _, by simp [hs, hsz]; omega, ((h.top.of_block (hb.block _ hlt)).set k _).congr (fun i _ => ?_), fun r hr => ?_⟩
  · by_cases e : i = k
    · subst e; simp [hsz]
    · rw [if_neg e]
      by_cases hlt : i < k
      · rw [if_pos hlt, if_pos (by omega)]
      · rw [if_neg hlt, if_neg (by omega)]
  · by_cases e : r = k
    · subst e
      rw [hsz] at ho
      exact ho.other (by show w.heap.size + 1 + r ≠ w.heap.size; omega) _
    · exact ((h.rows r (by omega)).below hb (h.rows r (by omega)).lt).other (by show w.heap.size + 1 + r ≠ w.heap.size; omega) _

theorem fillR_done {w wr : World} {R : List (List Int)} (h : FillR w wr R R.length) (hl : ∀ i, i < R.length → (R.getD i []).length ≤ 1048576) : OwnRows w.heap.size wr w.heap.size (fun r => w.heap.size + 1 + r) (fun r => (R.getD r []).length) R :=
  ⟨Nat.le_refl _, rowIs_ownV h.top (tops_length _ _ R) (fun i hi => by rw [tops_get _ _ R hi, if_pos hi]), h.rows, fun r hr => ⟨Nat.le_refl _, by have := hl r hr; unfold maxLen; omega⟩,
    fun r _ => ⟨by omega, by omega⟩, fun r s _ _ hne => by omega⟩

end Go.Proofs.Ytmpicamenjnkkaa

/- Contracts of the laws' own comparers: eqIntS, eqIntSS, eqHull: of two values that hold the same numbers they tell true. -/
namespace Go.Proofs.Ytmpicamenjnkkaa
open Go.RowKit

theorem below_drewN {w w' : World} (h : Below w.heap.size w w') (n : Nat) : Below w.heap.size w (w'.drewN n) := h.trans ⟨rfl, rfl, rfl, Nat.le_refl _, fun _ _ => rfl⟩

theorem IntsIn.drewN {w : World} {v : Value} {xs : List Int} (h : IntsIn w v xs) (n : Nat) : IntsIn (w.drewN n) v xs := h.below (below_drewN (Below.refl _ _) n)
theorem RowsIn.drewN {w : World} {v : Value} {xs : List (List Int)} (h : RowsIn w v xs) (n : Nat) : RowsIn (w.drewN n) v xs := h.below (below_drewN (Below.refl _ _) n)

set_option maxHeartbeats 400000 in
theorem eqIntS_any (v v' : Value) (xs : List Int) (w : World) (h : IntsIn w v xs) (h' : IntsIn w v' xs) :
    Calls Try.prog 33 #[v, v'] w fun e w' => e = .returned (.bool true) ∧ ∃ n, w' = w.drewN n := by
  obtain ⟨ao, cap, rfl, hl, hm, hc⟩ := h
  obtain ⟨ao', cap', rfl, _, _, hc'⟩ := h'
  unfold maxLen at hm
  have HC := hide hc
  have HC' := hide hc'
  clear hc hc'
  go_enter Try.func33, Try.ntmps33
  go_wp2
  go_loopg [5] xs.length (fun g i wr => ∃ q, wr = w.drewN q ∧ ∃ k : Nat, k ≤ xs.length ∧ g = xs.length - k ∧ i = .int .i64 k)
  case atStart => exact ⟨0, rfl, 0, Nat.zero_le _, rfl, rfl⟩
  case round =>
    obtain ⟨q, rfl, k, hk, rfl, rfl⟩ := hrel
    by_cases hkn : k < xs.length
    · obtain ⟨b, o, rfl, hcell⟩ := unhide HC k hkn
      obtain ⟨b', o', rfl, hcell'⟩ := unhide HC' k hkn
      generalize xs.getD k 0 = x at *
      go_wp2
      go_quiet (fail)
      go_wp2
      go_roundg (xs.length - (k + 1))
      case measure => omega
      case rel => exact ⟨_, rfl, k + 1, by omega, rfl, by go_num⟩
    · go_wp2
      go_ret
      exact ⟨rfl, q, rfl⟩

end Go.Proofs.Ytmpicamenjnkkaa

/- When a hull is right (hullOk), and the contracts of the program's own helpers within, halvesOk, station and of HullOk, and of the specification's l1In and HullOk: both tell hullOk. -/
namespace Go.Proofs.Ytmpicamenjnkkaa
open Go.RowKit

def inB (x a b : Int) : Bool := decide (a ≤ x) && decide (x ≤ b)

theorem inB_true {x a b : Int} (h : inB x a b = true) : a ≤ x ∧ x ≤ b := by simpa [inB] using h
theorem inB_mk {x a b : Int} (h : a ≤ x) (h' : x ≤ b) : inB x a b = true := by simp [inB, h, h']
theorem inB_not {x a b : Int} (h : x < a ∨ b < x) : inB x a b = false := by simp [inB]; omega

def rowOk (n : Nat) (r : List Int) : Bool := (r.length == n) && inB r.length 2 10 && r.all (fun x => inB x 0 50)

def hullOk (step rise : Int) (R : List (List Int)) : Bool := inB step 1 100 && inB rise 1 20 && inB R.length 2 12 && R.all (rowOk (R.getD 0 []).length)

theorem rowOk_len {n : Nat} {r : List Int} (h : r.length ≠ n) : rowOk n r = false := by simp [rowOk, h]
theorem rowOk_in {n : Nat} {r : List Int} (h : inB r.length 2 10 = false) : rowOk n r = false := by simp [rowOk, h]
theorem rowOk_all {n : Nat} {r : List Int} (h : (r.all fun x => inB x 0 50) = false) : rowOk n r = false := by unfold rowOk; rw [h]; simp
theorem rowOk_mk {n : Nat} {r : List Int} (h1 : r.length = n) (h2 : inB n 2 10 = true) (h3 : (r.all fun x => inB x 0 50) = true) : rowOk n r = true := by
  unfold rowOk; rw [h3, h1, h2]; simp

theorem ret_bool {a b : Bool} (h : a = b) : Ending.returned (.bool a) = .returned (.bool b) := by rw [h]

set_option maxHeartbeats 400000 in
theorem l1In_any (x a b : Int) (w : World) : Calls Try.prog 56 #[.int .i64 x, .int .i64 a, .int .i64 b] w fun e w' => e = .returned (.bool (inB x a b)) ∧ w' = w := by
  by_cases h1 : a ≤ x
  · by_cases h2 : x ≤ b
    · go_enter Try.func56, Try.ntmps56
      go_wp2
      go_ret
      exact ⟨ret_bool (by simp [inB, h1, h2]), rfl⟩
    · go_enter Try.func56, Try.ntmps56
      go_wp2
      go_ret
      exact ⟨ret_bool (by rw [inB_not (by omega)]), rfl⟩
  · have hd : decide (a ≤ x) = false := by simpa using h1
    go_enter Try.func56, Try.ntmps56
    go_wp2
    go_ret
    exact ⟨ret_bool (by rw [inB_not (by omega)]), rfl⟩

set_option maxHeartbeats 400000 in
theorem within_any (x a b : Int) (w : World) : Calls Try.prog 50 #[.int .i64 x, .int .i64 a, .int .i64 b] w fun e w' => e = .returned (.bool (inB x a b)) ∧ w' = w := by
  by_cases h1 : a ≤ x
  · by_cases h2 : x ≤ b
    · go_enter Try.func50, Try.ntmps50
      go_wp2
      go_ret
      exact ⟨ret_bool (by simp [inB, h1, h2]), rfl⟩
    · go_enter Try.func50, Try.ntmps50
      go_wp2
      go_ret
      exact ⟨ret_bool (by rw [inB_not (by omega)]), rfl⟩
  · have hd : decide (a ≤ x) = false := by simpa using h1
    go_enter Try.func50, Try.ntmps50
    go_wp2
    go_ret
    exact ⟨ret_bool (by rw [inB_not (by omega)]), rfl⟩

theorem hullOk_row {step rise : Int} {R : List (List Int)} {k : Nat} (hk : k < R.length) (h : rowOk (R.getD 0 []).length (R.getD k []) = false) : hullOk step rise R = false := by
  unfold hullOk
  rw [all_false hk h]
  simp

end Go.Proofs.Ytmpicamenjnkkaa

/- The contract of the specification's HullOk: it tells hullOk. -/
namespace Go.Proofs.Ytmpicamenjnkkaa
open Go.RowKit

theorem hullOk_mk {step rise : Int} {R : List (List Int)} (h1 : inB step 1 100 = true) (h2 : inB rise 1 20 = true) (h3 : inB R.length 2 12 = true) (h : ∀ r, r < R.length → rowOk (R.getD 0 []).length (R.getD r []) = true) : hullOk step rise R = true := by
  unfold hullOk
  rw [h1, h2, h3, all_true (d := []) h]
  rfl

end Go.Proofs.Ytmpicamenjnkkaa

/- A region whose order Go leaves open and whose callees only make memory: one walk serves (the worlds that have only grown). Contracts of waterCount, stripCount, isWater, bothHalves and of the specification's l1Water. -/
namespace Go.Proofs.Ytmpicamenjnkkaa
open Go.RowKit

/-- A world in which nothing of W has turned. -/
structure Gr (W : World) where
  val : World
  ok : Below W.heap.size W val

theorem wp_region_grown {P : Program} {id : Nat} {Q : Exit → Act → World → Prop} {a : Act} {w : World} {l : List Oper} (hm : P.follows .mixedOrders = true) (hB : Region.lexB .any l.toArray = true)
    (h : wpQuiet P l.toArray (fun w' => ∃ x : Gr w, w' = x.val) (fun a' => ∀ w', (∃ x : Gr w, w' = x.val) → Q .normal a' w') l a) : (Code.region id l.toArray true).wp P Q a w :=
  wp_region_quiet (C := fun w' => ∃ x : Gr w, w' = x.val) hm hB ⟨⟨w.drew, (Below.refl _ _).drew⟩, rfl⟩ (by simpa using h)

theorem calls_grown {P : Program} {f : FuncId} {args : Array Value} {w : World} {x : Gr w} {v : Value} (h : Calls P f args x.val fun e w' => e = .returned v ∧ Below x.val.heap.size x.val w') :
    Calls P f args x.val fun e w'' => e = .returned v ∧ ∃ y : Gr w, w'' = y.val :=
  h.mono fun _ w' ⟨he, hb⟩ => ⟨he, ⟨w', Below.step x.ok hb⟩, rfl⟩

theorem gr_some (w : World) : Nonempty (Gr w) := ⟨⟨w, Below.refl _ _⟩⟩

theorem gr_cell {w : World} {a : Addr} {v : Value} (h : w.cell? a = some v) (x : Gr w) : x.val.cell? a = some v := (x.ok.cell (lt_of_cell h)).trans h

/-- A water line of a right hull. -/
def waterOk (step rise : Int) (R : List (List Int)) (c : Int) : Bool := hullOk step rise R && inB c 0 ((R.getD 0 []).length - 1)

theorem hullOk_pos {step rise : Int} {R : List (List Int)} (h : hullOk step rise R = true) : 2 ≤ R.length ∧ R.length ≤ 12 := by
  unfold hullOk at h
  simp only [Bool.and_eq_true] at h
  have := inB_true h.1.2
  omega

end Go.Proofs.Ytmpicamenjnkkaa

/- Own words: a slice of flat records (n cells each, each cell told by 'enc'), read in a world; such a slice in new memory of the call's own. No statement about the program stands here. -/
namespace Go.Proofs.Ytmpicamenjnkkaa
open Go.RowKit

/-- The slice value v holds the records L in w: n cells each, cell j of a record x being 'enc x j'. -/
def RecsIn {α : Type} [Inhabited α] (n : Nat) (enc : α → Nat → Value) (w : World) (v : Value) (L : List α) : Prop :=
  ∃ ao cap, v = .slice ao L.length cap ∧ L.length ≤ cap ∧ cap ≤ maxLen ∧ ∀ i, i < L.length → ∃ b o, ao = some ⟨b, o, none⟩ ∧ ∀ j, j < n → w.cell? ⟨b, o + (i * n + j), none⟩ = some (enc (L.getD i default) j)

section
variable {α : Type} [Inhabited α] {n : Nat} {enc : α → Nat → Value} {w w' : World} {v : Value} {L : List α}

theorem RecsIn.below (h : RecsIn n enc w v L) (hb : Below w.heap.size w w') : RecsIn n enc w' v L := by
  obtain ⟨ao, cap, e, h1, h2, h3⟩ := h
  refine ⟨ao, cap, e, h1, h2, fun i hi => ?_⟩
  obtain ⟨b, o, e1, hc⟩ := h3 i hi
  exact ⟨b, o, e1, fun j hj => (hb.cell (lt_of_cell (hc j hj))).trans (hc j hj)⟩

/-- The cells of records in a row. -/
def recCells (n : Nat) (enc : α → Nat → Value) (L : List α) : List Value := (List.range (L.length * n)).map fun k => enc (L.getD (k / n) default) (k % n)

theorem recCells_length : (recCells n enc L).length = L.length * n := by simp [recCells]

theorem rec_place {i j n : Nat} (hj : j < n) : (i * n + j) / n = i ∧ (i * n + j) % n = j := by
  have hn : 0 < n := by omega
  constructor
  · rw [Nat.add_comm, Nat.add_mul_div_right _ _ hn, Nat.div_eq_of_lt hj, Nat.zero_add]
  · rw [Nat.add_comm, Nat.add_mul_mod_self_right, Nat.mod_eq_of_lt hj]

theorem rec_lt {i j n m : Nat} (hi : i < m) (hj : j < n) : i * n + j < m * n := by
  have : (i + 1) * n ≤ m * n := Nat.mul_le_mul_right n (by omega)
  rw [Nat.succ_mul] at this
  omega

theorem recCells_get {i j : Nat} (hi : i < L.length) (hj : j < n) : (recCells n enc L)[i * n + j]? = some (enc (L.getD i default) j) := by
  have h := rec_lt hi hj
  simp [recCells, List.getElem?_range h, (rec_place (i := i) hj).1, (rec_place (i := i) hj).2]

theorem OwnV.recsIn {g cap : Nat} (h : OwnV w g (recCells n enc L)) (hl : L.length ≤ cap) (hm : cap ≤ maxLen) : RecsIn n enc w (.slice (some ⟨g, 0, none⟩) L.length cap) L :=
  ⟨_, cap, rfl, hl, hm, fun i hi => ⟨g, 0, rfl, fun j hj => by rw [Nat.zero_add]; exact h.cell (recCells_get hi hj)⟩⟩

theorem recsIn_nil : RecsIn n enc w (.slice none 0 0) ([] : List α) := ⟨none, 0, rfl, Nat.le_refl _, Nat.zero_le _, fun i hi => by simp at hi⟩

end

/-- make of k records. -/
theorem run_make_recs {P : Program} (t e : TypeId) (z : Value) (n bytes : Nat) (ht : P.underlying t = some (.slice e)) (hinfo : (P.info? e).map (fun i => (i.zero, i.size, i.bytes)) = some (some z, n, bytes))
    (kl kc : IntKind) (k : Nat) (hbytes : bytes * k ≤ 281474976710656) (h63 : k ≤ 9223372036854775807) (w : World) :
    (Instr.makeSlice t (.int kl (k : Int)) (.int kc (k : Int))).run P w = .ok (.slice (some ⟨w.heap.size, 0, none⟩) k k) (w.alloc (.cells (madeCells z.cells (k * n)) e)) := by
  obtain ⟨i, hi, hzz⟩ := Option.map_eq_some_iff.1 hinfo
  simp only [Prod.mk.injEq] at hzz
  obtain ⟨hz, hs, hb⟩ := hzz
  have hb' : (i.bytes : Int) * (k : Int) ≤ 281474976710656 := by
    have h : ((i.bytes * k : Nat) : Int) ≤ 281474976710656 := by rw [hb]; omega
    rwa [Int.natCast_mul] at h
  have hr := run_make (P := P) w t e i z ht hi hz kl kc k k (by omega) (Int.le_refl _) hb' (by omega)
  simp only [Int.toNat_natCast, hs] at hr
  exact hr

/-- Three numbers; two numbers. -/
abbrev I3 := Int × Int × Int
abbrev I2 := Int × Int
def e3 (x : I3) : Nat → Value
  | 0 => .int .i64 x.1
  | 1 => .int .i64 x.2.1
  | _ => .int .i64 x.2.2
def e2 (x : I2) : Nat → Value
  | 0 => .int .i64 x.1
  | _ => .int .i64 x.2
abbrev v3 (x : I3) : Value := .agg #[.int .i64 x.1, .int .i64 x.2.1, .int .i64 x.2.2]
abbrev v2 (x : I2) : Value := .agg #[.int .i64 x.1, .int .i64 x.2]
abbrev R3 := RecsIn 3 e3
abbrev R2 := RecsIn 2 e2

/-- One record of three, its cells written out, its three numbers as numbers of their own. -/
theorem rec3At {w : World} {ao : Option Addr} {L : List I3} {k : Nat} (h : ∀ i, i < L.length → ∃ b o, ao = some ⟨b, o, none⟩ ∧ ∀ j, j < 3 → w.cell? ⟨b, o + (i * 3 + j), none⟩ = some (e3 (L.getD i default) j)) (hk : k < L.length) :
    ∃ b o x y z, ao = some ⟨b, o, none⟩ ∧ w.cell? ⟨b, o + k * 3, none⟩ = some (.int .i64 x) ∧ w.cell? ⟨b, o + k * 3 + 1, none⟩ = some (.int .i64 y) ∧ w.cell? ⟨b, o + k * 3 + 2, none⟩ = some (.int .i64 z) ∧ Hid (L.getD k default = (x, y, z)) := by
  obtain ⟨b, o, e, hc⟩ := h k hk
  exact ⟨b, o, _, _, _, e, hc 0 (by omega), hc 1 (by omega), hc 2 (by omega), rfl⟩

theorem rec2At {w : World} {ao : Option Addr} {L : List I2} {k : Nat} (h : ∀ i, i < L.length → ∃ b o, ao = some ⟨b, o, none⟩ ∧ ∀ j, j < 2 → w.cell? ⟨b, o + (i * 2 + j), none⟩ = some (e2 (L.getD i default) j)) (hk : k < L.length) :
    ∃ b o x y, ao = some ⟨b, o, none⟩ ∧ w.cell? ⟨b, o + k * 2, none⟩ = some (.int .i64 x) ∧ w.cell? ⟨b, o + k * 2 + 1, none⟩ = some (.int .i64 y) ∧ Hid (L.getD k default = (x, y)) := by
  obtain ⟨b, o, e, hc⟩ := h k hk
  exact ⟨b, o, _, _, e, hc 0 (by omega), hc 1 (by omega), rfl⟩

theorem wcell3 {w w' : World} {b o : Nat} {v : Value} (h : w.cell? ⟨b, o, none⟩ = some v) (hb : Below w.heap.size w w') : w'.cell? ⟨b, o, none⟩ = some v := (hb.cell (lt_of_cell h)).trans h

/-- A new row of records in the block that w had next, the first m of its cells filled. -/
def FillC {α : Type} [Inhabited α] (n : Nat) (enc : α → Nat → Value) (w wr : World) (L : List α) (m : Nat) : Prop :=
  Below w.heap.size w wr ∧ ∃ c t, wr.heap[w.heap.size]? = some (.cells c t (0, 0)) ∧ c.size = L.length * n ∧ ∀ q, q < m → c[q]? = some (enc (L.getD (q / n) default) (q % n))

namespace FillC
variable {α : Type} [Inhabited α] {n : Nat} {enc : α → Nat → Value} {w wr w1 : World} {L : List α} {m : Nat}

theorem start (w : World) (L : List α) (z : Array Value) (t : TypeId) : FillC n enc w (w.alloc (.cells (madeCells z (L.length * n)) t)) L 0 :=
  ⟨(Below.refl _ _).alloc (Nat.le_refl _) _, _, t, Deep.blk_alloc_new _ _, size_madeCells _ _, fun q hq => by omega⟩

theorem below (h : FillC n enc w wr L m) : Below w.heap.size w wr := h.1

theorem lt (h : FillC n enc w wr L m) : w.heap.size < wr.heap.size := by
  obtain ⟨_, c, t, hb, _⟩ := h
  exact (Array.getElem?_eq_some_iff.1 hb).1

theorem grow (h : FillC n enc w wr L m) (hb : Below wr.heap.size wr w1) : FillC n enc w w1 L m := by
  have hlt := h.lt
  obtain ⟨h0, c, t, h1, h2, h3⟩ := h
  exact ⟨Below.step h0 hb, c, t, (hb.block _ hlt).trans h1, h2, h3⟩

theorem frozen (h : FillC n enc w wr L m) (j : Nat) : wr.frozen? ⟨w.heap.size, j, none⟩ = false := by
  obtain ⟨_, c, t, hb, _⟩ := h
  simp [World.frozen?, hb]

theorem cell (h : FillC n enc w wr L m) {q : Nat} (hq : q < L.length * n) : ∃ u, wr.cell? ⟨w.heap.size, q, none⟩ = some u := by
  obtain ⟨_, c, t, hb, hs, _⟩ := h
  have : q < c.size := by omega
  exact ⟨c[q], by simp [World.cell?, hb, this]⟩

theorem set (h : FillC n enc w wr L m) {v : Value} (hm : m < L.length * n) (hv : enc (L.getD (m / n) default) (m % n) = v) : FillC n enc w (wr.setCell ⟨w.heap.size, m, none⟩ v) L (m + 1) := by
  have hlt := h.lt
  obtain ⟨h0, c, t, h1, h2, h3⟩ := h
  refine ⟨h0.setCell (Nat.le_refl _) _, c.setIfInBounds m v, t, ?_, by simpa using h2, fun q hq => ?_⟩
  · simp [World.setCell, Array.getElem?_modify, h1]
  · rw [Array.getElem?_setIfInBounds]
    by_cases e : m = q
    · subst e
      rw [if_pos rfl, if_pos (by omega), hv]
    · rw [if_neg e]
      exact h3 q (by omega)

theorem done (h : FillC n enc w wr L (L.length * n)) : OwnV wr w.heap.size (recCells n enc L) := by
  obtain ⟨_, c, t, h1, h2, h3⟩ := h
  refine ⟨c, t, h1, fun i hi => ?_⟩
  rw [recCells_length] at hi
  rw [h3 i hi]
  simp [recCells, List.getElem?_range hi]

end FillC

/-- What a sz function tells: where it is not below 0 the list is not longer than 2^20. -/
def SizedL (n : Nat) (r : Int) : Prop := -1 ≤ r ∧ r ≤ 1048576 ∧ (0 ≤ r → n ≤ 1048576)

/-- Block g has N cells of the call's own, the first m of them marked from k on. -/
def MarkC (g : Nat) (k : Int) (N m : Nat) (w : World) : Prop := ∃ c t, w.heap[g]? = some (.cells c t (0, 0)) ∧ N ≤ c.size ∧ ∀ q : Nat, q < m → c[q]? = some (.int .i64 (k + (q : Int)))

namespace MarkC
variable {g N m : Nat} {k : Int} {w w' : World}

theorem start {vs : List Value} (h : OwnV w g vs) (hN : N ≤ vs.length) : MarkC g k N 0 w := by
  obtain ⟨c, t, hb, hc⟩ := h
  refine ⟨c, t, hb, ?_, fun q hq => by omega⟩
  rcases Nat.lt_or_ge c.size N with hlt | hge
  · have h1 := hc c.size (by omega)
    rw [List.getElem?_eq_getElem (by omega)] at h1
    simp at h1
  · exact hge

theorem frozen (h : MarkC g k N m w) (j : Nat) : w.frozen? ⟨g, j, none⟩ = false := by
  obtain ⟨c, t, hb, _⟩ := h
  simp [World.frozen?, hb]

theorem cell (h : MarkC g k N m w) {q : Nat} (hq : q < N) : ∃ u, w.cell? ⟨g, q, none⟩ = some u := by
  obtain ⟨c, t, hb, hs, _⟩ := h
  have : q < c.size := by omega
  exact ⟨c[q], by simp [World.cell?, hb, this]⟩

theorem set (h : MarkC g k N m w) (hm : m < N) {v : Int} (hv : v = k + (m : Int)) : MarkC g k N (m + 1) (w.setCell ⟨g, m, none⟩ (.int .i64 v)) := by
  subst hv
  obtain ⟨c, t, h1, h2, h3⟩ := h
  refine ⟨c.setIfInBounds m (.int .i64 (k + (m : Int))), t, ?_, by simpa using h2, fun q hq => ?_⟩
  · simp [World.setCell, Array.getElem?_modify, h1]
  · rw [Array.getElem?_setIfInBounds]
    by_cases e : m = q
    · subst e
      rw [if_pos rfl, if_pos (by omega)]
    · rw [if_neg e]
      exact h3 q (by omega)

theorem done (h : MarkC g k N N w) : OwnV w g (ints ((List.range N).map fun i : Nat => k + (i : Int))) := by
  obtain ⟨c, t, h1, h2, h3⟩ := h
  refine ⟨c, t, h1, fun i hi => ?_⟩
  have hi' : i < N := by simpa [ints] using hi
  rw [h3 i hi']
  simp [ints, hi']

end MarkC

theorem marked_cell {w : World} {g N q : Nat} {k : Int} (h : OwnV w g (ints ((List.range N).map fun i : Nat => k + (i : Int)))) (hq : q < N) : w.cell? ⟨g, q, none⟩ = some (.int .i64 (k + (q : Int))) :=
  h.cell (by simp [ints, hq])

end Go.Proofs.Ytmpicamenjnkkaa

/- Own words of this claim's proofs: of what was there only some blocks have turned. -/
namespace Go.Proofs.Ytmpicamenjnkkaa
open Go.RowKit

/-- Of what was there only blocks of T have turned. -/
structure Kept (T : Nat → Prop) (w w' : World) : Prop where
  os : w'.os = w.os
  tape : w'.tape = w.tape
  output : w'.output = w.output
  size : w.heap.size ≤ w'.heap.size
  block : ∀ k, k < w.heap.size → ¬ T k → w'.heap[k]? = w.heap[k]?

theorem Kept.refl (T : Nat → Prop) (w : World) : Kept T w w := ⟨rfl, rfl, rfl, Nat.le_refl _, fun _ _ _ => rfl⟩

theorem Kept.trans {T : Nat → Prop} {a b c : World} (h : Kept T a b) (k : Kept T b c) : Kept T a c :=
  ⟨k.os.trans h.os, k.tape.trans h.tape, k.output.trans h.output, Nat.le_trans h.size k.size, fun i hi ht => (k.block i (Nat.lt_of_lt_of_le hi h.size) ht).trans (h.block i hi ht)⟩

theorem Kept.mono {T T' : Nat → Prop} {w w' : World} (h : Kept T w w') (ht : ∀ k, k < w.heap.size → T k → T' k) : Kept T' w w' := ⟨h.os, h.tape, h.output, h.size, fun k hk hn => h.block k hk (fun x => hn (ht k hk x))⟩

theorem Kept.below {T : Nat → Prop} {w w' : World} {B : Nat} (h : Kept T w w') (hB : B ≤ w.heap.size) (ht : ∀ k, T k → B ≤ k) : Below B w w' :=
  ⟨h.os, h.tape, h.output, h.size, fun k hk => h.block k (by omega) (fun x => by have := ht k x; omega)⟩

theorem kept_of_below {T : Nat → Prop} {w w' : World} (h : Below w.heap.size w w') : Kept T w w' := ⟨h.os, h.tape, h.output, h.size, fun k hk _ => h.block k hk⟩

theorem Kept.setCell {T : Nat → Prop} {a w : World} (h : Kept T a w) {p : Addr} (hp : T p.block) (u : Value) : Kept T a (w.setCell p u) :=
  h.trans ⟨rfl, rfl, rfl, by simp [World.setCell], fun k _ hk => Below.heap_setCell _ _ _ _ (fun e => hk (e ▸ hp))⟩

theorem OwnV.kept {T : Nat → Prop} {w w' : World} {g : Nat} {vs : List Value} (h : OwnV w g vs) (hk : Kept T w w') (hg : ¬ T g) : OwnV w' g vs := h.of_block (hk.block g h.lt hg)

theorem Box3.kept {T : Nat → Prop} {w w' : World} {g : Nat} {x y z : Value} (h : Box3 w g x y z) (hk : Kept T w w') (hg : ¬ T g) : Box3 w' g x y z := by
  have e := hk.block g (lt_of_cell h.c0) hg
  exact ⟨(World.cell?_of_block (w := w) (a := ⟨g, 0, none⟩) e).trans h.c0, (World.cell?_of_block (w := w) (a := ⟨g, 1, none⟩) e).trans h.c1, (World.cell?_of_block (w := w) (a := ⟨g, 2, none⟩) e).trans h.c2⟩

end Go.Proofs.Ytmpicamenjnkkaa

/- Own words: marks of any kind in a row of the call's own. No statement about the program stands here. -/
namespace Go.Proofs.Ytmpicamenjnkkaa
open Go.RowKit

/-- Block g has N cells of the call's own, the first m of them as f tells. -/
def MarkF (f : Nat → Value) (g N m : Nat) (w : World) : Prop := ∃ c t, w.heap[g]? = some (.cells c t (0, 0)) ∧ N ≤ c.size ∧ ∀ q : Nat, q < m → c[q]? = some (f q)

namespace MarkF
variable {f : Nat → Value} {g N m : Nat} {w w' : World}

theorem start {vs : List Value} (h : OwnV w g vs) (hN : N ≤ vs.length) : MarkF f g N 0 w := by
  obtain ⟨c, t, hb, hc⟩ := h
  refine ⟨c, t, hb, ?_, fun q hq => by omega⟩
  rcases Nat.lt_or_ge c.size N with hlt | hge
  · have h1 := hc c.size (by omega)
    rw [List.getElem?_eq_getElem (by omega)] at h1
    simp at h1
  · exact hge
theorem lt (h : MarkF f g N m w) : g < w.heap.size := by
  obtain ⟨c, t, hb, _⟩ := h
  exact (Array.getElem?_eq_some_iff.1 hb).1
theorem grow (h : MarkF f g N m w) (hb : Below w.heap.size w w') : MarkF f g N m w' := by
  have hlt := h.lt
  obtain ⟨c, t, h1, h2, h3⟩ := h
  exact ⟨c, t, (hb.block _ hlt).trans h1, h2, h3⟩
theorem frozen (h : MarkF f g N m w) (j : Nat) : w.frozen? ⟨g, j, none⟩ = false := by
  obtain ⟨c, t, hb, _⟩ := h
  simp [World.frozen?, hb]
theorem cell (h : MarkF f g N m w) {q : Nat} (hq : q < N) : ∃ u, w.cell? ⟨g, q, none⟩ = some u := by
  obtain ⟨c, t, hb, hs, _⟩ := h
  have : q < c.size := by omega
  exact ⟨c[q], by simp [World.cell?, hb, this]⟩
theorem set (h : MarkF f g N m w) (hm : m < N) {v : Value} (hv : v = f m) : MarkF f g N (m + 1) (w.setCell ⟨g, m, none⟩ v) := by
  subst hv
  obtain ⟨c, t, h1, h2, h3⟩ := h
  refine ⟨c.setIfInBounds m (f m), t, ?_, by simpa using h2, fun q hq => ?_⟩
  · simp [World.setCell, Array.getElem?_modify, h1]
  · rw [Array.getElem?_setIfInBounds]
    by_cases e : m = q
    · subst e
      rw [if_pos rfl, if_pos (by omega)]
    · rw [if_neg e]
      exact h3 q (by omega)
theorem done (h : MarkF f g N N w) : OwnV w g ((List.range N).map f) := by
  obtain ⟨c, t, h1, h2, h3⟩ := h
  refine ⟨c, t, h1, fun i hi => ?_⟩
  have hi' : i < N := by simpa using hi
  rw [h3 i hi']
  simp [hi']
end MarkF

end Go.Proofs.Ytmpicamenjnkkaa

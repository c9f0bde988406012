/- Contracts of the laws' own copiers: toIntS, toIntSS, toHull: new memory that holds the same numbers, one block a row. -/
import Derived.Test.YtjpogaidcmndoaaWalkA
namespace Go.Proofs.Ytjpogaidcmndoaa
open Go.RowKit

theorem Try.info3 : (Try.prog.info? 3).map (fun i => (i.zero, i.size, i.bytes)) = some (some (.int .i64 0), 1, 8) := by kernel_rfl
theorem Try.info78 : (Try.prog.info? 78).map (fun i => (i.zero, i.size, i.bytes)) = some (some (.slice none 0 0), 1, 24) := by kernel_rfl

/-- The new row, k of its cells filled. -/
structure Fill (w wr : World) (xs : List Int) (k : Nat) : Prop where
  below : Below w.heap.size w wr
  size : wr.heap.size = w.heap.size + 1
  row : wr.rowIs w.heap.size 3 xs.length (fun i => if i < k then .int .i64 (xs.getD i 0) else .int .i64 0)

theorem fill_start (w : World) (xs : List Int) : Fill w (w.alloc (.cells (madeCells #[.int .i64 0] xs.length) 3)) xs 0 :=
  ⟨(Below.refl _ _).alloc (Nat.le_refl _) _, by simp, (World.rowIs_made w _ xs.length 3).congr (fun j _ => by simp)⟩

theorem fill_step {w wr : World} {xs : List Int} {k : Nat} (h : Fill w wr xs k) : Fill w (wr.setCell ⟨w.heap.size, k, none⟩ (.int .i64 (xs.getD k 0))) xs (k + 1) := by
  refine ⟨h.below.setCell (Nat.le_refl _) _, by simp [h.size], (h.row.set k _).congr (fun i _ => ?_)⟩
  by_cases e : i = k
  · subst e; simp
  · rw [if_neg e]
    by_cases hlt : i < k
    · rw [if_pos hlt, if_pos (by omega)]
    · rw [if_neg hlt, if_neg (by omega)]

theorem fill_done {w wr : World} {xs : List Int} (h : Fill w wr xs xs.length) : OwnV wr w.heap.size (ints xs) :=
  rowIs_ownV h.row (ints_length xs) (fun i hi => by rw [ints_get xs hi, if_pos hi])

/-- The new list of rows, k of them made. -/
structure FillR (w wr : World) (R : List (List Int)) (k : Nat) : Prop where
  below : Below w.heap.size w wr
  size : wr.heap.size = w.heap.size + 1 + k
  top : wr.rowIs w.heap.size 78 R.length (fun r => if r < k then .slice (some ⟨w.heap.size + 1 + r, 0, none⟩) (R.getD r []).length (R.getD r []).length else .slice none 0 0)
  rows : ∀ r, r < k → OwnV wr (w.heap.size + 1 + r) (ints (R.getD r []))

theorem fillR_start (w : World) (R : List (List Int)) : FillR w (w.alloc (.cells (madeCells #[.slice none 0 0] R.length) 78)) R 0 :=
  ⟨(Below.refl _ _).alloc (Nat.le_refl _) _, by simp, (World.rowIs_made w _ R.length 78).congr (fun j _ => by simp), fun r hr => by omega⟩

theorem fillR_step {w wr w1 : World} {R : List (List Int)} {k : Nat} (h : FillR w wr R k) (hk : k < R.length) (ho : OwnV w1 wr.heap.size (ints (R.getD k []))) (hb : Below wr.heap.size wr w1) (hs : w1.heap.size = wr.heap.size + 1) :
    FillR w (w1.setCell ⟨w.heap.size, k, none⟩ (.slice (some ⟨wr.heap.size, 0, none⟩) (R.getD k []).length (R.getD k []).length)) R (k + 1) := by
  have hsz := h.size
  have hlt := h.top.lt
  refine ⟨(h.below.trans (hb.mono (by omega))).setCell (Nat.le_refl _) _, by simp [hs, hsz]; omega, ((h.top.of_block (hb.block _ hlt)).set k _).congr (fun i _ => ?_), fun r hr => ?_⟩
  · by_cases e : i = k
    · subst e; simp [hsz]
    · rw [if_neg e]
      by_cases hlt : i < k
      · rw [if_pos hlt, if_pos (by omega)]
      · rw [if_neg hlt, if_neg (by omega)]
  · by_cases e : r = k
    · subst e
      rw [hsz] at ho
      exact ho.other (by show w.heap.size + 1 + r ≠ w.heap.size; omega) _
    · exact ((h.rows r (by omega)).below hb (h.rows r (by omega)).lt).other (by show w.heap.size + 1 + r ≠ w.heap.size; omega) _

theorem fillR_done {w wr : World} {R : List (List Int)} (h : FillR w wr R R.length) (hl : ∀ i, i < R.length → (R.getD i []).length ≤ 1048576) : OwnRows w.heap.size wr w.heap.size (fun r => w.heap.size + 1 + r) (fun r => (R.getD r []).length) R :=
  ⟨Nat.le_refl _, rowIs_ownV h.top (tops_length _ _ R) (fun i hi => by rw [tops_get _ _ R hi, if_pos hi]), h.rows, fun r hr => ⟨Nat.le_refl _, by have := hl r hr; unfold maxLen; omega⟩,
    fun r _ => ⟨by omega, by omega⟩, fun r s _ _ hne => by omega⟩

end Go.Proofs.Ytjpogaidcmndoaa

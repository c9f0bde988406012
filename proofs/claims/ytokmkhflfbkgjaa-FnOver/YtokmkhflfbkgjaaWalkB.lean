/- Contracts of the laws' own copiers: toIntS, toIntSS, toHull: new memory that holds the same numbers, one block a row. -/
import Derived.Test.YtokmkhflfbkgjaaWalkA
namespace Go.Proofs.Ytokmkhflfbkgjaa
open Go.RowKit

theorem Try.info3 : (Try.prog.info? 3).map (fun i => (i.zero, i.size, i.bytes)) = some (some (.int .i64 0), 1, 8) := by kernel_rfl
/-- The new row, k of its cells filled. -/
structure Fill (w wr : World) (xs : List Int) (k : Nat) : Prop where
  below : Below w.heap.size w wr
  size : wr.heap.size = w.heap.size + 1
  row : wr.rowIs w.heap.size 3 xs.length (fun i => if i < k then .int .i64 (xs.getD i 0) else .int .i64 0)

theorem fill_start (w : World) (xs : List Int) : Fill w (w.alloc (.cells (madeCells #[.int .i64 0] xs.length) 3)) xs 0 :=
  ⟨(Below.refl _ _).alloc (Nat.le_refl _) _, by simp, (World.rowIs_made w _ xs.length 3).congr (fun j _ => by simp)⟩

theorem fill_step {w wr : World} {xs : List Int} {k : Nat} (h : Fill w wr xs k) : Fill w (wr.setCell ⟨w.heap.size, k, none⟩ (.int .i64 (xs.getD k 0))) xs (k + 1) := by
  refine ⟨h.below.setCell (Nat.le_refl _) _, by simp [h.size], (h.row.set k _).congr (fun i _ => ?_)⟩
  by_cases e : i = k
  · subst e; simp
  · rw [if_neg e]
    by_cases hlt : i < k
    · rw [if_pos hlt, if_pos (by omega)]
    · rw [if_neg hlt, if_neg (by omega)]

theorem fill_done {w wr : World} {xs : List Int} (h : Fill w wr xs xs.length) : OwnV wr w.heap.size (ints xs) :=
  rowIs_ownV h.row (ints_length xs) (fun i hi => by rw [ints_get xs hi, if_pos hi])

end Go.Proofs.Ytokmkhflfbkgjaa

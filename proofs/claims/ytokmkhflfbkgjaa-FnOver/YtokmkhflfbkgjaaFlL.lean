/- Lists of floats: contracts of the laws' own toFloat64S, eqFloat64S. -/
import Derived.Test.YtokmkhflfbkgjaaFlK
import Derived.Test.YtokmkhflfbkgjaaWalkC
namespace Go.Proofs.Ytokmkhflfbkgjaa
open Go.RowKit

attribute [local go_sem] run_store_float

theorem Try.infoF64 : (Try.prog.info? 30).map (fun i => (i.zero, i.size, i.bytes)) = some (some (.float .f64 0), 1, 8) := by kernel_rfl

/-- The new row, k of its cells filled. -/
structure FillF (w wr : World) (xs : List Nat) (k : Nat) : Prop where
  below : Below w.heap.size w wr
  size : wr.heap.size = w.heap.size + 1
  row : wr.rowIs w.heap.size 30 xs.length (fun i => if i < k then .float .f64 (xs.getD i 0) else .float .f64 0)

theorem fillF_start (w : World) (xs : List Nat) : FillF w (w.alloc (.cells (madeCells #[.float .f64 0] xs.length) 30)) xs 0 :=
  ⟨(Below.refl _ _).alloc (Nat.le_refl _) _, by simp, (World.rowIs_made w _ xs.length 30).congr (fun j _ => by simp)⟩

theorem fillF_step {w wr : World} {xs : List Nat} {k : Nat} (h : FillF w wr xs k) : FillF w (wr.setCell ⟨w.heap.size, k, none⟩ (.float .f64 (xs.getD k 0))) xs (k + 1) := by
  refine ⟨h.below.setCell (Nat.le_refl _) _, by simp [h.size], (h.row.set k _).congr (fun i _ => ?_)⟩
  by_cases e : i = k
  · subst e; simp
  · rw [if_neg e]
    by_cases hlt : i < k
    · rw [if_pos hlt, if_pos (by omega)]
    · rw [if_neg hlt, if_neg (by omega)]

theorem fillF_done {w wr : World} {xs : List Nat} (h : FillF w wr xs xs.length) : OwnV wr w.heap.size (fls xs) :=
  rowIs_ownV h.row (fls_length xs) (fun i hi => by rw [fls_get xs hi, if_pos hi])

end Go.Proofs.Ytokmkhflfbkgjaa

/- Contracts of the laws' own helpers over flat structs: eqX (two alike are told alike), toX. -/
import Derived.Test.YticcjdcglfiggaaWalkA
import Derived.Test.YticcjdcglfiggaaRecs
namespace Go.Proofs.Yticcjdcglfiggaa
open Go.RowKit

set_option maxHeartbeats 400000 in
theorem toFrac_any (x y : Int) (w : World) :
    Calls Try.prog 41 #[v2 (x, y)] w fun e w' => e = .returned (v2 (x, y)) ∧ Below w.heap.size w w' := by
  unfold v2
  go_enter Try.func41, Try.ntmps41
  go_wp2
  refine bodyPost_ret (v := v2 (x, y)) (by simp [results, Try.results41, go_sem]) rfl ⟨rfl, ?_⟩
  exact (((Below.refl _ _).alloc (Nat.le_refl _) _).alloc (by simp) _).alloc (by simp; omega) _

end Go.Proofs.Yticcjdcglfiggaa

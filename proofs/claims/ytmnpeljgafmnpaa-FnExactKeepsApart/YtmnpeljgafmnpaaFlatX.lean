/- Contracts of the laws' own helpers over flat structs: eqX (two alike are told alike), toX. -/
import Derived.Test.YtmnpeljgafmnpaaWalkA
import Derived.Test.YtmnpeljgafmnpaaRecs
namespace Go.Proofs.Ytmnpeljgafmnpaa
open Go.RowKit

set_option maxHeartbeats 400000 in
theorem toSpot_any (x y z : Int) (w : World) :
    Calls Try.prog 30 #[v3 (x, y, z)] w fun e w' => e = .returned (v3 (x, y, z)) ∧ Below w.heap.size w w' := by
  unfold v3
  go_enter Try.func30, Try.ntmps30
  go_wp2
  refine bodyPost_ret (v := v3 (x, y, z)) (by simp [results, Try.results30, go_sem]) rfl ⟨rfl, ?_⟩
  exact (((Below.refl _ _).alloc (Nat.le_refl _) _).alloc (by simp) _).alloc (by simp; omega) _

end Go.Proofs.Ytmnpeljgafmnpaa

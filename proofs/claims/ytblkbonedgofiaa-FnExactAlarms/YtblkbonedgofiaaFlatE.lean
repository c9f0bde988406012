/- Contracts of the laws' own helpers over flat structs: eqX (two alike are told alike), toX. -/
import Derived.Test.YtblkbonedgofiaaWalkA
import Derived.Test.YtblkbonedgofiaaRecs
namespace Go.Proofs.Ytblkbonedgofiaa
open Go.RowKit

set_option maxHeartbeats 400000 in
theorem toAlarmRule_any (x y z : Int) (w : World) :
    Calls Try.prog 24 #[v3 (x, y, z)] w fun e w' => e = .returned (v3 (x, y, z)) ∧ Below w.heap.size w w' := by
  unfold v3
  go_enter Try.func24, Try.ntmps24
  go_wp2
  refine bodyPost_ret (v := v3 (x, y, z)) (by simp [results, Try.results24, go_sem]) rfl ⟨rfl, ?_⟩
  exact (((Below.refl _ _).alloc (Nat.le_refl _) _).alloc (by simp) _).alloc (by simp; omega) _

end Go.Proofs.Ytblkbonedgofiaa

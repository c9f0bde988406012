/- Contracts of the laws' own helpers over flat structs: eqX (two alike are told alike), toX. -/
import Derived.Test.YtdkfleodgdpckaaWalkA
import Derived.Test.YtdkfleodgdpckaaRecs
namespace Go.Proofs.Ytdkfleodgdpckaa
open Go.RowKit

set_option maxHeartbeats 400000 in
theorem eqSpot_any (x y z : Int) (w : World) :
    Calls Try.prog 115 #[v3 (x, y, z), v3 (x, y, z)] w fun e w' => e = .returned (.bool true) ∧ Below w.heap.size w w' := by
  unfold v3
  go_enter Try.func115, Try.ntmps115
  go_wp2
  go_ret
  exact ⟨rfl, ((Below.refl _ _).alloc (Nat.le_refl _) _).alloc (by simp) _⟩

set_option maxHeartbeats 400000 in
theorem toSpot_any (x y z : Int) (w : World) :
    Calls Try.prog 114 #[v3 (x, y, z)] w fun e w' => e = .returned (v3 (x, y, z)) ∧ Below w.heap.size w w' := by
  unfold v3
  go_enter Try.func114, Try.ntmps114
  go_wp2
  refine bodyPost_ret (v := v3 (x, y, z)) (by simp [results, Try.results114, go_sem]) rfl ⟨rfl, ?_⟩
  exact (((Below.refl _ _).alloc (Nat.le_refl _) _).alloc (by simp) _).alloc (by simp; omega) _

end Go.Proofs.Ytdkfleodgdpckaa

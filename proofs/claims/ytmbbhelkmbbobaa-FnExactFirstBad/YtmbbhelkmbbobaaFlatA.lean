/- Contracts of the laws' own helpers over flat structs: eqX (two alike are told alike), toX. -/
import Derived.Test.YtmbbhelkmbbobaaWalkA
import Derived.Test.YtmbbhelkmbbobaaRecs
namespace Go.Proofs.Ytmbbhelkmbbobaa
open Go.RowKit

set_option maxHeartbeats 400000 in
theorem eqLoad_any (x y z : Int) (w : World) :
    Calls Try.prog 31 #[v3 (x, y, z), v3 (x, y, z)] w fun e w' => e = .returned (.bool true) ∧ Below w.heap.size w w' := by
  unfold v3
  go_enter Try.func31, Try.ntmps31
  go_wp2
  go_ret
  exact ⟨rfl, ((Below.refl _ _).alloc (Nat.le_refl _) _).alloc (by simp) _⟩

set_option maxHeartbeats 400000 in
theorem eqFrac_any (x y : Int) (w : World) :
    Calls Try.prog 37 #[v2 (x, y), v2 (x, y)] w fun e w' => e = .returned (.bool true) ∧ Below w.heap.size w w' := by
  unfold v2
  go_enter Try.func37, Try.ntmps37
  go_wp2
  go_ret
  exact ⟨rfl, ((Below.refl _ _).alloc (Nat.le_refl _) _).alloc (by simp) _⟩

set_option maxHeartbeats 400000 in
theorem toFrac_any (x y : Int) (w : World) :
    Calls Try.prog 49 #[v2 (x, y)] w fun e w' => e = .returned (v2 (x, y)) ∧ Below w.heap.size w w' := by
  unfold v2
  go_enter Try.func49, Try.ntmps49
  go_wp2
  refine bodyPost_ret (v := v2 (x, y)) (by simp [results, Try.results49, go_sem]) rfl ⟨rfl, ?_⟩
  exact (((Below.refl _ _).alloc (Nat.le_refl _) _).alloc (by simp) _).alloc (by simp; omega) _

end Go.Proofs.Ytmbbhelkmbbobaa

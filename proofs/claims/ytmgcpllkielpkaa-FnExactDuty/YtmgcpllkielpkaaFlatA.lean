/- Contracts of the laws' own helpers over flat structs: eqX (two alike are told alike), toX. -/
import Derived.Test.YtmgcpllkielpkaaWalkA
import Derived.Test.YtmgcpllkielpkaaRecs
namespace Go.Proofs.Ytmgcpllkielpkaa
open Go.RowKit

set_option maxHeartbeats 400000 in
theorem eqFrac_any (x y : Int) (w : World) :
    Calls Try.prog 23 #[v2 (x, y), v2 (x, y)] w fun e w' => e = .returned (.bool true) ∧ Below w.heap.size w w' := by
  unfold v2
  go_enter Try.func23, Try.ntmps23
  go_wp2
  go_ret
  exact ⟨rfl, ((Below.refl _ _).alloc (Nat.le_refl _) _).alloc (by simp) _⟩

end Go.Proofs.Ytmgcpllkielpkaa

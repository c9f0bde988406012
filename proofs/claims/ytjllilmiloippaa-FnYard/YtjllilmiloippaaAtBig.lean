/- Contracts of the laws' own big and at. -/
import Derived.Test.YtjllilmiloippaaDraw
import Derived.Test.YtjllilmiloippaaBase
namespace Go.Proofs.Ytjllilmiloippaa
open Go.RowKit

set_option maxHeartbeats 400000 in
theorem big_any (ao : Option Addr) (n cap : Nat) (w : World) : Calls Try.prog 11 #[.slice ao n cap] w fun e w' => e = .returned (.bool (decide ((1048576 : Int) < (n : Int)))) ∧ w = w' := by
  go_enter Try.func11, Try.ntmps11
  go_wp2
  go_ret
  exact ⟨rfl, rfl⟩

end Go.Proofs.Ytjllilmiloippaa

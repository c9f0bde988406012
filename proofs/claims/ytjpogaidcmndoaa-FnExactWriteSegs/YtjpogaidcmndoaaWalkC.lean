/- Contracts of the laws' own comparers: eqIntS, eqIntSS, eqHull: of two values that hold the same numbers they tell true. -/
import Derived.Test.YtjpogaidcmndoaaWalkB
import Derived.Deep.QuietTactic
import Derived.BigQuiet
namespace Go.Proofs.Ytjpogaidcmndoaa
open Go.RowKit

theorem below_drewN {w w' : World} (h : Below w.heap.size w w') (n : Nat) : Below w.heap.size w (w'.drewN n) := h.trans ⟨rfl, rfl, rfl, Nat.le_refl _, fun _ _ => rfl⟩

theorem IntsIn.drewN {w : World} {v : Value} {xs : List Int} (h : IntsIn w v xs) (n : Nat) : IntsIn (w.drewN n) v xs := h.below (below_drewN (Below.refl _ _) n)
theorem RowsIn.drewN {w : World} {v : Value} {xs : List (List Int)} (h : RowsIn w v xs) (n : Nat) : RowsIn (w.drewN n) v xs := h.below (below_drewN (Below.refl _ _) n)

end Go.Proofs.Ytjpogaidcmndoaa

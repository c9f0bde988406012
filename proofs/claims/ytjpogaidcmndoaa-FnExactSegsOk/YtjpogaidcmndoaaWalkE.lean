/- The contract of the specification's HullOk: it tells hullOk. -/
import Derived.Test.YtjpogaidcmndoaaWalkD
namespace Go.Proofs.Ytjpogaidcmndoaa
open Go.RowKit

theorem hullOk_mk {step rise : Int} {R : List (List Int)} (h1 : inB step 1 100 = true) (h2 : inB rise 1 20 = true) (h3 : inB R.length 2 12 = true) (h : ∀ r, r < R.length → rowOk (R.getD 0 []).length (R.getD r []) = true) : hullOk step rise R = true := by
  unfold hullOk
  rw [h1, h2, h3, all_true (d := []) h]
  rfl

end Go.Proofs.Ytjpogaidcmndoaa

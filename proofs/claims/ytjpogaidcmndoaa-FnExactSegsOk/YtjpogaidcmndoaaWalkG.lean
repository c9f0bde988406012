/- Contracts of the specification's l1Water and of the program's bothHalves. -/
import Derived.Test.YtjpogaidcmndoaaWalkF
import Derived.Deep.RegionWith
namespace Go.Proofs.Ytjpogaidcmndoaa
open Go.RowKit

theorem rows0_le {w : World} {v : Value} {R : List (List Int)} (h : RowsIn w v R) {r : Nat} (hr : r < R.length) : (R.getD r []).length ≤ 9223372036854775807 := by
  obtain ⟨ao', cap', _, _, _, hc⟩ := h
  obtain ⟨b, o, ar, m, cr, _, _, _, EM, hm0⟩ := rowAt hc hr
  rw [unhide EM]; exact hm0

/-- The half-breadth at a station and a water line. -/
def cellOf (R : List (List Int)) (s c : Nat) : Int := (R.getD s []).getD c 0

end Go.Proofs.Ytjpogaidcmndoaa

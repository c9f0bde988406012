/- The contract of the program's Strips2: the strips, in memory of its own. -/
import Derived.Test.YtjpogaidcmndoaaWalkJ
namespace Go.Proofs.Ytjpogaidcmndoaa
open Go.RowKit

theorem ret_val {a b : Value} (h : a = b) : Ending.returned a = .returned b := by rw [h]

end Go.Proofs.Ytjpogaidcmndoaa

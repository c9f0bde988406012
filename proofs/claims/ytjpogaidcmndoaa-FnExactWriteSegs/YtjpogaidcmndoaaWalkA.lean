/- Contracts of the laws' own helpers: szIntS, szIntSS, szHull (what they return and what they leave of memory). -/
import Derived.Test.YtjpogaidcmndoaaRows
import Derived.Test.YtjpogaidcmndoaaBase
import Derived.WalkKit
import Derived.WalkSpells
import Derived.WalkLawsBesides
import Derived.Deep.LoopGhost
namespace Go.Proofs.Ytjpogaidcmndoaa
open Go.RowKit

/-- What szIntSS tells: where it is not below 0 neither the list nor a row of it is longer than 2^20. -/
def Sized (R : List (List Int)) (r : Int) : Prop := -1 ≤ r ∧ r ≤ 1048576 ∧ (0 ≤ r → R.length ≤ 1048576 ∧ ∀ i, i < R.length → (R.getD i []).length ≤ 1048576)

/-- A hull's value: its three fields. -/
abbrev hullV (step rise : Int) (v : Value) : Value := .agg #[.int .i64 step, .int .i64 rise, v]

end Go.Proofs.Ytjpogaidcmndoaa

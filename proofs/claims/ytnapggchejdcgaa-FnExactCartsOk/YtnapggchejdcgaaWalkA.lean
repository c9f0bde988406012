/- Contracts of the laws' own helpers: szIntS, szIntSS, szHull (what they return and what they leave of memory). -/
import Derived.Test.YtnapggchejdcgaaRows
import Derived.Test.YtnapggchejdcgaaBase
import Derived.WalkKit
import Derived.WalkSpells
import Derived.WalkLawsBesides
import Derived.Deep.LoopGhost
namespace Go.Proofs.Ytnapggchejdcgaa
open Go.RowKit

set_option maxHeartbeats 400000 in
theorem szIntS_no (v : Value) (xs : List Int) (left : Int) (w : World) (h : IntsIn w v xs) (h0 : 0 ≤ left) (h1 : left ≤ 1048576) (hlt : left < (xs.length : Int)) :
    Calls Try.prog 58 #[v, .int .i64 left] w fun e w' => e = .returned (.int .i64 (-1)) ∧ w = w' := by
  obtain ⟨ao, cap, rfl, hl, hm, hc⟩ := h
  clear hc
  unfold maxLen at hm
  generalize xs.length = n at *
  go_enter Try.func58, Try.ntmps58
  go_wp2
  go_ret
  exact ⟨rfl, rfl⟩

set_option maxHeartbeats 400000 in
theorem szIntS_yes (v : Value) (xs : List Int) (left : Int) (w : World) (h : IntsIn w v xs) (h1 : left ≤ 1048576) (hlt : (xs.length : Int) ≤ left) :
    Calls Try.prog 58 #[v, .int .i64 left] w fun e w' => e = .returned (.int .i64 (left - xs.length)) ∧ w = w' := by
  obtain ⟨ao, cap, rfl, hl, hm, hc⟩ := h
  clear hc
  unfold maxLen at hm
  generalize xs.length = n at *
  go_enter Try.func58, Try.ntmps58
  go_wp2
  go_ret
  exact ⟨rfl, rfl⟩

/-- What szIntSS tells: where it is not below 0 neither the list nor a row of it is longer than 2^20. -/
def Sized (R : List (List Int)) (r : Int) : Prop := -1 ≤ r ∧ r ≤ 1048576 ∧ (0 ≤ r → R.length ≤ 1048576 ∧ ∀ i, i < R.length → (R.getD i []).length ≤ 1048576)

/-- A hull's value: its three fields. -/
abbrev hullV (step rise : Int) (v : Value) : Value := .agg #[.int .i64 step, .int .i64 rise, v]

end Go.Proofs.Ytnapggchejdcgaa

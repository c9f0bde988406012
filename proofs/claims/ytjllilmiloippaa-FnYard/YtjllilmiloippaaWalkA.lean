/- Contracts of the laws' own helpers: szIntS, szIntSS, szHull (what they return and what they leave of memory). -/
import Derived.Test.YtjllilmiloippaaRows
import Derived.Test.YtjllilmiloippaaBase
import Derived.WalkKit
import Derived.WalkSpells
import Derived.WalkLawsBesides
import Derived.Deep.LoopGhost
namespace Go.Proofs.Ytjllilmiloippaa
open Go.RowKit

set_option maxHeartbeats 400000 in
theorem szIntS_no (v : Value) (xs : List Int) (left : Int) (w : World) (h : IntsIn w v xs) (h0 : 0 ≤ left) (h1 : left ≤ 1048576) (hlt : left < (xs.length : Int)) :
    Calls Try.prog 101 #[v, .int .i64 left] w fun e w' => e = .returned (.int .i64 (-1)) ∧ w = w' := by
  obtain ⟨ao, cap, rfl, hl, hm, hc⟩ := h
  clear hc
  unfold maxLen at hm
  generalize xs.length = n at *
  go_enter Try.func101, Try.ntmps101
  go_wp2
  go_ret
  exact ⟨rfl, rfl⟩

set_option maxHeartbeats 400000 in
theorem szIntS_yes (v : Value) (xs : List Int) (left : Int) (w : World) (h : IntsIn w v xs) (h1 : left ≤ 1048576) (hlt : (xs.length : Int) ≤ left) :
    Calls Try.prog 101 #[v, .int .i64 left] w fun e w' => e = .returned (.int .i64 (left - xs.length)) ∧ w = w' := by
  obtain ⟨ao, cap, rfl, hl, hm, hc⟩ := h
  clear hc
  unfold maxLen at hm
  generalize xs.length = n at *
  go_enter Try.func101, Try.ntmps101
  go_wp2
  go_ret
  exact ⟨rfl, rfl⟩

/-- What szIntSS tells: where it is not below 0 neither the list nor a row of it is longer than 2^20. -/
def Sized (R : List (List Int)) (r : Int) : Prop := -1 ≤ r ∧ r ≤ 1048576 ∧ (0 ≤ r → R.length ≤ 1048576 ∧ ∀ i, i < R.length → (R.getD i []).length ≤ 1048576)

set_option maxHeartbeats 400000 in
theorem szIntSS_any (v : Value) (R : List (List Int)) (w : World) (h : RowsIn w v R) :
    Calls Try.prog 68 #[v, .int .i64 1048576] w fun e w' => ∃ r, e = .returned (.int .i64 r) ∧ Sized R r ∧ w = w' := by
  obtain ⟨ao, cap, rfl, hl, hm, hc⟩ := h
  unfold maxLen at hm
  have HC := hide hc
  clear hc
  obtain ⟨n, hn⟩ : ∃ n, R.length = n := ⟨_, rfl⟩
  rw [hn] at hl ⊢
  have HN := hide hn
  clear hn
  by_cases hlt : (1048576 : Int) < n
  · go_enter Try.func68, Try.ntmps68
    go_wp2
    go_ret
    exact ⟨_, rfl, ⟨by omega, by omega, fun h => by omega⟩, rfl⟩
  · go_enter Try.func68, Try.ntmps68
    go_wp2
    go_loopg [1, 5] n (fun g l i wr => w = wr ∧ ∃ k : Nat, ∃ z : Int, k ≤ n ∧ g = n - k ∧ i = .int .i64 k ∧ l = .int .i64 z ∧ 0 ≤ z ∧ z ≤ 1048576 ∧ Hid (∀ r, r < k → (R.getD r []).length ≤ 1048576))
    case atStart => exact ⟨rfl, 0, _, Nat.zero_le _, rfl, rfl, rfl, by omega, by omega, fun r hr => by omega⟩
    case round =>
      obtain ⟨rfl, k, z, hk, rfl, rfl, rfl, hz0, hz1, HD⟩ := hrel
      by_cases hkn : k < n
      · obtain ⟨b, o, ar, m, cr, rfl, hcell, hrow, EM, hm0⟩ := rowAt (unhide HC) (by rw [unhide HN]; exact hkn)
        by_cases hneg : z < (m : Int)
        · have HR := hide (szIntS_no _ _ z w hrow hz0 hz1 (by rw [unhide EM]; exact hneg))
          clear hrow
          go_wp2_with (go_at_call 101; refine (unhide HR).mono ?_; rintro e w' ⟨rfl, rfl⟩)
          go_ret
          exact ⟨_, rfl, ⟨by omega, by omega, fun h => by omega⟩, rfl⟩
        · have hneg' : (m : Int) ≤ z := by omega
          have hr := szIntS_yes _ _ z w hrow hz1 (by rw [unhide EM]; exact hneg')
          rw [unhide EM] at hr
          have HR := hide hr
          clear hrow hneg hr
          go_wp2_with (go_at_call 101; refine (unhide HR).mono ?_; rintro e w' ⟨rfl, rfl⟩)
          go_roundg (n - (k + 1))
          case measure => omega
          case rel => exact ⟨rfl, k + 1, _, by omega, rfl, by go_num, rfl, by omega, by omega, fun r hr => by
            by_cases e : r = k
            · subst e; rw [unhide EM]; omega
            · exact HD.out r (by omega)⟩
      · go_wp2
        go_ret
        exact ⟨_, rfl, ⟨by omega, by omega, fun h => ⟨by rw [unhide HN]; omega, fun i hi => HD.out i (by rw [unhide HN] at hi; omega)⟩⟩, rfl⟩

/-- A hull's value: its three fields. -/
abbrev hullV (step rise : Int) (v : Value) : Value := .agg #[.int .i64 step, .int .i64 rise, v]

end Go.Proofs.Ytjllilmiloippaa

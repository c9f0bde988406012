/- Contracts of the laws' own comparers: eqIntS, eqIntSS, eqHull: of two values that hold the same numbers they tell true. -/
import Derived.Test.YtkfdcpnbpmipkaaWalkB
import Derived.Deep.QuietTactic
import Derived.BigQuiet
namespace Go.Proofs.Ytkfdcpnbpmipkaa
open Go.RowKit

theorem below_drewN {w w' : World} (h : Below w.heap.size w w') (n : Nat) : Below w.heap.size w (w'.drewN n) := h.trans ⟨rfl, rfl, rfl, Nat.le_refl _, fun _ _ => rfl⟩

theorem IntsIn.drewN {w : World} {v : Value} {xs : List Int} (h : IntsIn w v xs) (n : Nat) : IntsIn (w.drewN n) v xs := h.below (below_drewN (Below.refl _ _) n)
theorem RowsIn.drewN {w : World} {v : Value} {xs : List (List Int)} (h : RowsIn w v xs) (n : Nat) : RowsIn (w.drewN n) v xs := h.below (below_drewN (Below.refl _ _) n)

set_option maxHeartbeats 400000 in
theorem eqIntS_any (v v' : Value) (xs : List Int) (w : World) (h : IntsIn w v xs) (h' : IntsIn w v' xs) :
    Calls Try.prog 21 #[v, v'] w fun e w' => e = .returned (.bool true) ∧ ∃ n, w' = w.drewN n := by
  obtain ⟨ao, cap, rfl, hl, hm, hc⟩ := h
  obtain ⟨ao', cap', rfl, _, _, hc'⟩ := h'
  unfold maxLen at hm
  have HC := hide hc
  have HC' := hide hc'
  clear hc hc'
  go_enter Try.func21, Try.ntmps21
  go_wp2
  go_loopg [5] xs.length (fun g i wr => ∃ q, wr = w.drewN q ∧ ∃ k : Nat, k ≤ xs.length ∧ g = xs.length - k ∧ i = .int .i64 k)
  case atStart => exact ⟨0, rfl, 0, Nat.zero_le _, rfl, rfl⟩
  case round =>
    obtain ⟨q, rfl, k, hk, rfl, rfl⟩ := hrel
    by_cases hkn : k < xs.length
    · obtain ⟨b, o, rfl, hcell⟩ := unhide HC k hkn
      obtain ⟨b', o', rfl, hcell'⟩ := unhide HC' k hkn
      generalize xs.getD k 0 = x at *
      go_wp2
      go_quiet (fail)
      go_wp2
      go_roundg (xs.length - (k + 1))
      case measure => omega
      case rel => exact ⟨_, rfl, k + 1, by omega, rfl, by go_num⟩
    · go_wp2
      go_ret
      exact ⟨rfl, q, rfl⟩

end Go.Proofs.Ytkfdcpnbpmipkaa

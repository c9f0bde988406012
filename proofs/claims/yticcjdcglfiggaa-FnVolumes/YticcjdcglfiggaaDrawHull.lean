/- The specification's draws of a hull: l1New makes a cursor; l1DrawHull and DrawRightHull make a right hull and a water line of it. -/
import Derived.Test.YticcjdcglfiggaaDraw
import Derived.Test.YticcjdcglfiggaaGrow
import Derived.Test.YticcjdcglfiggaaWalkM
import Derived.Deep.RegionHeld3
import Derived.Deep.AppendLies
namespace Go.Proofs.Yticcjdcglfiggaa
open Go.RowKit

theorem cur_new {w : World} {v : Value} {n : Nat} (h : BytesIn w.heap.size w v n) (z : Int) (t : TypeId) : Cur (w.alloc (.cells #[v, .int .i64 0, .int .i64 z] t)) w.heap.size v n :=
  ⟨h.below (Below.alloc1 _ _) (Nat.le_refl _), 0, z, by omega, by omega, #[v, .int .i64 0, .int .i64 z], t, Go.Deep.blk_alloc_new _ _, fun i _ => by simp⟩

set_option maxHeartbeats 800000 in
theorem l1New_any (v : Value) (n : Nat) (w : World) (h : BytesIn w.heap.size w v n) (hn : n ≤ 1048576) :
    Calls Try.prog 48 #[v] w fun e w' => e = .returned (.pointer (some ⟨w.heap.size, 0, none⟩)) ∧ Cur w' w.heap.size v n ∧ Below w.heap.size w w' ∧ w'.heap.size = w.heap.size + 1 := by
  have HB := hide h
  obtain ⟨ao, cap, rfl, hl, hm, hc⟩ := h
  have HC := hide hc
  unfold maxLen at hm
  clear hc
  go_enter Try.func48, Try.ntmps48
  go_wp2
  go_loopg [3, 4] n (fun g hv iv wr => w = wr ∧ ∃ k : Nat, ∃ z : Int, k ≤ n ∧ g = n - k ∧ iv = .int .i64 k ∧ hv = .int .i64 z)
  case atStart => exact ⟨rfl, 0, _, Nat.zero_le _, rfl, rfl, rfl⟩
  case round =>
    obtain ⟨rfl, k, z, hk, rfl, rfl, rfl⟩ := hrel
    by_cases hkn : k < n
    · have hkn' : (k : Int) < (n : Int) := by omega
      by_cases hk4 : k < 4000
      · have hk4' : (k : Int) < 4000 := by omega
        obtain ⟨b, o, y, rfl, hlt, hcell, hy1, hy2⟩ := unhide HC k hkn
        go_wp2
        go_roundg (n - (k + 1))
        case measure => omega
        case rel => exact ⟨rfl, k + 1, _, by omega, rfl, by go_num, rfl⟩
      · have hk4' : decide ((k : Int) < 4000) = false := by simp; omega
        go_wp2
        go_ret
        exact ⟨rfl, cur_new (unhide HB) _ _, Below.alloc1 _ _, by simp⟩
    · have hkn' : decide ((k : Int) < (n : Int)) = false := by simp; omega
      go_wp2
      go_ret
      exact ⟨rfl, cur_new (unhide HB) _ _, Below.alloc1 _ _, by simp⟩

end Go.Proofs.Yticcjdcglfiggaa

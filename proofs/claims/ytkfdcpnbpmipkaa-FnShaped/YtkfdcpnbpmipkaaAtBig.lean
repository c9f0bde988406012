/- Contracts of the laws' own big and at. -/
import Derived.Test.YtkfdcpnbpmipkaaDraw
import Derived.Test.YtkfdcpnbpmipkaaBase
namespace Go.Proofs.Ytkfdcpnbpmipkaa
open Go.RowKit

set_option maxHeartbeats 400000 in
theorem big_any (ao : Option Addr) (n cap : Nat) (w : World) : Calls Try.prog 7 #[.slice ao n cap] w fun e w' => e = .returned (.bool (decide ((1048576 : Int) < (n : Int)))) ∧ w = w' := by
  go_enter Try.func7, Try.ntmps7
  go_wp2
  go_ret
  exact ⟨rfl, rfl⟩

set_option maxHeartbeats 400000 in
theorem at_any (v : Value) (n : Nat) (B : Nat) (k : Nat) (w : World) (h : BytesIn B w v n) (hn : n ≤ 1048576) (hk : k ≤ 1000) :
    Calls Try.prog 8 #[v, .int .i64 k] w fun e w' => ∃ x, e = .returned (.int .i64 x) ∧ 0 ≤ x ∧ x ≤ 255 ∧ w = w' := by
  obtain ⟨ao, cap, rfl, _, _, hc⟩ := h
  by_cases hkn : k < n
  · have hkn' : (k : Int) < (n : Int) := by omega
    obtain ⟨b, o, y, rfl, _, hcell, hy1, hy2⟩ := hc k hkn
    clear hc
    go_enter Try.func8, Try.ntmps8
    go_wp2
    go_ret
    exact ⟨_, rfl, hy1, hy2, rfl⟩
  · have hkn' : (n : Int) ≤ (k : Int) := by omega
    clear hc
    go_enter Try.func8, Try.ntmps8
    go_wp2
    go_ret
    exact ⟨_, rfl, by omega, by omega, rfl⟩

end Go.Proofs.Ytkfdcpnbpmipkaa

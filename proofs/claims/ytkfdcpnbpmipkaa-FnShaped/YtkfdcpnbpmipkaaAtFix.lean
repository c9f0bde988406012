/- A byte of the code told once for all later worlds; at at a place that is a whole number. -/
import Derived.Test.YtkfdcpnbpmipkaaAtBig
namespace Go.Proofs.Ytkfdcpnbpmipkaa
open Go.RowKit

set_option maxHeartbeats 400000 in
theorem at_fix (v : Value) (n : Nat) (k : Nat) (w : World) (h : BytesIn w.heap.size w v n) (hn : n ≤ 1048576) (hk : k ≤ 1000) :
    ∃ y : Int, 0 ≤ y ∧ y ≤ 255 ∧ ∀ W, Below w.heap.size w W → Calls Try.prog 8 #[v, .int .i64 k] W fun e w' => e = .returned (.int .i64 y) ∧ w' = W := by
  obtain ⟨ao, cap, rfl, _, _, hc⟩ := h
  by_cases hkn : k < n
  · have hkn' : (k : Int) < (n : Int) := by omega
    obtain ⟨b, o, y, rfl, hlt, hcell, hy1, hy2⟩ := hc k hkn
    refine ⟨y, hy1, hy2, fun W hW => ?_⟩
    have hcell' := (hW.cell (p := ⟨b, o + k, none⟩) hlt).trans hcell
    clear hc hcell hW
    go_enter Try.func8, Try.ntmps8
    go_wp2
    go_ret
    exact ⟨rfl, rfl⟩
  · have hkn' : (n : Int) ≤ (k : Int) := by omega
    refine ⟨((k : Int) * 7 + n) % 256, by omega, by omega, fun W hW => ?_⟩
    clear hc hW
    go_enter Try.func8, Try.ntmps8
    go_wp2
    go_ret
    exact ⟨rfl, rfl⟩

theorem at_i (v : Value) (n B : Nat) (c : Int) (w : World) (h : BytesIn B w v n) (hn : n ≤ 1048576) (h0 : 0 ≤ c) (h1 : c ≤ 1000) :
    Calls Try.prog 8 #[v, .int .i64 c] w fun e w' => ∃ x, e = .returned (.int .i64 x) ∧ 0 ≤ x ∧ x ≤ 255 ∧ w = w' := by
  obtain ⟨k, rfl⟩ := Int.eq_ofNat_of_zero_le h0
  exact at_any v n B k w h hn (by omega)

end Go.Proofs.Ytkfdcpnbpmipkaa

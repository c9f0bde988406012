/- Contract of the program's windowsOk. -/
import Derived.Test.YtglehiakikhlaaaTdG
namespace Go.Proofs.Ytglehiakikhlaaa
open Go.RowKit

/-- What the next window must begin at least with. -/
def leastOf (L : List I2) : Nat → Int
  | 0 => 0
  | k + 1 => (L.getD k default).2 + 2

theorem leastOf_nonneg {L : List I2} {k : Nat} (h : ∀ r, r < k → wiB L r = true) : 0 ≤ leastOf L k := by
  cases k with
  | zero => exact Int.le_refl 0
  | succ p =>
    have := wiB_b (h p (by omega))
    show 0 ≤ (L.getD p default).2 + 2
    omega
theorem wiB_least {L : List I2} {k : Nat} (h : ∀ r, r < k → wiB L r = true) : wiB L k = (decide (leastOf L k ≤ (L.getD k default).1) && decide ((L.getD k default).1 ≤ (L.getD k default).2) && decide ((L.getD k default).2 < 1500)) := by
  cases k with
  | zero => simp [wiB, inB, leastOf]
  | succ p =>
    have hb := wiB_b (h p (by omega))
    have e : leastOf L (p + 1) = (L.getD p default).2 + 2 := rfl
    have e1 : p + 1 - 1 = p := rfl
    rw [e, wiB, e1, Bool.eq_iff_iff]
    simp only [inB, Bool.and_eq_true, Bool.or_eq_true, decide_eq_true_eq]
    omega

set_option maxRecDepth 10000 in
set_option maxHeartbeats 8000000 in
theorem windowsOk_any (v : Value) (L : List I2) (w : World) (h : R2 w v L) :
    Calls Try.prog 50 #[v] w fun e w' => e = .returned (.bool (winsB L)) ∧ Below w.heap.size w w' := by
  obtain ⟨ao, cap, rfl, hl, hm, hc⟩ := h
  unfold maxLen at hm
  have HC := hide hc
  clear hc
  go_enter Try.func50, Try.ntmps50
  go_wp2
  go_loopg [3, 8] L.length (fun g lv i wr => Hid (Below w.heap.size w wr) ∧ ∃ k : Nat, k ≤ L.length ∧ g = L.length - k ∧ i = .int .i64 k ∧ lv = .int .i64 (leastOf L k) ∧ Hid (∀ r, r < k → wiB L r = true))
  case atStart => exact ⟨Below.refl _ _, 0, Nat.zero_le _, rfl, rfl, rfl, fun r hr => by omega⟩
  case round =>
    obtain ⟨HW, k, hk, rfl, rfl, rfl, HD⟩ := hrel
    by_cases hkn : k < L.length
    · obtain ⟨b, o, x, y, rfl, hx, hy, EX⟩ := rec2At (unhide HC) hkn
      have g0 := ((unhide HW).cell (lt_of_cell hx)).trans hx
      have g1 := ((unhide HW).cell (lt_of_cell hy)).trans hy
      have hki : (k : Int) < L.length := by omega
      have EL : Hid (leastOf L (k + 1) = y + 2) := by show _ = _; rw [leastOf, unhide EX]
      have hlo := leastOf_nonneg (unhide HD)
      have EW : Hid (wiB L k = (decide (leastOf L k ≤ x) && decide (x ≤ y) && decide (y < 1500))) := by
        show _ = _
        rw [wiB_least (unhide HD), unhide EX]
      have HNO : Hid (wiB L k = false → winsB L = false) := fun h => winsB_false hkn h
      have HYES : Hid (wiB L k = true → ∀ r, r < k + 1 → wiB L r = true) := fun h r hr => by
        by_cases e : r = k
        · rw [e]; exact h
        · exact (unhide HD) r (by omega)
      have HW1 := hide (Below.step (unhide HW) (Below.alloc1 wr (.cells #[.int .i64 x, .int .i64 y] 32)))
      generalize leastOf L k = lo at *
      clear hx hy EX
      by_cases h1 : x < lo
      · go_wp2
        go_ret
        exact ⟨ret_bool (unhide HNO (by rw [unhide EW]; simp; omega)).symm, unhide HW1⟩
      · by_cases h2 : y < x
        · go_wp2
          go_ret
          exact ⟨ret_bool (unhide HNO (by rw [unhide EW]; simp; omega)).symm, unhide HW1⟩
        · by_cases h3 : 1500 ≤ y
          · go_wp2
            go_ret
            exact ⟨ret_bool (unhide HNO (by rw [unhide EW]; simp; omega)).symm, unhide HW1⟩
          · have q : IntKind.i64.wrap (y + 2) = y + 2 := by rw [IntKind.wrap_i64]; omega
            go_wp2
            go_roundg (L.length - (k + 1))
            case measure => omega
            case rel => exact ⟨unhide HW1, k + 1, by omega, rfl, by go_num, by rw [unhide EL], unhide HYES (by rw [unhide EW]; simp; omega)⟩
    · have HF : Hid (winsB L = true) := winsB_true (fun r hr => (unhide HD) r (by omega))
      go_wp2
      go_ret
      exact ⟨ret_bool (unhide HF).symm, unhide HW⟩

end Go.Proofs.Ytglehiakikhlaaa

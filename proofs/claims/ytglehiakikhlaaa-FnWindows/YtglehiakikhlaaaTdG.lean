/- Contracts of the specification's l5Windows and WindowFor. -/
import Derived.Test.YtglehiakikhlaaaWalkD
import Derived.Test.YtglehiakikhlaaaRecs
import Derived.Test.YtglehiakikhlaaaExactKit
import Derived.Test.YtglehiakikhlaaaWalkC
import Derived.Deep.QuietTactic
import Derived.BigQuiet
namespace Go.Proofs.Ytglehiakikhlaaa
open Go.RowKit

def wiB (L : List I2) (i : Nat) : Bool := inB (L.getD i default).1 0 (L.getD i default).2 && decide ((L.getD i default).2 < 1500) && (decide (i = 0) || decide ((L.getD (i - 1) default).2 + 2 ≤ (L.getD i default).1))
def winsB (L : List I2) : Bool := (List.range L.length).all (wiB L)
theorem winsB_false {L : List I2} {k : Nat} (hk : k < L.length) (h : wiB L k = false) : winsB L = false := by
  rw [Bool.eq_false_iff]
  intro e
  have := List.all_eq_true.1 e k (by simp; exact hk)
  rw [h] at this
  cases this
theorem winsB_true {L : List I2} (h : ∀ r, r < L.length → wiB L r = true) : winsB L = true := List.all_eq_true.2 fun r hr => h r (by simpa using hr)
theorem winsB_at {L : List I2} (h : winsB L = true) {k : Nat} (hk : k < L.length) : wiB L k = true := List.all_eq_true.1 h k (by simp; exact hk)
theorem wiB_b {L : List I2} {k : Nat} (h : wiB L k = true) : 0 ≤ (L.getD k default).1 ∧ (L.getD k default).1 ≤ (L.getD k default).2 ∧ (L.getD k default).2 < 1500 := by
  unfold wiB inB at h
  simp only [Bool.and_eq_true, decide_eq_true_eq] at h
  exact ⟨h.1.1.1, h.1.1.2, h.1.2⟩

set_option maxRecDepth 10000 in
set_option maxHeartbeats 8000000 in
theorem l5Windows_any (v : Value) (L : List I2) (w : World) (h : R2 w v L) :
    Calls Try.prog 63 #[v] w fun e w' => e = .returned (.bool (winsB L)) ∧ Below w.heap.size w w' := by
  obtain ⟨ao, cap, rfl, hl, hm, hc⟩ := h
  unfold maxLen at hm
  have HC := hide hc
  clear hc
  go_enter Try.func63, Try.ntmps63
  go_wp2
  go_loopg [3] L.length (fun g i wr => Hid (Below w.heap.size w wr) ∧ ∃ k : Nat, k ≤ L.length ∧ g = L.length - k ∧ i = .int .i64 k ∧ Hid (∀ r, r < k → wiB L r = true))
  case atStart => exact ⟨Below.refl _ _, 0, Nat.zero_le _, rfl, rfl, fun r hr => by omega⟩
  case round =>
    obtain ⟨HW, k, hk, rfl, rfl, HD⟩ := hrel
    by_cases hkn : k < L.length
    · obtain ⟨b, o, x, y, rfl, hx, hy, EX⟩ := rec2At (unhide HC) hkn
      have g0 := ((unhide HW).cell (lt_of_cell hx)).trans hx
      have g1 := ((unhide HW).cell (lt_of_cell hy)).trans hy
      have hki : (k : Int) < L.length := by omega
      have HBx := hide (ownV_alloc wr #[.int .i64 x, .int .i64 y] 32)
      have HW1 := hide (Below.step (unhide HW) (Below.alloc1 wr (.cells #[.int .i64 x, .int .i64 y] 32)))
      have HNO : Hid (wiB L k = false → winsB L = false) := fun h => winsB_false hkn h
      have HYES : Hid (wiB L k = true → ∀ r, r < k + 1 → wiB L r = true) := fun h r hr => by
        by_cases e : r = k
        · rw [e]; exact h
        · exact (unhide HD) r (by omega)
      have c0 := (unhide HBx).cell (i := 0) rfl
      have c1 := (unhide HBx).cell (i := 1) rfl
      by_cases hk0 : k = 0
      · have EW : Hid (wiB L k = (inB x 0 y && decide (y < 1500))) := by show _ = _; unfold wiB; rw [unhide EX, decide_eq_true hk0]; simp
        have d3 : decide ((0 : Int) < (k : Int)) = false := by simp; omega
        have d3' : decide (0 < k) = false := by simp; omega
        clear hx hy EX hk0
        go_wp2
        obtain ⟨V0, e0⟩ : ∃ z, z = wr.alloc (.cells #[.int .i64 x, .int .i64 y] 32) := ⟨_, rfl⟩
        rw [← e0] at HW1 c0 c1 ⊢
        clear e0 g0 g1 HBx
        have HQ := hide fun V => l1In_any x 0 y V
        cases h1 : inB x 0 y with
        | false =>
          rw [h1] at EW HQ
          go_quiet ((go_at_call 58; exact Calls.quiet_of_same (unhide HQ _)))
          go_wp2
          go_ret
          exact ⟨ret_bool (unhide HNO (by rw [unhide EW]; rfl)).symm, below_drewN (unhide HW1) _⟩
        | true =>
          rw [h1] at EW HQ
          by_cases h2 : y < 1500
          · have d2 : decide (1500 ≤ y) = false := by simp; omega
            go_quiet ((go_at_call 58; exact Calls.quiet_of_same (unhide HQ _)))
            go_wp2
            go_roundg (L.length - (k + 1))
            case measure => omega
            case rel => exact ⟨below_drewN (unhide HW1) _, k + 1, by omega, rfl, by go_num, unhide HYES (by rw [unhide EW]; simp; omega)⟩
          · have d2 : decide (1500 ≤ y) = true := by simp; omega
            go_quiet ((go_at_call 58; exact Calls.quiet_of_same (unhide HQ _)))
            go_wp2
            go_ret
            exact ⟨ret_bool (unhide HNO (by rw [unhide EW]; simp; omega)).symm, below_drewN (unhide HW1) _⟩
      · obtain ⟨p, ep⟩ : ∃ p, p = k - 1 := ⟨_, rfl⟩
        obtain ⟨b', o', x', y', e', hx', hy', EX'⟩ := rec2At (unhide HC) (show p < L.length by omega)
        simp only [Option.some.injEq, Addr.mk.injEq, and_true] at e'
        obtain ⟨rfl, rfl⟩ := e'
        have hb := wiB_b (unhide HD p (by omega))
        rw [unhide EX'] at hb
        obtain ⟨hb1, hb2, hb3⟩ := hb
        dsimp only at hb1 hb2 hb3
        have f1 := ((unhide HW1).cell (lt_of_cell hy')).trans hy'
        have EW : Hid (wiB L k = (inB x 0 y && decide (y < 1500) && decide (y' + 2 ≤ x))) := by show _ = _; unfold wiB; rw [unhide EX, decide_eq_false hk0, ← ep, unhide EX']; simp
        have hk0i : (0 : Int) < (k : Int) := by omega
        have q1 : IntKind.i64.wrap ((k : Int) - 1) = (p : Int) := by rw [IntKind.wrap_i64]; omega
        have hpi : (p : Int) < L.length := by omega
        have q2 : IntKind.i64.wrap (y' + 2) = y' + 2 := by rw [IntKind.wrap_i64]; omega
        clear hx hy hx' hy' EX EX' hk0
        go_wp2
        obtain ⟨V0, e0⟩ : ∃ z, z = wr.alloc (.cells #[.int .i64 x, .int .i64 y] 32) := ⟨_, rfl⟩
        rw [← e0] at HW1 c0 c1 f1 ⊢
        clear e0 g0 g1 HBx ep
        have d3 : decide ((0 : Int) < (k : Int)) = true := by simp; omega
        have d3' : decide (0 < k) = true := by simp; omega
        have HQ := hide fun V => l1In_any x 0 y V
        cases h1 : inB x 0 y with
        | false =>
          rw [h1] at EW HQ
          go_quiet ((go_at_call 58; exact Calls.quiet_of_same (unhide HQ _)))
          go_wp2
          go_ret
          exact ⟨ret_bool (unhide HNO (by rw [unhide EW]; rfl)).symm, below_drewN (unhide HW1) _⟩
        | true =>
          rw [h1] at EW HQ
          by_cases h2 : y < 1500
          · have d2 : decide (1500 ≤ y) = false := by simp; omega
            by_cases h3 : y' + 2 ≤ x
            · have d4 : decide (x < y' + 2) = false := by simp; omega
              go_quiet ((go_at_call 58; exact Calls.quiet_of_same (unhide HQ _)))
              go_wp2
              go_roundg (L.length - (k + 1))
              case measure => omega
              case rel => exact ⟨below_drewN (unhide HW1) _, k + 1, by omega, rfl, by go_num, unhide HYES (by rw [unhide EW]; simp; omega)⟩
            · have d4 : decide (x < y' + 2) = true := by simp; omega
              go_quiet ((go_at_call 58; exact Calls.quiet_of_same (unhide HQ _)))
              go_wp2
              go_ret
              exact ⟨ret_bool (unhide HNO (by rw [unhide EW]; simp; omega)).symm, below_drewN (unhide HW1) _⟩
          · have d2 : decide (1500 ≤ y) = true := by simp; omega
            go_quiet ((go_at_call 58; exact Calls.quiet_of_same (unhide HQ _)))
            go_wp2
            go_ret
            exact ⟨ret_bool (unhide HNO (by rw [unhide EW]; simp; omega)).symm, below_drewN (unhide HW1) _⟩
    · have HF : Hid (winsB L = true) := winsB_true (fun r hr => (unhide HD) r (by omega))
      go_wp2
      go_ret
      exact ⟨ret_bool (unhide HF).symm, unhide HW⟩

end Go.Proofs.Ytglehiakikhlaaa

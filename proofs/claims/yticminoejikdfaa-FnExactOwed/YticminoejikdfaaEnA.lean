/- Contracts of both SpellsOk. Written by wip/mken.py. -/
import Derived.Test.YticminoejikdfaaWalkD
import Derived.Test.YticminoejikdfaaEnM
import Derived.Test.YticminoejikdfaaExactKit
import Derived.Test.YticminoejikdfaaWalkC
import Derived.Deep.QuietTactic
import Derived.BigQuiet
namespace Go.Proofs.Yticminoejikdfaa
open Go.RowKit

theorem spB_false {L : List I2} {k : Nat} (hk : k < L.length) (h : ¬ spGood L k) : spB L = false := by
  simp only [spB, decide_eq_false_iff_not]
  exact fun hS => h (hS.2 k hk)
theorem spB_long {L : List I2} (h : ¬ L.length ≤ 100) : spB L = false := by
  simp only [spB, decide_eq_false_iff_not]
  exact fun hS => h hS.1
theorem spB_all {L : List I2} (h : ∀ r, r < L.length → spGood L r) : spB L = decide ((L.length : Int) ≤ 100) := by
  rw [spB, Bool.eq_iff_iff]
  simp only [decide_eq_true_eq]
  exact ⟨fun hS => by have := hS.1; omega, fun h1 => ⟨by omega, h⟩⟩

theorem l1Minute_any (x : Int) (w : World) : Calls Try.prog 47 #[.int .i64 x] w fun e w' => e = .returned (.bool (inB x 0 100000000)) ∧ w' = w := by
  go_enter Try.func47, Try.ntmps47
  go_wp2_with (go_at_call 51; refine (l1In_any _ _ _ _).mono ?_; rintro e w' ⟨rfl, rfl⟩)
  go_ret
  exact ⟨rfl, rfl⟩

set_option maxRecDepth 10000 in
set_option maxHeartbeats 8000000 in
theorem specSpellsOk_any (v : Value) (L : List I2) (w : World) (h : R2 w v L) :
    Calls Try.prog 40 #[v] w fun e w' => e = .returned (.bool (spB L)) ∧ Below w.heap.size w w' := by
  obtain ⟨ao, cap, rfl, hl, hm, hc⟩ := h
  unfold maxLen at hm
  have HC := hide hc
  clear hc
  go_enter Try.func40, Try.ntmps40
  go_wp2
  go_loopg [3] L.length (fun g i wr => Hid (Below w.heap.size w wr) ∧ ∃ k : Nat, k ≤ L.length ∧ g = L.length - k ∧ i = .int .i64 k ∧ Hid (∀ r, r < k → spGood L r))
  case atStart => exact ⟨Below.refl _ _, 0, Nat.zero_le _, rfl, rfl, fun r hr => by omega⟩
  case round =>
    obtain ⟨HW, k, hk, rfl, rfl, HD⟩ := hrel
    by_cases hkn : k < L.length
    · obtain ⟨b, o, x, y, rfl, hx, hy, EX⟩ := rec2At (unhide HC) hkn
      have g0 := ((unhide HW).cell (lt_of_cell hx)).trans hx
      have g1 := ((unhide HW).cell (lt_of_cell hy)).trans hy
      have hki : (k : Int) < L.length := by omega
      have HBx := hide (ownV_alloc wr #[.int .i64 x, .int .i64 y] 39)
      have HW1 := hide (Below.step (unhide HW) (Below.alloc1 wr (.cells #[.int .i64 x, .int .i64 y] 39)))
      have HNO : Hid (¬ spGood L k → spB L = false) := fun h => spB_false hkn h
      have HYES : Hid (spGood L k → ∀ r, r < k + 1 → spGood L r) := fun h r hr => by
        by_cases e : r = k
        · rw [e]; exact h
        · exact (unhide HD) r (by omega)
      have c0 := (unhide HBx).cell (i := 0) rfl
      have c1 := (unhide HBx).cell (i := 1) rfl
      by_cases hk0 : k = 0
      · have EW : Hid (spGood L k = (0 ≤ x ∧ x < y ∧ y ≤ 100000000)) := by show _ = _; unfold spGood fr tw; rw [unhide EX]; simp [hk0]
        have d3 : decide ((0 : Int) < (k : Int)) = false := by simp; omega
        have d3' : decide (0 < k) = false := by simp; omega
        clear hx hy EX hk0
        go_wp2
        obtain ⟨V0, e0⟩ : ∃ z, z = wr.alloc (.cells #[.int .i64 x, .int .i64 y] 39) := ⟨_, rfl⟩
        rw [← e0] at HW1 c0 c1 ⊢
        clear e0 g0 g1 HBx
        have HQ1 := hide fun V => l1Minute_any x V
        have HQ2 := hide fun V => l1Minute_any y V
        cases h1 : inB x 0 100000000 with
        | false =>
          rw [h1] at HQ1
          go_quiet ((go_at_call 47; first | exact Calls.quiet_of_same (unhide HQ1 _) | exact Calls.quiet_of_same (unhide HQ2 _)))
          go_wp2
          go_ret
          exact ⟨ret_bool (unhide HNO (by rw [unhide EW]; simp [inB] at *; omega)).symm, below_drewN (unhide HW1) _⟩
        | true =>
          rw [h1] at HQ1
          cases h2 : inB y 0 100000000 with
          | false =>
            rw [h2] at HQ2
            go_quiet ((go_at_call 47; first | exact Calls.quiet_of_same (unhide HQ1 _) | exact Calls.quiet_of_same (unhide HQ2 _)))
            go_wp2
            go_ret
            exact ⟨ret_bool (unhide HNO (by rw [unhide EW]; simp [inB] at *; omega)).symm, below_drewN (unhide HW1) _⟩
          | true =>
            rw [h2] at HQ2
            by_cases h3 : x < y
            · have d2 : decide (y ≤ x) = false := by simp; omega
              go_quiet ((go_at_call 47; first | exact Calls.quiet_of_same (unhide HQ1 _) | exact Calls.quiet_of_same (unhide HQ2 _)))
              go_wp2
              go_roundg (L.length - (k + 1))
              case measure => omega
              case rel => exact ⟨below_drewN (unhide HW1) _, k + 1, by omega, rfl, by go_num, unhide HYES (by rw [unhide EW]; simp [inB] at *; omega)⟩
            · have d2 : decide (y ≤ x) = true := by simp; omega
              go_quiet ((go_at_call 47; first | exact Calls.quiet_of_same (unhide HQ1 _) | exact Calls.quiet_of_same (unhide HQ2 _)))
              go_wp2
              go_ret
              exact ⟨ret_bool (unhide HNO (by rw [unhide EW]; simp [inB] at *; omega)).symm, below_drewN (unhide HW1) _⟩
      · obtain ⟨p, ep⟩ : ∃ p, p = k - 1 := ⟨_, rfl⟩
        obtain ⟨b', o', x', y', e', hx', hy', EX'⟩ := rec2At (unhide HC) (show p < L.length by omega)
        simp only [Option.some.injEq, Addr.mk.injEq, and_true] at e'
        obtain ⟨rfl, rfl⟩ := e'
        have f1 := ((unhide HW1).cell (lt_of_cell hy')).trans hy'
        have EW : Hid (spGood L k = (0 ≤ x ∧ x < y ∧ y ≤ 100000000 ∧ y' ≤ x)) := by show _ = _; unfold spGood fr tw; rw [unhide EX, ← ep, unhide EX']; simp [hk0]
        have hk0i : (0 : Int) < (k : Int) := by omega
        have q1 : IntKind.i64.wrap ((k : Int) - 1) = (p : Int) := by rw [IntKind.wrap_i64]; omega
        have hpi : (p : Int) < L.length := by omega
        clear hx hy hx' hy' EX EX' hk0
        go_wp2
        obtain ⟨V0, e0⟩ : ∃ z, z = wr.alloc (.cells #[.int .i64 x, .int .i64 y] 39) := ⟨_, rfl⟩
        rw [← e0] at HW1 c0 c1 f1 ⊢
        clear e0 g0 g1 HBx ep
        have d3 : decide ((0 : Int) < (k : Int)) = true := by simp; omega
        have d3' : decide (0 < k) = true := by simp; omega
        have HQ1 := hide fun V => l1Minute_any x V
        have HQ2 := hide fun V => l1Minute_any y V
        cases h1 : inB x 0 100000000 with
        | false =>
          rw [h1] at HQ1
          go_quiet ((go_at_call 47; first | exact Calls.quiet_of_same (unhide HQ1 _) | exact Calls.quiet_of_same (unhide HQ2 _)))
          go_wp2
          go_ret
          exact ⟨ret_bool (unhide HNO (by rw [unhide EW]; simp [inB] at *; omega)).symm, below_drewN (unhide HW1) _⟩
        | true =>
          rw [h1] at HQ1
          cases h2 : inB y 0 100000000 with
          | false =>
            rw [h2] at HQ2
            go_quiet ((go_at_call 47; first | exact Calls.quiet_of_same (unhide HQ1 _) | exact Calls.quiet_of_same (unhide HQ2 _)))
            go_wp2
            go_ret
            exact ⟨ret_bool (unhide HNO (by rw [unhide EW]; simp [inB] at *; omega)).symm, below_drewN (unhide HW1) _⟩
          | true =>
            rw [h2] at HQ2
            by_cases h3 : x < y
            · have d2 : decide (y ≤ x) = false := by simp; omega
              by_cases h4 : y' ≤ x
              · have d4 : decide (x < y') = false := by simp; omega
                go_quiet ((go_at_call 47; first | exact Calls.quiet_of_same (unhide HQ1 _) | exact Calls.quiet_of_same (unhide HQ2 _)))
                go_wp2
                go_roundg (L.length - (k + 1))
                case measure => omega
                case rel => exact ⟨below_drewN (unhide HW1) _, k + 1, by omega, rfl, by go_num, unhide HYES (by rw [unhide EW]; simp [inB] at *; omega)⟩
              · have d4 : decide (x < y') = true := by simp; omega
                go_quiet ((go_at_call 47; first | exact Calls.quiet_of_same (unhide HQ1 _) | exact Calls.quiet_of_same (unhide HQ2 _)))
                go_wp2
                go_ret
                exact ⟨ret_bool (unhide HNO (by rw [unhide EW]; simp [inB] at *; omega)).symm, below_drewN (unhide HW1) _⟩
            · have d2 : decide (y ≤ x) = true := by simp; omega
              go_quiet ((go_at_call 47; first | exact Calls.quiet_of_same (unhide HQ1 _) | exact Calls.quiet_of_same (unhide HQ2 _)))
              go_wp2
              go_ret
              exact ⟨ret_bool (unhide HNO (by rw [unhide EW]; simp [inB] at *; omega)).symm, below_drewN (unhide HW1) _⟩
    · have HF : Hid (spB L = decide ((L.length : Int) ≤ 100)) := spB_all (fun r hr => (unhide HD) r (by omega))
      go_wp2
      go_ret
      exact ⟨ret_bool (unhide HF).symm, unhide HW⟩

def aheadOf (L : List I2) : Nat → Int
  | 0 => 0
  | k + 1 => tw L k
theorem spGood_ahead {L : List I2} {k : Nat} (h : ∀ r, r < k → spGood L r) : spGood L k ↔ (aheadOf L k ≤ fr L k ∧ fr L k < tw L k ∧ tw L k ≤ 100000000) := by
  cases k with
  | zero => simp [spGood, aheadOf]
  | succ q =>
    have hb := h q (by omega)
    obtain ⟨h1, h2, h3, -⟩ := hb
    have e : aheadOf L (q + 1) = tw L q := rfl
    have e1 : q + 1 - 1 = q := rfl
    rw [e, spGood, e1]
    omega

set_option maxRecDepth 10000 in
set_option maxHeartbeats 8000000 in
theorem implSpellsOk_any (v : Value) (L : List I2) (w : World) (h : R2 w v L) :
    Calls Try.prog 42 #[v] w fun e w' => e = .returned (.bool (spB L)) ∧ Below w.heap.size w w' := by
  obtain ⟨ao, cap, rfl, hl, hm, hc⟩ := h
  unfold maxLen at hm
  have HC := hide hc
  clear hc
  by_cases hbig : 100 < (L.length : Int)
  · have HF : Hid (spB L = false) := spB_long (by omega)
    go_enter Try.func42, Try.ntmps42
    go_wp2
    go_ret
    exact ⟨ret_bool (unhide HF).symm, Below.refl _ _⟩
  go_enter Try.func42, Try.ntmps42
  go_wp2
  go_loopg [3, 11] L.length (fun g lv i wr => Hid (Below w.heap.size w wr) ∧ ∃ k : Nat, k ≤ L.length ∧ g = L.length - k ∧ i = .int .i64 k ∧ lv = .int .i64 (aheadOf L k) ∧ Hid (∀ r, r < k → spGood L r))
  case atStart => exact ⟨Below.refl _ _, 0, Nat.zero_le _, rfl, rfl, rfl, fun r hr => by omega⟩
  case round =>
    obtain ⟨HW, k, hk, rfl, rfl, rfl, HD⟩ := hrel
    by_cases hkn : k < L.length
    · obtain ⟨b, o, x, y, rfl, hx, hy, EX⟩ := rec2At (unhide HC) hkn
      have g0 := ((unhide HW).cell (lt_of_cell hx)).trans hx
      have g1 := ((unhide HW).cell (lt_of_cell hy)).trans hy
      have hki : (k : Int) < L.length := by omega
      have EL : Hid (aheadOf L (k + 1) = y) := by show tw L k = _; unfold tw; rw [unhide EX]
      have EW : Hid (spGood L k ↔ (aheadOf L k ≤ x ∧ x < y ∧ y ≤ 100000000)) := by
        show _ ↔ _
        rw [spGood_ahead (unhide HD)]; unfold fr tw; rw [unhide EX]
      have HNO : Hid (¬ spGood L k → spB L = false) := fun h => spB_false hkn h
      have HYES : Hid (spGood L k → ∀ r, r < k + 1 → spGood L r) := fun h r hr => by
        by_cases e : r = k
        · rw [e]; exact h
        · exact (unhide HD) r (by omega)
      have HW1 := hide (Below.step (unhide HW) (Below.alloc1 wr (.cells #[.int .i64 x, .int .i64 y] 39)))
      generalize aheadOf L k = lo at *
      clear hx hy EX
      by_cases h1 : x < lo
      · go_wp2
        go_ret
        exact ⟨ret_bool (unhide HNO (by rw [unhide EW]; omega)).symm, unhide HW1⟩
      · by_cases h2 : y ≤ x
        · go_wp2
          go_ret
          exact ⟨ret_bool (unhide HNO (by rw [unhide EW]; omega)).symm, unhide HW1⟩
        · by_cases h3 : 100000000 < y
          · go_wp2
            go_ret
            exact ⟨ret_bool (unhide HNO (by rw [unhide EW]; omega)).symm, unhide HW1⟩
          · go_wp2
            go_roundg (L.length - (k + 1))
            case measure => omega
            case rel => exact ⟨unhide HW1, k + 1, by omega, rfl, by go_num, by rw [unhide EL], unhide HYES ((unhide EW).2 (by omega))⟩
    · have HF : Hid (spB L = true) := by
        show _ = _
        rw [spB_all (fun r hr => (unhide HD) r (by omega))]
        simp; omega
      go_wp2
      go_ret
      exact ⟨ret_bool (unhide HF).symm, unhide HW⟩

end Go.Proofs.Yticminoejikdfaa

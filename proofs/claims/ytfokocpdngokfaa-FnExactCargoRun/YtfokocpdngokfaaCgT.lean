/- Contracts of both TanksOk. Written by wip/mkcgt.py. -/
import Derived.Test.YtfokocpdngokfaaCgM
import Derived.Deep.QuietTactic
import Derived.BigQuiet
namespace Go.Proofs.Ytfokocpdngokfaa
open Go.RowKit

theorem good_spec (x0 x1 x2 x3 x4 : Int) : decide (tkGood (x0, x1, x2, x3, x4)) = (inB x0 0 x1 && (!decide (100000 < x1) && (inB x2 (-50) 50 && (inB x3 0 1000 && (inB x4 0 1000 && !decide (1000 < x3 + x4)))))) := by
  rw [Bool.eq_iff_iff, decide_eq_true_iff]
  unfold tkGood
  simp only [inB, Bool.and_eq_true, decide_eq_true_eq, Bool.not_eq_true', decide_eq_false_iff_not]
  omega
theorem good_impl (x0 x1 x2 x3 x4 : Int) : decide (tkGood (x0, x1, x2, x3, x4)) = (inB x0 0 x1 && (!decide (100000 < x1) && (inB x2 (-50) 50 && (inB x3 0 1000 && inB x4 0 (1000 - x3))))) := by
  rw [Bool.eq_iff_iff, decide_eq_true_iff]
  unfold tkGood
  simp only [inB, Bool.and_eq_true, decide_eq_true_eq, Bool.not_eq_true', decide_eq_false_iff_not]
  omega

set_option maxRecDepth 10000 in
set_option maxHeartbeats 4000000 in
theorem cargoTankOk_any (x0 x1 x2 x3 x4 : Int) (w : World) :
    Calls Try.prog 47 #[vCargoTank x0 x1 x2 x3 x4] w fun e w' => e = .returned (.bool (decide (tkGood (x0, x1, x2, x3, x4)))) ∧ Below w.heap.size w w' := by
  have HW := hide (Below.alloc1 w (.cells #[.int .i64 x0, .int .i64 x1, .int .i64 x2, .int .i64 x3, .int .i64 x4] 33))
  have Q1 := hide fun V => within_any x0 0 x1 V
  have Q3 := hide fun V => within_any x2 (-50) 50 V
  have Q4 := hide fun V => within_any x3 0 1000 V
  have Q5 := hide fun V => within_any x4 0 (1000 - x3) V
  have HG := hide (good_impl x0 x1 x2 x3 x4)
  have H3 : Hid (inB x3 0 1000 = true → 0 ≤ x3 ∧ x3 ≤ 1000) := inB_true
  generalize inB x0 0 x1 = b1 at Q1 HG
  generalize inB x2 (-50) 50 = b3 at Q3 HG
  generalize inB x3 0 1000 = b4 at Q4 HG H3
  generalize inB x4 0 (1000 - x3) = b5 at Q5 HG
  generalize decide (tkGood (x0, x1, x2, x3, x4)) = r at HG ⊢
  unfold vCargoTank
  go_enter Try.func47, Try.ntmps47
  go_wp2_with fail
  refine (unhide Q1 _).mono ?_
  rintro e w9 ⟨rfl, h9⟩
  have h8 := h9.symm
  subst h8
  clear h9
  cases b1 with
  | false =>
    have e1 : r = false := by rw [unhide HG]; first | rfl | simp
    subst e1
    go_wp2
    go_ret
    exact ⟨rfl, unhide HW⟩
  | true =>
  clear Q1
  by_cases h2 : 100000 < x1
  · have d2 : decide (100000 < x1) = true := decide_eq_true h2
    rw [d2] at HG
    have e1 : r = false := by rw [unhide HG]; first | rfl | simp
    subst e1
    go_wp2
    go_ret
    exact ⟨rfl, unhide HW⟩
  have d2 : decide (100000 < x1) = false := decide_eq_false h2
  rw [d2] at HG
  go_wp2_with fail
  refine (unhide Q3 _).mono ?_
  rintro e w9 ⟨rfl, h9⟩
  have h8 := h9.symm
  subst h8
  clear h9
  cases b3 with
  | false =>
    have e1 : r = false := by rw [unhide HG]; first | rfl | simp
    subst e1
    go_wp2
    go_ret
    exact ⟨rfl, unhide HW⟩
  | true =>
  clear Q3
  go_wp2_with fail
  refine (unhide Q4 _).mono ?_
  rintro e w9 ⟨rfl, h9⟩
  have h8 := h9.symm
  subst h8
  clear h9
  cases b4 with
  | false =>
    have e1 : r = false := by rw [unhide HG]; first | rfl | simp
    subst e1
    go_wp2
    go_ret
    exact ⟨rfl, unhide HW⟩
  | true =>
  clear Q4
  obtain ⟨h30, h31⟩ := unhide H3 (by first | rfl | trivial)
  have q1 : IntKind.i64.wrap (1000 - x3) = 1000 - x3 := by rw [IntKind.wrap_i64]; omega
  go_wp2_with fail
  refine (unhide Q5 _).mono ?_
  rintro e w9 ⟨rfl, h9⟩
  have h8 := h9.symm
  subst h8
  clear h9
  cases b5 with
  | false =>
    have e1 : r = false := by rw [unhide HG]; first | rfl | simp
    subst e1
    go_wp2
    go_ret
    exact ⟨rfl, unhide HW⟩
  | true =>
    have e1 : r = true := by rw [unhide HG]; first | rfl | simp
    subst e1
    go_wp2
    go_ret
    exact ⟨rfl, unhide HW⟩

set_option maxRecDepth 10000 in
set_option maxHeartbeats 8000000 in
theorem implTanksOk_any (v : Value) (L : List CargoTankT) (w : World) (h : RCargoTank w v L) :
    Calls Try.prog 13 #[v] w fun e w' => e = .returned (.bool (tksB L)) ∧ Below w.heap.size w w' := by
  obtain ⟨ao, cap, rfl, hl, hm, hc⟩ := h
  unfold maxLen at hm
  have HC := hide hc
  clear hc
  have HQ0 := hide fun V => within_any (L.length : Int) 1 12 V
  have HB := hide fun h => tksB_len (L := L) h
  have HA := hide fun h => tksB_all (L := L) h
  have HBD : Hid (inB (L.length : Int) 1 12 = true → (L.length : Int) ≤ 12) := fun h => (inB_true h).2
  generalize inB (L.length : Int) 1 12 = b0 at HQ0 HB HA HBD
  go_enter Try.func13, Try.ntmps13
  go_wp2_with fail
  refine (unhide HQ0 _).mono ?_
  rintro e w9 ⟨rfl, h9⟩
  have h8 := h9.symm
  subst h8
  clear h9
  cases b0 with
  | false =>
    have HF := hide (unhide HB (by first | rfl | trivial))
    go_wp2
    go_ret
    exact ⟨ret_bool (unhide HF).symm, Below.refl _ _⟩
  | true =>
  have h12 := unhide HBD (by first | rfl | trivial)
  clear HB HBD HQ0
  go_wp2
  go_loopg [11] L.length (fun g i wr => Hid (Below w.heap.size w wr) ∧ ∃ k : Nat, k ≤ L.length ∧ g = L.length - k ∧ i = .int .i64 k ∧ Hid (∀ r, r < k → tkGood (tkA L r)))
  case atStart => exact ⟨Below.refl _ _, 0, Nat.zero_le _, rfl, rfl, fun r hr => by omega⟩
  case round =>
    obtain ⟨HW, k, hk, rfl, rfl, HD⟩ := hrel
    by_cases hkn : k < L.length
    · obtain ⟨b, o, x0, x1, x2, x3, x4, rfl, hc0, hc1, hc2, hc3, hc4, EX⟩ := recCargoTankAt (unhide HC) hkn
      have g0 := wcell3 hc0 (unhide HW)
      have g1 := wcell3 hc1 (unhide HW)
      have g2 := wcell3 hc2 (unhide HW)
      have g3 := wcell3 hc3 (unhide HW)
      have g4 := wcell3 hc4 (unhide HW)
      have hki : (k : Int) < L.length := by omega
      have HNO : Hid (decide (tkGood (x0, x1, x2, x3, x4)) = false → tksB L = false) := fun h => tksB_false hkn (by unfold tkA; rw [unhide EX]; exact of_decide_eq_false h)
      have HYES : Hid (decide (tkGood (x0, x1, x2, x3, x4)) = true → ∀ r, r < k + 1 → tkGood (tkA L r)) := fun h r hr => by
        by_cases e : r = k
        · rw [e]; unfold tkA; rw [unhide EX]; exact of_decide_eq_true h
        · exact (unhide HD) r (by omega)
      have HW1 := hide (Below.step (unhide HW) (Below.alloc1 wr (.cells #[.int .i64 x0, .int .i64 x1, .int .i64 x2, .int .i64 x3, .int .i64 x4] 33)))
      have HQ1 := hide fun V => cargoTankOk_any x0 x1 x2 x3 x4 V
      generalize decide (tkGood (x0, x1, x2, x3, x4)) = gb at HNO HYES HQ1
      unfold vCargoTank at HQ1
      clear hc0 hc1 hc2 hc3 hc4 EX HD HA HC
      go_wp2_with fail
      refine (unhide HQ1 _).mono ?_
      rintro e w2 ⟨rfl, hb⟩
      replace HW1 := hide (Below.step (unhide HW1) hb)
      clear hb HQ1
      cases gb with
      | false =>
        have HF := hide (unhide HNO (by first | rfl | trivial))
        go_wp2
        go_ret
        exact ⟨ret_bool (unhide HF).symm, unhide HW1⟩
      | true =>
        have HY := hide (unhide HYES (by first | rfl | trivial))
        clear HYES HNO
        go_wp2
        go_roundg (L.length - (k + 1))
        case measure => omega
        case rel => exact ⟨unhide HW1, k + 1, by omega, rfl, by go_num, unhide HY⟩
    · have HF : Hid (tksB L = true) := unhide HA (fun r hr => (unhide HD) r (by omega))
      go_wp2
      go_ret
      exact ⟨ret_bool (unhide HF).symm, unhide HW⟩

set_option maxRecDepth 10000 in
set_option maxHeartbeats 8000000 in
theorem specTanksOk_any (v : Value) (L : List CargoTankT) (w : World) (h : RCargoTank w v L) :
    Calls Try.prog 19 #[v] w fun e w' => e = .returned (.bool (tksB L)) ∧ Below w.heap.size w w' := by
  obtain ⟨ao, cap, rfl, hl, hm, hc⟩ := h
  unfold maxLen at hm
  have HC := hide hc
  clear hc
  have HQ0 := hide fun V => l1In_any (L.length : Int) 1 12 V
  have HA := hide fun h => tksB_all (L := L) h
  generalize inB (L.length : Int) 1 12 = b0 at HQ0 HA
  go_enter Try.func19, Try.ntmps19
  go_wp2
  go_loopg [3] L.length (fun g i wr => Hid (Below w.heap.size w wr) ∧ ∃ k : Nat, k ≤ L.length ∧ g = L.length - k ∧ i = .int .i64 k ∧ Hid (∀ r, r < k → tkGood (tkA L r)))
  case atStart => exact ⟨Below.refl _ _, 0, Nat.zero_le _, rfl, rfl, fun r hr => by omega⟩
  case round =>
    obtain ⟨HW, k, hk, rfl, rfl, HD⟩ := hrel
    by_cases hkn : k < L.length
    · obtain ⟨b, o, x0, x1, x2, x3, x4, rfl, hc0, hc1, hc2, hc3, hc4, EX⟩ := recCargoTankAt (unhide HC) hkn
      have g0 := wcell3 hc0 (unhide HW)
      have g1 := wcell3 hc1 (unhide HW)
      have g2 := wcell3 hc2 (unhide HW)
      have g3 := wcell3 hc3 (unhide HW)
      have g4 := wcell3 hc4 (unhide HW)
      have hki : (k : Int) < L.length := by omega
      have HNO : Hid (decide (tkGood (x0, x1, x2, x3, x4)) = false → tksB L = false) := fun h => tksB_false hkn (by unfold tkA; rw [unhide EX]; exact of_decide_eq_false h)
      have HYES : Hid (decide (tkGood (x0, x1, x2, x3, x4)) = true → ∀ r, r < k + 1 → tkGood (tkA L r)) := fun h r hr => by
        by_cases e : r = k
        · rw [e]; unfold tkA; rw [unhide EX]; exact of_decide_eq_true h
        · exact (unhide HD) r (by omega)
      have HW1 := hide (Below.step (unhide HW) (Below.alloc1 wr (.cells #[.int .i64 x0, .int .i64 x1, .int .i64 x2, .int .i64 x3, .int .i64 x4] 33)))
      have Q1 := hide fun V => l1In_any x0 0 x1 V
      have Q3 := hide fun V => l1In_any x2 (-50) 50 V
      have Q4 := hide fun V => l1In_any x3 0 1000 V
      have Q5 := hide fun V => l1In_any x4 0 1000 V
      have H3 : Hid (inB x3 0 1000 = true → 0 ≤ x3 ∧ x3 ≤ 1000) := inB_true
      have H4 : Hid (inB x4 0 1000 = true → 0 ≤ x4 ∧ x4 ≤ 1000) := inB_true
      rw [good_spec] at HNO HYES
      generalize inB x0 0 x1 = b1 at Q1 HNO HYES
      generalize inB x2 (-50) 50 = b3 at Q3 HNO HYES
      generalize inB x3 0 1000 = b4 at Q4 HNO HYES H3
      generalize inB x4 0 1000 = b5 at Q5 HNO HYES H4
      clear hc0 hc1 hc2 hc3 hc4 EX HD HA HC HQ0
      go_wp2_with fail
      refine (unhide Q1 _).mono ?_
      rintro e w9 ⟨rfl, h9⟩
      have h8 := h9.symm
      subst h8
      clear h9
      cases b1 with
      | false =>
        have HF := hide (unhide HNO (by first | rfl | simp))
        clear HNO HYES
        go_wp2
        go_ret
        exact ⟨ret_bool (unhide HF).symm, unhide HW1⟩
      | true =>
      clear Q1
      by_cases h2 : 100000 < x1
      · have d2 : decide (100000 < x1) = true := decide_eq_true h2
        rw [d2] at HNO
        have HF := hide (unhide HNO (by first | rfl | simp))
        clear HNO HYES
        go_wp2
        go_ret
        exact ⟨ret_bool (unhide HF).symm, unhide HW1⟩
      have d2 : decide (100000 < x1) = false := decide_eq_false h2
      rw [d2] at HNO HYES
      go_wp2_with fail
      refine (unhide Q3 _).mono ?_
      rintro e w9 ⟨rfl, h9⟩
      have h8 := h9.symm
      subst h8
      clear h9
      cases b3 with
      | false =>
        have HF := hide (unhide HNO (by first | rfl | simp))
        clear HNO HYES
        go_wp2
        go_ret
        exact ⟨ret_bool (unhide HF).symm, unhide HW1⟩
      | true =>
      clear Q3
      go_wp2_with fail
      refine (unhide Q4 _).mono ?_
      rintro e w9 ⟨rfl, h9⟩
      have h8 := h9.symm
      subst h8
      clear h9
      cases b4 with
      | false =>
        have HF := hide (unhide HNO (by first | rfl | simp))
        clear HNO HYES
        go_wp2
        go_ret
        exact ⟨ret_bool (unhide HF).symm, unhide HW1⟩
      | true =>
      clear Q4
      go_wp2_with fail
      refine (unhide Q5 _).mono ?_
      rintro e w9 ⟨rfl, h9⟩
      have h8 := h9.symm
      subst h8
      clear h9
      cases b5 with
      | false =>
        have HF := hide (unhide HNO (by first | rfl | simp))
        clear HNO HYES
        go_wp2
        go_ret
        exact ⟨ret_bool (unhide HF).symm, unhide HW1⟩
      | true =>
      clear Q5
      obtain ⟨h30, h31⟩ := unhide H3 (by first | rfl | trivial)
      obtain ⟨h40, h41⟩ := unhide H4 (by first | rfl | trivial)
      clear H3 H4
      by_cases h6 : 1000 < x3 + x4
      · have d6 : decide (1000 < x3 + x4) = true := decide_eq_true h6
        rw [d6] at HNO
        have HF := hide (unhide HNO (by first | rfl | simp))
        clear HNO HYES
        go_wp2
        go_ret
        exact ⟨ret_bool (unhide HF).symm, unhide HW1⟩
      have d6 : decide (1000 < x3 + x4) = false := decide_eq_false h6
      rw [d6] at HYES
      have HY := hide (unhide HYES (by first | rfl | trivial))
      clear HYES HNO
      go_wp2
      go_roundg (L.length - (k + 1))
      case measure => omega
      case rel => exact ⟨unhide HW1, k + 1, by omega, rfl, by go_num, unhide HY⟩
    · have HF : Hid (tksB L = b0) := unhide HA (fun r hr => (unhide HD) r (by omega))
      clear HA HD HC
      go_wp2_with fail
      refine (unhide HQ0 _).mono ?_
      rintro e w9 ⟨rfl, h9⟩
      have h8 := h9.symm
      subst h8
      clear h9
      go_wp2
      go_ret
      exact ⟨ret_bool (unhide HF).symm, unhide HW⟩

end Go.Proofs.Ytfokocpdngokfaa

/- Calls: contracts of callOk, l1Minute and of both CallsOk. Written by wip/mkbea.py. -/
import Derived.Test.YtogoknldhimgfaaBeM
import Derived.Test.YtogoknldhimgfaaWalkF
import Derived.Deep.QuietTactic
import Derived.BigQuiet
import Derived.Deep.DeepCutAuto
import Derived.Deep.Cut
import Derived.BigRegion
namespace Go.Proofs.Ytogoknldhimgfaa
open Go.RowKit

theorem l1Minute_any (x : Int) (w : World) : Calls Try.prog 73 #[.int .i64 x] w fun e w' => e = .returned (.bool (inB x 0 100000000)) ∧ w' = w := by
  go_enter Try.func73, Try.ntmps73
  go_wp2_with (go_at_call 72; refine (l1In_any _ _ _ _).mono ?_; rintro e w' ⟨rfl, rfl⟩)
  go_ret
  exact ⟨rfl, rfl⟩

set_option maxRecDepth 10000 in
set_option maxHeartbeats 4000000 in
theorem callOk_any (x0 x1 x2 x3 x4 long : Int) (w : World) (hlo : 1 ≤ long ∧ long ≤ 1000) :
    Calls Try.prog 59 #[vCall x0 x1 x2 x3 x4, .int .i64 long] w fun e w' => e = .returned (.bool (decide (CaC long (x0, x1, x2, x3, x4)))) ∧ Below w.heap.size w w' := by
  have HW := hide (Below.alloc1 w (.cells #[.int .i64 x0, .int .i64 x1, .int .i64 x2, .int .i64 x3, .int .i64 x4] 31))
  have Q1 := hide fun V => within_any x1 1 1000 V
  have HG : Hid (CaC long (x0, x1, x2, x3, x4) ↔ (1 ≤ x1 ∧ x1 ≤ 1000) ∧ (0 ≤ x2 ∧ x2 < x3 ∧ x3 ≤ 100000000) ∧ (x4 = -1 ∨ (0 ≤ x4 ∧ x4 + x1 ≤ long))) := Iff.rfl
  have HRT : Hid (CaC long (x0, x1, x2, x3, x4) → decide (CaC long (x0, x1, x2, x3, x4)) = true) := fun h => decide_eq_true h
  have HRF : Hid (¬ CaC long (x0, x1, x2, x3, x4) → decide (CaC long (x0, x1, x2, x3, x4)) = false) := fun h => decide_eq_false h
  generalize decide (CaC long (x0, x1, x2, x3, x4)) = r at HRT HRF ⊢
  unfold vCall
  go_enter Try.func59, Try.ntmps59
  cases h1 : inB x1 1 1000 with
  | false =>
    have P1 := hide (inB_no h1)
    rw [h1] at Q1
    go_wp2_with fail
    refine (unhide Q1 _).mono ?_
    rintro e w9 ⟨rfl, h9⟩
    have h8 := h9.symm
    subst h8
    clear h9
    have e1 : r = false := unhide HRF (fun h => by have h9 := (unhide HG).1 h; have f0 := unhide P1; omega)
    subst e1
    clear HRT HRF
    go_wp2
    go_ret
    exact ⟨rfl, unhide HW⟩
  | true =>
  have P1 := hide (inB_true h1)
  rw [h1] at Q1
  go_wp2_with fail
  refine (unhide Q1 _).mono ?_
  rintro e w9 ⟨rfl, h9⟩
  have h8 := h9.symm
  subst h8
  clear h9
  clear h1 Q1
  by_cases h2 : x2 < 0
  · have P2 := hide h2
    have d2 : decide (x2 < 0) = true := decide_eq_true h2
    have e1 : r = false := unhide HRF (fun h => by have h9 := (unhide HG).1 h; have f0 := unhide P2; omega)
    subst e1
    clear HRT HRF
    go_wp2
    go_ret
    exact ⟨rfl, unhide HW⟩
  have P2 := hide h2
  have d2 : decide (x2 < 0) = false := decide_eq_false h2
  by_cases h3 : x3 ≤ x2
  · have P3 := hide h3
    have d3 : decide (x3 ≤ x2) = true := decide_eq_true h3
    have e1 : r = false := unhide HRF (fun h => by have h9 := (unhide HG).1 h; have f0 := unhide P3; omega)
    subst e1
    clear HRT HRF
    go_wp2
    go_ret
    exact ⟨rfl, unhide HW⟩
  have P3 := hide h3
  have d3 : decide (x3 ≤ x2) = false := decide_eq_false h3
  by_cases h4 : 100000000 < x3
  · have P4 := hide h4
    have d4 : decide (100000000 < x3) = true := decide_eq_true h4
    have e1 : r = false := unhide HRF (fun h => by have h9 := (unhide HG).1 h; have f0 := unhide P4; omega)
    subst e1
    clear HRT HRF
    go_wp2
    go_ret
    exact ⟨rfl, unhide HW⟩
  have P4 := hide h4
  have d4 : decide (100000000 < x3) = false := decide_eq_false h4
  by_cases h5 : x4 = -1
  · have P5 := hide h5
    have d5 : (x4 == -1) = true := by simpa using h5
    clear h5
    have e1 : r = true := unhide HRT (by rw [unhide HG]; have f0 := unhide P1; have f1 := unhide P2; have f2 := unhide P3; have f3 := unhide P4; have f4 := unhide P5; omega)
    subst e1
    clear HRT HRF
    go_wp2
    go_ret
    exact ⟨rfl, unhide HW⟩
  have P5 := hide h5
  have d5 : (x4 == -1) = false := by simpa using h5
  clear h5
  obtain ⟨z, ez⟩ : ∃ z, z = long - x1 := ⟨_, rfl⟩
  have hx1 := unhide P1
  have qz : IntKind.i64.wrap (long - x1) = z := by rw [← ez, IntKind.wrap_i64]; omega
  have PZ := hide ez
  clear ez
  have Q6 := hide fun V => within_any x4 0 z V
  cases h6 : inB x4 0 z with
  | false =>
    have P6 := hide (inB_no h6)
    rw [h6] at Q6
    go_wp2_with fail
    refine (unhide Q6 _).mono ?_
    rintro e w9 ⟨rfl, h9⟩
    have h8 := h9.symm
    subst h8
    clear h9
    have e1 : r = false := unhide HRF (fun h => by have h9 := (unhide HG).1 h; have f0 := unhide P5; have f1 := unhide P6; have f2 := unhide PZ; omega)
    subst e1
    clear HRT HRF
    go_wp2
    go_ret
    exact ⟨rfl, unhide HW⟩
  | true =>
    have P6 := hide (inB_true h6)
    rw [h6] at Q6
    go_wp2_with fail
    refine (unhide Q6 _).mono ?_
    rintro e w9 ⟨rfl, h9⟩
    have h8 := h9.symm
    subst h8
    clear h9
    have e1 : r = true := unhide HRT (by rw [unhide HG]; have f0 := unhide P1; have f1 := unhide P2; have f2 := unhide P3; have f3 := unhide P4; have f4 := unhide P6; have f5 := unhide PZ; omega)
    subst e1
    clear HRT HRF
    go_wp2
    go_ret
    exact ⟨rfl, unhide HW⟩

set_option maxRecDepth 100000 in
set_option maxHeartbeats 16000000 in
theorem implCallsOk_any (v : Value) (long : Int) (L : List CallT) (w : World) (h : RCall w v L) :
    Calls Try.prog 17 #[.int .i64 long, v] w fun e w' => e = .returned (.bool (caB long L)) ∧ Below w.heap.size w w' := by
  obtain ⟨ao, cap, rfl, hl, hm, hc⟩ := h
  unfold maxLen at hm
  have HC := hide hc
  clear hc
  have HQ0 := hide fun V => within_any long 1 1000 V
  cases h0 : inB long 1 1000 with
  | false =>
    have HF := hide (caB_long (L := L) h0)
    rw [h0] at HQ0
    go_enter Try.func17, Try.ntmps17
    go_wp2_with fail
    refine (unhide HQ0 _).mono ?_
    rintro e w9 ⟨rfl, h9⟩
    have h8 := h9.symm
    subst h8
    clear h9
    clear h0
    go_wp2
    go_ret
    exact ⟨ret_bool (unhide HF).symm, Below.refl _ _⟩
  | true =>
  have H0 := hide h0
  have hlo := inB_true h0
  rw [h0] at HQ0
  clear h0
  by_cases h24 : 24 < (L.length : Int)
  · have HF : Hid (caB long L = false) := caB_not fun h => by have := h.2.1; omega
    have d24 : decide (24 < (L.length : Int)) = true := decide_eq_true h24
    go_enter Try.func17, Try.ntmps17
    go_wp2_with fail
    refine (unhide HQ0 _).mono ?_
    rintro e w9 ⟨rfl, h9⟩
    have h8 := h9.symm
    subst h8
    clear h9
    go_wp2
    go_ret
    exact ⟨ret_bool (unhide HF).symm, Below.refl _ _⟩
  have d24 : decide (24 < (L.length : Int)) = false := decide_eq_false h24
  go_enter Try.func17, Try.ntmps17
  go_wp2_with fail
  refine (unhide HQ0 _).mono ?_
  rintro e w9 ⟨rfl, h9⟩
  have h8 := h9.symm
  subst h8
  clear h9
  clear HQ0
  go_wp2
  go_loopg [5, 18] L.length (fun g av i wr => Hid (Below w.heap.size w wr) ∧ ∃ k : Nat, k ≤ L.length ∧ g = L.length - k ∧ i = .int .i64 k ∧ av = .int .i64 (ahd L k) ∧ Hid (∀ r, r < k → CaS long L r))
  case atStart => exact ⟨Below.refl _ _, 0, Nat.zero_le _, rfl, rfl, rfl, fun r hr => by omega⟩
  case round =>
    obtain ⟨HW, k, hk, rfl, rfl, rfl, HD⟩ := hrel
    by_cases hkn : k < L.length
    · obtain ⟨b, o, x0, x1, x2, x3, x4, rfl, hc0, hc1, hc2, hc3, hc4, EX⟩ := recCallAt (unhide HC) hkn
      have g0 := wcell3 hc0 (unhide HW)
      have g1 := wcell3 hc1 (unhide HW)
      have g2 := wcell3 hc2 (unhide HW)
      have g3 := wcell3 hc3 (unhide HW)
      have g4 := wcell3 hc4 (unhide HW)
      have hki : (k : Int) < L.length := by omega
      have ex : ca L k = (x0, x1, x2, x3, x4) := unhide EX
      have A := Below.alloc1 wr (.cells #[.int .i64 x0, .int .i64 x1, .int .i64 x2, .int .i64 x3, .int .i64 x4] 31)
      have HW1 := hide (Below.step (unhide HW) A)
      have HX := hide (ownV_alloc wr #[.int .i64 x0, .int .i64 x1, .int .i64 x2, .int .i64 x3, .int .i64 x4] 31)
      have HNO : Hid (¬ CaS long L k → caB long L = false) := fun h => caB_row hkn h
      have HYES : Hid (CaS long L k → ∀ r, r < k + 1 → CaS long L r) := fun h r hr => by
        by_cases e : r = k
        · rw [e]; exact h
        · exact (unhide HD) r (by omega)
      have hab := ahd_bd (unhide HD)
      have HSA := hide (caS_ahd (long := long) (unhide HD))
      have HAN : Hid (ahd L (k + 1) = x0) := by show _ = _; unfold ahd; rw [if_neg (by omega), Nat.add_sub_cancel, ex]
      rw [ex] at HSA
      obtain ⟨z, ez⟩ : ∃ z, z = ahd L k + 1 := ⟨_, rfl⟩
      have qz : IntKind.i64.wrap (ahd L k + 1) = z := by rw [← ez, IntKind.wrap_i64]; omega
      rw [← ez] at HSA
      generalize ahd L k = ah at *
      have Q1 := hide fun V => within_any x0 z 1000000 V
      have Q2 := hide fun V => callOk_any x0 x1 x2 x3 x4 long V hlo
      unfold vCall at Q2
      clear ez HD A hc0 hc1 hc2 hc3 hc4 EX
      cases h1 : inB x0 z 1000000 with
      | false =>
        have HF := hide (unhide HNO (fun h => by have := ((unhide HSA).1 h).1; rw [inB_mk this.1 this.2] at h1; cases h1))
        rw [h1] at Q1
        clear HNO HYES HSA h1
        go_wp2_with fail
        refine (unhide Q1 _).mono ?_
        rintro e w9 ⟨rfl, h9⟩
        have h8 := h9.symm
        subst h8
        clear h9
        go_wp2
        go_ret
        exact ⟨ret_bool (unhide HF).symm, unhide HW1⟩
      | true =>
      have P1 := hide (inB_true h1)
      rw [h1] at Q1
      clear h1
      have HYC : Hid (decide (CaC long (x0, x1, x2, x3, x4)) = true → CaS long L k) := fun h => (unhide HSA).2 ⟨unhide P1, of_decide_eq_true h⟩
      have HNC : Hid (decide (CaC long (x0, x1, x2, x3, x4)) = false → ¬ CaS long L k) := fun h h' => of_decide_eq_false h ((unhide HSA).1 h').2
      generalize decide (CaC long (x0, x1, x2, x3, x4)) = b2 at Q2 HYC HNC
      clear HSA P1
      go_wp2_with fail
      refine (unhide Q1 _).mono ?_
      rintro e w9 ⟨rfl, h9⟩
      have h8 := h9.symm
      subst h8
      clear h9
      clear Q1
      have k0 := (unhide HX).cell (i := 0) rfl
      have k1 := (unhide HX).cell (i := 1) rfl
      have k2 := (unhide HX).cell (i := 2) rfl
      have k3 := (unhide HX).cell (i := 3) rfl
      have k4 := (unhide HX).cell (i := 4) rfl
      go_wp2_with fail
      refine (unhide Q2 _).mono ?_
      rintro e w2 ⟨rfl, hb⟩
      replace HW1 := hide (Below.step (unhide HW1) hb)
      replace HX := hide ((unhide HX).step hb)
      clear hb Q2 k0 k1 k2 k3 k4
      cases b2 with
      | false =>
        have HF := hide (unhide HNO (unhide HNC (by first | rfl | trivial)))
        clear HNO HYES HYC HNC
        go_wp2
        go_ret
        exact ⟨ret_bool (unhide HF).symm, unhide HW1⟩
      | true =>
        have HY := hide (unhide HYES (unhide HYC (by first | rfl | trivial)))
        have k0 := (unhide HX).cell (i := 0) rfl
        clear HNO HYES HYC HNC
        go_wp2
        go_roundg (L.length - (k + 1))
        case measure => omega
        case rel => exact ⟨HW1, k + 1, by omega, rfl, by go_num, by rw [unhide HAN], HY⟩
    · have HF := hide (caB_all (unhide H0) (show L.length ≤ 24 by omega) (fun r hr => (unhide HD) r (by omega)))
      clear HD HC
      go_wp2
      go_ret
      exact ⟨ret_bool (unhide HF).symm, unhide HW⟩

set_option maxRecDepth 100000 in
set_option maxHeartbeats 16000000 in
theorem specCallsOk_any (v : Value) (long : Int) (L : List CallT) (w : World) (h : RCall w v L) :
    Calls Try.prog 27 #[.int .i64 long, v] w fun e w' => e = .returned (.bool (caB long L)) ∧ Below w.heap.size w w' := by
  obtain ⟨ao, cap, rfl, hl, hm, hc⟩ := h
  unfold maxLen at hm
  have HC := hide hc
  clear hc
  have HQ0 := hide fun V => l1In_any long 1 1000 V
  cases h0 : inB long 1 1000 with
  | false =>
    have HF := hide (caB_long (L := L) h0)
    rw [h0] at HQ0
    go_enter Try.func27, Try.ntmps27
    go_wp2_with fail
    refine (unhide HQ0 _).mono ?_
    rintro e w9 ⟨rfl, h9⟩
    have h8 := h9.symm
    subst h8
    clear h9
    clear h0
    go_wp2
    go_ret
    exact ⟨ret_bool (unhide HF).symm, Below.refl _ _⟩
  | true =>
  have H0 := hide h0
  have hlo := inB_true h0
  rw [h0] at HQ0
  clear h0
  by_cases h24 : 24 < (L.length : Int)
  · have HF : Hid (caB long L = false) := caB_not fun h => by have := h.2.1; omega
    have d24 : decide (24 < (L.length : Int)) = true := decide_eq_true h24
    go_enter Try.func27, Try.ntmps27
    go_wp2_with fail
    refine (unhide HQ0 _).mono ?_
    rintro e w9 ⟨rfl, h9⟩
    have h8 := h9.symm
    subst h8
    clear h9
    go_wp2
    go_ret
    exact ⟨ret_bool (unhide HF).symm, Below.refl _ _⟩
  have d24 : decide (24 < (L.length : Int)) = false := decide_eq_false h24
  go_enter Try.func27, Try.ntmps27
  go_wp2_with fail
  refine (unhide HQ0 _).mono ?_
  rintro e w9 ⟨rfl, h9⟩
  have h8 := h9.symm
  subst h8
  clear h9
  clear HQ0
  go_wp2
  go_loopg [5] L.length (fun g i wr => Hid (Below w.heap.size w wr) ∧ ∃ k : Nat, k ≤ L.length ∧ g = L.length - k ∧ i = .int .i64 k ∧ Hid (∀ r, r < k → CaS long L r))
  case atStart => exact ⟨Below.refl _ _, 0, Nat.zero_le _, rfl, rfl, fun r hr => by omega⟩
  case round =>
    obtain ⟨HW, k, hk, rfl, rfl, HD⟩ := hrel
    by_cases hkn : k < L.length
    · obtain ⟨b, o, x0, x1, x2, x3, x4, rfl, hc0, hc1, hc2, hc3, hc4, EX⟩ := recCallAt (unhide HC) hkn
      have g0 := wcell3 hc0 (unhide HW)
      have g1 := wcell3 hc1 (unhide HW)
      have g2 := wcell3 hc2 (unhide HW)
      have g3 := wcell3 hc3 (unhide HW)
      have g4 := wcell3 hc4 (unhide HW)
      have hki : (k : Int) < L.length := by omega
      have ex : ca L k = (x0, x1, x2, x3, x4) := unhide EX
      have A := Below.alloc1 wr (.cells #[.int .i64 x0, .int .i64 x1, .int .i64 x2, .int .i64 x3, .int .i64 x4] 31)
      have HW1 := hide (Below.step (unhide HW) A)
      have HX := hide (ownV_alloc wr #[.int .i64 x0, .int .i64 x1, .int .i64 x2, .int .i64 x3, .int .i64 x4] 31)
      have HNO : Hid (¬ CaS long L k → caB long L = false) := fun h => caB_row hkn h
      have HYES : Hid (CaS long L k → ∀ r, r < k + 1 → CaS long L r) := fun h r hr => by
        by_cases e : r = k
        · rw [e]; exact h
        · exact (unhide HD) r (by omega)
      have HIF : Hid (CaS long L k ↔ (1 ≤ x0 ∧ x0 ≤ 1000000) ∧ ((1 ≤ x1 ∧ x1 ≤ 1000) ∧ (0 ≤ x2 ∧ x2 < x3 ∧ x3 ≤ 100000000) ∧ (x4 = -1 ∨ (0 ≤ x4 ∧ x4 + x1 ≤ long))) ∧ (0 < k → cId (ca L (k - 1)) < x0)) := by show _ ↔ _; unfold CaS CaC; rw [ex]
      have Q1 := hide fun V => l1In_any x0 1 1000000 V
      have Q3 := hide fun V => l1In_any x1 1 1000 V
      have Q4 := hide fun V => l1Minute_any x2 V
      have Q5 := hide fun V => l1Minute_any x3 V
      have Q7 := hide fun V => l1In_any x4 (-1) 1000 V
      clear HD A hc0 hc1 hc2 hc3 hc4 EX ex H0
      go_upto_region 7 with (fail)
      obtain ⟨W1, eW⟩ : ∃ W1, W1 = wr.alloc (.cells #[.int .i64 x0, .int .i64 x1, .int .i64 x2, .int .i64 x3, .int .i64 x4] 31) := ⟨_, rfl⟩
      obtain ⟨gx, egx⟩ : ∃ gx, gx = wr.heap.size := ⟨_, rfl⟩
      rw [← eW] at HW1 HX ⊢
      rw [← egx] at HX ⊢
      clear eW egx g0 g1 g2 g3 g4
      have k0 := (unhide HX).cell (i := 0) rfl
      have k1 := (unhide HX).cell (i := 1) rfl
      have k2 := (unhide HX).cell (i := 2) rfl
      have k3 := (unhide HX).cell (i := 3) rfl
      have k4 := (unhide HX).cell (i := 4) rfl
      cases h1 : inB x0 1 1000000 with
      | false =>
        have P1 := hide (inB_no h1)
        rw [h1] at Q1
        clear h1
        refine wp_region_quiet_lit (by kernel_rfl) (by kernel_rfl) ?_
        repeat (go_big_quiet_step (fail))
        go_big_quiet_want
        go_big_quiet_op
        go_big_quiet_call (exact Calls.quiet_of_same (unhide Q1 _))
        repeat (go_big_quiet_step (fail))
        refine wpQuiet_nil ?_
        intro _ hw'
        obtain ⟨nq, hw''⟩ := hw'
        subst hw''
        replace HW1 := hide (below_drewN (unhide HW1) nq)
        have HF := hide (unhide HNO (fun h => by have h9 := (unhide HIF).1 h; have f0 := unhide P1; omega))
        clear HNO HYES HIF
        go_wp2
        go_ret
        exact ⟨ret_bool (unhide HF).symm, unhide HW1⟩
      | true =>
      have P1 := hide (inB_true h1)
      rw [h1] at Q1
      clear h1
      by_cases hk0 : k = 0
      · have dk : decide ((0 : Int) < (k : Int)) = false := by rw [decide_eq_false_iff_not]; omega
        have dkN : decide (0 < k) = false := by rw [decide_eq_false_iff_not]; omega
        have P2 := hide hk0
        clear hk0
        cases h3 : inB x1 1 1000 with
        | false =>
          have P3 := hide (inB_no h3)
          rw [h3] at Q3
          clear h3
          refine wp_region_quiet_lit (by kernel_rfl) (by kernel_rfl) ?_
          repeat (go_big_quiet_step (fail))
          go_big_quiet_want
          go_big_quiet_op
          go_big_quiet_call (exact Calls.quiet_of_same (unhide Q1 _))
          repeat (go_big_quiet_step (fail))
          go_big_quiet_want
          go_big_quiet_op
          go_big_quiet_call (exact Calls.quiet_of_same (unhide Q3 _))
          repeat (go_big_quiet_step (fail))
          refine wpQuiet_nil ?_
          intro _ hw'
          obtain ⟨nq, hw''⟩ := hw'
          subst hw''
          replace HW1 := hide (below_drewN (unhide HW1) nq)
          have HF := hide (unhide HNO (fun h => by have h9 := (unhide HIF).1 h; have f0 := unhide P3; omega))
          clear HNO HYES HIF
          go_wp2
          go_ret
          exact ⟨ret_bool (unhide HF).symm, unhide HW1⟩
        | true =>
        have P3 := hide (inB_true h3)
        rw [h3] at Q3
        clear h3
        cases h4 : inB x2 0 100000000 with
        | false =>
          have P4 := hide (inB_no h4)
          rw [h4] at Q4
          clear h4
          refine wp_region_quiet_lit (by kernel_rfl) (by kernel_rfl) ?_
          repeat (go_big_quiet_step (fail))
          go_big_quiet_want
          go_big_quiet_op
          go_big_quiet_call (exact Calls.quiet_of_same (unhide Q1 _))
          repeat (go_big_quiet_step (fail))
          go_big_quiet_want
          go_big_quiet_op
          go_big_quiet_call (exact Calls.quiet_of_same (unhide Q3 _))
          repeat (go_big_quiet_step (fail))
          go_big_quiet_want
          go_big_quiet_op
          go_big_quiet_call (exact Calls.quiet_of_same (unhide Q4 _))
          repeat (go_big_quiet_step (fail))
          refine wpQuiet_nil ?_
          intro _ hw'
          obtain ⟨nq, hw''⟩ := hw'
          subst hw''
          replace HW1 := hide (below_drewN (unhide HW1) nq)
          have HF := hide (unhide HNO (fun h => by have h9 := (unhide HIF).1 h; have f0 := unhide P4; omega))
          clear HNO HYES HIF
          go_wp2
          go_ret
          exact ⟨ret_bool (unhide HF).symm, unhide HW1⟩
        | true =>
        have P4 := hide (inB_true h4)
        rw [h4] at Q4
        clear h4
        cases h5 : inB x3 0 100000000 with
        | false =>
          have P5 := hide (inB_no h5)
          rw [h5] at Q5
          clear h5
          refine wp_region_quiet_lit (by kernel_rfl) (by kernel_rfl) ?_
          repeat (go_big_quiet_step (fail))
          go_big_quiet_want
          go_big_quiet_op
          go_big_quiet_call (exact Calls.quiet_of_same (unhide Q1 _))
          repeat (go_big_quiet_step (fail))
          go_big_quiet_want
          go_big_quiet_op
          go_big_quiet_call (exact Calls.quiet_of_same (unhide Q3 _))
          repeat (go_big_quiet_step (fail))
          go_big_quiet_want
          go_big_quiet_op
          go_big_quiet_call (exact Calls.quiet_of_same (unhide Q4 _))
          repeat (go_big_quiet_step (fail))
          go_big_quiet_want
          go_big_quiet_op
          go_big_quiet_call (exact Calls.quiet_of_same (unhide Q5 _))
          repeat (go_big_quiet_step (fail))
          refine wpQuiet_nil ?_
          intro _ hw'
          obtain ⟨nq, hw''⟩ := hw'
          subst hw''
          replace HW1 := hide (below_drewN (unhide HW1) nq)
          have HF := hide (unhide HNO (fun h => by have h9 := (unhide HIF).1 h; have f0 := unhide P5; have f1 := unhide P4; omega))
          clear HNO HYES HIF
          go_wp2
          go_ret
          exact ⟨ret_bool (unhide HF).symm, unhide HW1⟩
        | true =>
        have P5 := hide (inB_true h5)
        rw [h5] at Q5
        clear h5
        by_cases h6 : x3 ≤ x2
        · have P6 := hide h6
          have d6 : decide (x3 ≤ x2) = true := decide_eq_true h6
          clear h6
          refine wp_region_quiet_lit (by kernel_rfl) (by kernel_rfl) ?_
          repeat (go_big_quiet_step (fail))
          go_big_quiet_want
          go_big_quiet_op
          go_big_quiet_call (exact Calls.quiet_of_same (unhide Q1 _))
          repeat (go_big_quiet_step (fail))
          go_big_quiet_want
          go_big_quiet_op
          go_big_quiet_call (exact Calls.quiet_of_same (unhide Q3 _))
          repeat (go_big_quiet_step (fail))
          go_big_quiet_want
          go_big_quiet_op
          go_big_quiet_call (exact Calls.quiet_of_same (unhide Q4 _))
          repeat (go_big_quiet_step (fail))
          go_big_quiet_want
          go_big_quiet_op
          go_big_quiet_call (exact Calls.quiet_of_same (unhide Q5 _))
          repeat (go_big_quiet_step (fail))
          refine wpQuiet_nil ?_
          intro _ hw'
          obtain ⟨nq, hw''⟩ := hw'
          subst hw''
          replace HW1 := hide (below_drewN (unhide HW1) nq)
          have HF := hide (unhide HNO (fun h => by have h9 := (unhide HIF).1 h; have f0 := unhide P6; omega))
          clear HNO HYES HIF
          go_wp2
          go_ret
          exact ⟨ret_bool (unhide HF).symm, unhide HW1⟩
        · have P6 := hide h6
          have d6 : decide (x3 ≤ x2) = false := decide_eq_false h6
          clear h6
          cases h7 : inB x4 (-1) 1000 with
          | false =>
            have P7 := hide (inB_no h7)
            rw [h7] at Q7
            clear h7
            refine wp_region_quiet_lit (by kernel_rfl) (by kernel_rfl) ?_
            repeat (go_big_quiet_step (fail))
            go_big_quiet_want
            go_big_quiet_op
            go_big_quiet_call (exact Calls.quiet_of_same (unhide Q1 _))
            repeat (go_big_quiet_step (fail))
            go_big_quiet_want
            go_big_quiet_op
            go_big_quiet_call (exact Calls.quiet_of_same (unhide Q3 _))
            repeat (go_big_quiet_step (fail))
            go_big_quiet_want
            go_big_quiet_op
            go_big_quiet_call (exact Calls.quiet_of_same (unhide Q4 _))
            repeat (go_big_quiet_step (fail))
            go_big_quiet_want
            go_big_quiet_op
            go_big_quiet_call (exact Calls.quiet_of_same (unhide Q5 _))
            repeat (go_big_quiet_step (fail))
            go_big_quiet_want
            go_big_quiet_op
            go_big_quiet_call (exact Calls.quiet_of_same (unhide Q7 _))
            repeat (go_big_quiet_step (fail))
            refine wpQuiet_nil ?_
            intro _ hw'
            obtain ⟨nq, hw''⟩ := hw'
            subst hw''
            replace HW1 := hide (below_drewN (unhide HW1) nq)
            have HF := hide (unhide HNO (fun h => by have h9 := (unhide HIF).1 h; have f0 := unhide P7; have f1 := unhide P3; omega))
            clear HNO HYES HIF
            go_wp2
            go_ret
            exact ⟨ret_bool (unhide HF).symm, unhide HW1⟩
          | true =>
          have P7 := hide (inB_true h7)
          rw [h7] at Q7
          clear h7
          by_cases h8 : 0 ≤ x4
          · have P8 := hide h8
            have d8 : decide (0 ≤ x4) = true := decide_eq_true h8
            clear h8
            obtain ⟨z, ez⟩ : ∃ z, z = x4 + x1 := ⟨_, rfl⟩
            have qz : IntKind.i64.wrap (x4 + x1) = z := by have f1 := unhide P7; have f2 := unhide P3; rw [← ez, IntKind.wrap_i64]; omega
            have PZ := hide ez
            clear ez
            by_cases h9 : long < z
            · have P9 := hide h9
              have d9 : decide (long < z) = true := decide_eq_true h9
              clear h9
              refine wp_region_quiet_lit (by kernel_rfl) (by kernel_rfl) ?_
              repeat (go_big_quiet_step (fail))
              go_big_quiet_want
              go_big_quiet_op
              go_big_quiet_call (exact Calls.quiet_of_same (unhide Q1 _))
              repeat (go_big_quiet_step (fail))
              go_big_quiet_want
              go_big_quiet_op
              go_big_quiet_call (exact Calls.quiet_of_same (unhide Q3 _))
              repeat (go_big_quiet_step (fail))
              go_big_quiet_want
              go_big_quiet_op
              go_big_quiet_call (exact Calls.quiet_of_same (unhide Q4 _))
              repeat (go_big_quiet_step (fail))
              go_big_quiet_want
              go_big_quiet_op
              go_big_quiet_call (exact Calls.quiet_of_same (unhide Q5 _))
              repeat (go_big_quiet_step (fail))
              go_big_quiet_want
              go_big_quiet_op
              go_big_quiet_call (exact Calls.quiet_of_same (unhide Q7 _))
              repeat (go_big_quiet_step (fail))
              refine wpQuiet_nil ?_
              intro _ hw'
              obtain ⟨nq, hw''⟩ := hw'
              subst hw''
              replace HW1 := hide (below_drewN (unhide HW1) nq)
              have HF := hide (unhide HNO (fun h => by have h9 := (unhide HIF).1 h; have f0 := unhide P8; have f1 := unhide P9; have f2 := unhide PZ; omega))
              clear HNO HYES HIF
              go_wp2
              go_ret
              exact ⟨ret_bool (unhide HF).symm, unhide HW1⟩
            · have P9 := hide h9
              have d9 : decide (long < z) = false := decide_eq_false h9
              clear h9
              refine wp_region_quiet_lit (by kernel_rfl) (by kernel_rfl) ?_
              repeat (go_big_quiet_step (fail))
              go_big_quiet_want
              go_big_quiet_op
              go_big_quiet_call (exact Calls.quiet_of_same (unhide Q1 _))
              repeat (go_big_quiet_step (fail))
              go_big_quiet_want
              go_big_quiet_op
              go_big_quiet_call (exact Calls.quiet_of_same (unhide Q3 _))
              repeat (go_big_quiet_step (fail))
              go_big_quiet_want
              go_big_quiet_op
              go_big_quiet_call (exact Calls.quiet_of_same (unhide Q4 _))
              repeat (go_big_quiet_step (fail))
              go_big_quiet_want
              go_big_quiet_op
              go_big_quiet_call (exact Calls.quiet_of_same (unhide Q5 _))
              repeat (go_big_quiet_step (fail))
              go_big_quiet_want
              go_big_quiet_op
              go_big_quiet_call (exact Calls.quiet_of_same (unhide Q7 _))
              repeat (go_big_quiet_step (fail))
              refine wpQuiet_nil ?_
              intro _ hw'
              obtain ⟨nq, hw''⟩ := hw'
              subst hw''
              replace HW1 := hide (below_drewN (unhide HW1) nq)
              have HY := hide (unhide HYES (by rw [unhide HIF]; have f0 := unhide P1; have f1 := unhide P2; have f2 := unhide P3; have f3 := unhide P4; have f4 := unhide P5; have f5 := unhide P6; have f6 := unhide P7; have f7 := unhide P8; have f8 := unhide P9; have f9 := unhide PZ; omega))
              clear HYES HNO HIF
              go_wp2
              go_roundg (L.length - (k + 1))
              case measure => omega
              case rel => exact ⟨HW1, k + 1, by omega, rfl, by go_num, HY⟩
          · have P8 := hide h8
            have d8 : decide (0 ≤ x4) = false := decide_eq_false h8
            clear h8
            refine wp_region_quiet_lit (by kernel_rfl) (by kernel_rfl) ?_
            repeat (go_big_quiet_step (fail))
            go_big_quiet_want
            go_big_quiet_op
            go_big_quiet_call (exact Calls.quiet_of_same (unhide Q1 _))
            repeat (go_big_quiet_step (fail))
            go_big_quiet_want
            go_big_quiet_op
            go_big_quiet_call (exact Calls.quiet_of_same (unhide Q3 _))
            repeat (go_big_quiet_step (fail))
            go_big_quiet_want
            go_big_quiet_op
            go_big_quiet_call (exact Calls.quiet_of_same (unhide Q4 _))
            repeat (go_big_quiet_step (fail))
            go_big_quiet_want
            go_big_quiet_op
            go_big_quiet_call (exact Calls.quiet_of_same (unhide Q5 _))
            repeat (go_big_quiet_step (fail))
            go_big_quiet_want
            go_big_quiet_op
            go_big_quiet_call (exact Calls.quiet_of_same (unhide Q7 _))
            repeat (go_big_quiet_step (fail))
            refine wpQuiet_nil ?_
            intro _ hw'
            obtain ⟨nq, hw''⟩ := hw'
            subst hw''
            replace HW1 := hide (below_drewN (unhide HW1) nq)
            have HY := hide (unhide HYES (by rw [unhide HIF]; have f0 := unhide P1; have f1 := unhide P2; have f2 := unhide P3; have f3 := unhide P4; have f4 := unhide P5; have f5 := unhide P6; have f6 := unhide P7; have f7 := unhide P8; omega))
            clear HYES HNO HIF
            go_wp2
            go_roundg (L.length - (k + 1))
            case measure => omega
            case rel => exact ⟨HW1, k + 1, by omega, rfl, by go_num, HY⟩
      · have dk : decide ((0 : Int) < (k : Int)) = true := by rw [decide_eq_true_eq]; omega
        have dkN : decide (0 < k) = true := by rw [decide_eq_true_eq]; omega
        obtain ⟨p, ep⟩ : ∃ p, p = k - 1 := ⟨_, rfl⟩
        obtain ⟨bb', o', y0, y1, y2, y3, y4, e', hp0, -, -, -, -, EX'⟩ := recCallAt (unhide HC) (show p < L.length by omega)
        simp only [Option.some.injEq, Addr.mk.injEq, and_true] at e'
        obtain ⟨rfl, rfl⟩ := e'
        have f0 := wcell3 hp0 (unhide HW1)
        have q1 : IntKind.i64.wrap ((k : Int) - 1) = (p : Int) := by rw [IntKind.wrap_i64]; omega
        have q2 : (k : Int) - 1 = (p : Int) := by omega
        have hpi : (p : Int) < L.length := by omega
        have PY : Hid (cId (ca L (k - 1)) = y0) := by show _ = _; rw [← ep, show ca L p = (y0, y1, y2, y3, y4) from unhide EX']
        have PK := hide hk0
        clear hp0 EX' hk0 ep
        by_cases h2 : x0 ≤ y0
        · have P2 := hide h2
          have d2 : decide (x0 ≤ y0) = true := decide_eq_true h2
          clear h2
          refine wp_region_quiet_lit (by kernel_rfl) (by kernel_rfl) ?_
          repeat (go_big_quiet_step (fail))
          go_big_quiet_want
          go_big_quiet_op
          go_big_quiet_call (exact Calls.quiet_of_same (unhide Q1 _))
          repeat (go_big_quiet_step (fail))
          refine wpQuiet_nil ?_
          intro _ hw'
          obtain ⟨nq, hw''⟩ := hw'
          subst hw''
          replace HW1 := hide (below_drewN (unhide HW1) nq)
          have HF := hide (unhide HNO (fun h => by have h9 := (unhide HIF).1 h; have f0 := unhide P2; have f1 := unhide PY; have f2 := unhide PK; omega))
          clear HNO HYES HIF
          go_wp2
          go_ret
          exact ⟨ret_bool (unhide HF).symm, unhide HW1⟩
        · have P2 := hide h2
          have d2 : decide (x0 ≤ y0) = false := decide_eq_false h2
          clear h2
          cases h3 : inB x1 1 1000 with
          | false =>
            have P3 := hide (inB_no h3)
            rw [h3] at Q3
            clear h3
            refine wp_region_quiet_lit (by kernel_rfl) (by kernel_rfl) ?_
            repeat (go_big_quiet_step (fail))
            go_big_quiet_want
            go_big_quiet_op
            go_big_quiet_call (exact Calls.quiet_of_same (unhide Q1 _))
            repeat (go_big_quiet_step (fail))
            go_big_quiet_want
            go_big_quiet_op
            go_big_quiet_call (exact Calls.quiet_of_same (unhide Q3 _))
            repeat (go_big_quiet_step (fail))
            refine wpQuiet_nil ?_
            intro _ hw'
            obtain ⟨nq, hw''⟩ := hw'
            subst hw''
            replace HW1 := hide (below_drewN (unhide HW1) nq)
            have HF := hide (unhide HNO (fun h => by have h9 := (unhide HIF).1 h; have f0 := unhide P3; omega))
            clear HNO HYES HIF
            go_wp2
            go_ret
            exact ⟨ret_bool (unhide HF).symm, unhide HW1⟩
          | true =>
          have P3 := hide (inB_true h3)
          rw [h3] at Q3
          clear h3
          cases h4 : inB x2 0 100000000 with
          | false =>
            have P4 := hide (inB_no h4)
            rw [h4] at Q4
            clear h4
            refine wp_region_quiet_lit (by kernel_rfl) (by kernel_rfl) ?_
            repeat (go_big_quiet_step (fail))
            go_big_quiet_want
            go_big_quiet_op
            go_big_quiet_call (exact Calls.quiet_of_same (unhide Q1 _))
            repeat (go_big_quiet_step (fail))
            go_big_quiet_want
            go_big_quiet_op
            go_big_quiet_call (exact Calls.quiet_of_same (unhide Q3 _))
            repeat (go_big_quiet_step (fail))
            go_big_quiet_want
            go_big_quiet_op
            go_big_quiet_call (exact Calls.quiet_of_same (unhide Q4 _))
            repeat (go_big_quiet_step (fail))
            refine wpQuiet_nil ?_
            intro _ hw'
            obtain ⟨nq, hw''⟩ := hw'
            subst hw''
            replace HW1 := hide (below_drewN (unhide HW1) nq)
            have HF := hide (unhide HNO (fun h => by have h9 := (unhide HIF).1 h; have f0 := unhide P4; omega))
            clear HNO HYES HIF
            go_wp2
            go_ret
            exact ⟨ret_bool (unhide HF).symm, unhide HW1⟩
          | true =>
          have P4 := hide (inB_true h4)
          rw [h4] at Q4
          clear h4
          cases h5 : inB x3 0 100000000 with
          | false =>
            have P5 := hide (inB_no h5)
            rw [h5] at Q5
            clear h5
            refine wp_region_quiet_lit (by kernel_rfl) (by kernel_rfl) ?_
            repeat (go_big_quiet_step (fail))
            go_big_quiet_want
            go_big_quiet_op
            go_big_quiet_call (exact Calls.quiet_of_same (unhide Q1 _))
            repeat (go_big_quiet_step (fail))
            go_big_quiet_want
            go_big_quiet_op
            go_big_quiet_call (exact Calls.quiet_of_same (unhide Q3 _))
            repeat (go_big_quiet_step (fail))
            go_big_quiet_want
            go_big_quiet_op
            go_big_quiet_call (exact Calls.quiet_of_same (unhide Q4 _))
            repeat (go_big_quiet_step (fail))
            go_big_quiet_want
            go_big_quiet_op
            go_big_quiet_call (exact Calls.quiet_of_same (unhide Q5 _))
            repeat (go_big_quiet_step (fail))
            refine wpQuiet_nil ?_
            intro _ hw'
            obtain ⟨nq, hw''⟩ := hw'
            subst hw''
            replace HW1 := hide (below_drewN (unhide HW1) nq)
            have HF := hide (unhide HNO (fun h => by have h9 := (unhide HIF).1 h; have f0 := unhide P5; have f1 := unhide P4; omega))
            clear HNO HYES HIF
            go_wp2
            go_ret
            exact ⟨ret_bool (unhide HF).symm, unhide HW1⟩
          | true =>
          have P5 := hide (inB_true h5)
          rw [h5] at Q5
          clear h5
          by_cases h6 : x3 ≤ x2
          · have P6 := hide h6
            have d6 : decide (x3 ≤ x2) = true := decide_eq_true h6
            clear h6
            refine wp_region_quiet_lit (by kernel_rfl) (by kernel_rfl) ?_
            repeat (go_big_quiet_step (fail))
            go_big_quiet_want
            go_big_quiet_op
            go_big_quiet_call (exact Calls.quiet_of_same (unhide Q1 _))
            repeat (go_big_quiet_step (fail))
            go_big_quiet_want
            go_big_quiet_op
            go_big_quiet_call (exact Calls.quiet_of_same (unhide Q3 _))
            repeat (go_big_quiet_step (fail))
            go_big_quiet_want
            go_big_quiet_op
            go_big_quiet_call (exact Calls.quiet_of_same (unhide Q4 _))
            repeat (go_big_quiet_step (fail))
            go_big_quiet_want
            go_big_quiet_op
            go_big_quiet_call (exact Calls.quiet_of_same (unhide Q5 _))
            repeat (go_big_quiet_step (fail))
            refine wpQuiet_nil ?_
            intro _ hw'
            obtain ⟨nq, hw''⟩ := hw'
            subst hw''
            replace HW1 := hide (below_drewN (unhide HW1) nq)
            have HF := hide (unhide HNO (fun h => by have h9 := (unhide HIF).1 h; have f0 := unhide P6; omega))
            clear HNO HYES HIF
            go_wp2
            go_ret
            exact ⟨ret_bool (unhide HF).symm, unhide HW1⟩
          · have P6 := hide h6
            have d6 : decide (x3 ≤ x2) = false := decide_eq_false h6
            clear h6
            cases h7 : inB x4 (-1) 1000 with
            | false =>
              have P7 := hide (inB_no h7)
              rw [h7] at Q7
              clear h7
              refine wp_region_quiet_lit (by kernel_rfl) (by kernel_rfl) ?_
              repeat (go_big_quiet_step (fail))
              go_big_quiet_want
              go_big_quiet_op
              go_big_quiet_call (exact Calls.quiet_of_same (unhide Q1 _))
              repeat (go_big_quiet_step (fail))
              go_big_quiet_want
              go_big_quiet_op
              go_big_quiet_call (exact Calls.quiet_of_same (unhide Q3 _))
              repeat (go_big_quiet_step (fail))
              go_big_quiet_want
              go_big_quiet_op
              go_big_quiet_call (exact Calls.quiet_of_same (unhide Q4 _))
              repeat (go_big_quiet_step (fail))
              go_big_quiet_want
              go_big_quiet_op
              go_big_quiet_call (exact Calls.quiet_of_same (unhide Q5 _))
              repeat (go_big_quiet_step (fail))
              go_big_quiet_want
              go_big_quiet_op
              go_big_quiet_call (exact Calls.quiet_of_same (unhide Q7 _))
              repeat (go_big_quiet_step (fail))
              refine wpQuiet_nil ?_
              intro _ hw'
              obtain ⟨nq, hw''⟩ := hw'
              subst hw''
              replace HW1 := hide (below_drewN (unhide HW1) nq)
              have HF := hide (unhide HNO (fun h => by have h9 := (unhide HIF).1 h; have f0 := unhide P7; have f1 := unhide P3; omega))
              clear HNO HYES HIF
              go_wp2
              go_ret
              exact ⟨ret_bool (unhide HF).symm, unhide HW1⟩
            | true =>
            have P7 := hide (inB_true h7)
            rw [h7] at Q7
            clear h7
            by_cases h8 : 0 ≤ x4
            · have P8 := hide h8
              have d8 : decide (0 ≤ x4) = true := decide_eq_true h8
              clear h8
              obtain ⟨z, ez⟩ : ∃ z, z = x4 + x1 := ⟨_, rfl⟩
              have qz : IntKind.i64.wrap (x4 + x1) = z := by have f1 := unhide P7; have f2 := unhide P3; rw [← ez, IntKind.wrap_i64]; omega
              have PZ := hide ez
              clear ez
              by_cases h9 : long < z
              · have P9 := hide h9
                have d9 : decide (long < z) = true := decide_eq_true h9
                clear h9
                refine wp_region_quiet_lit (by kernel_rfl) (by kernel_rfl) ?_
                repeat (go_big_quiet_step (fail))
                go_big_quiet_want
                go_big_quiet_op
                go_big_quiet_call (exact Calls.quiet_of_same (unhide Q1 _))
                repeat (go_big_quiet_step (fail))
                go_big_quiet_want
                go_big_quiet_op
                go_big_quiet_call (exact Calls.quiet_of_same (unhide Q3 _))
                repeat (go_big_quiet_step (fail))
                go_big_quiet_want
                go_big_quiet_op
                go_big_quiet_call (exact Calls.quiet_of_same (unhide Q4 _))
                repeat (go_big_quiet_step (fail))
                go_big_quiet_want
                go_big_quiet_op
                go_big_quiet_call (exact Calls.quiet_of_same (unhide Q5 _))
                repeat (go_big_quiet_step (fail))
                go_big_quiet_want
                go_big_quiet_op
                go_big_quiet_call (exact Calls.quiet_of_same (unhide Q7 _))
                repeat (go_big_quiet_step (fail))
                refine wpQuiet_nil ?_
                intro _ hw'
                obtain ⟨nq, hw''⟩ := hw'
                subst hw''
                replace HW1 := hide (below_drewN (unhide HW1) nq)
                have HF := hide (unhide HNO (fun h => by have h9 := (unhide HIF).1 h; have f0 := unhide P8; have f1 := unhide P9; have f2 := unhide PZ; omega))
                clear HNO HYES HIF
                go_wp2
                go_ret
                exact ⟨ret_bool (unhide HF).symm, unhide HW1⟩
              · have P9 := hide h9
                have d9 : decide (long < z) = false := decide_eq_false h9
                clear h9
                refine wp_region_quiet_lit (by kernel_rfl) (by kernel_rfl) ?_
                repeat (go_big_quiet_step (fail))
                go_big_quiet_want
                go_big_quiet_op
                go_big_quiet_call (exact Calls.quiet_of_same (unhide Q1 _))
                repeat (go_big_quiet_step (fail))
                go_big_quiet_want
                go_big_quiet_op
                go_big_quiet_call (exact Calls.quiet_of_same (unhide Q3 _))
                repeat (go_big_quiet_step (fail))
                go_big_quiet_want
                go_big_quiet_op
                go_big_quiet_call (exact Calls.quiet_of_same (unhide Q4 _))
                repeat (go_big_quiet_step (fail))
                go_big_quiet_want
                go_big_quiet_op
                go_big_quiet_call (exact Calls.quiet_of_same (unhide Q5 _))
                repeat (go_big_quiet_step (fail))
                go_big_quiet_want
                go_big_quiet_op
                go_big_quiet_call (exact Calls.quiet_of_same (unhide Q7 _))
                repeat (go_big_quiet_step (fail))
                refine wpQuiet_nil ?_
                intro _ hw'
                obtain ⟨nq, hw''⟩ := hw'
                subst hw''
                replace HW1 := hide (below_drewN (unhide HW1) nq)
                have HY := hide (unhide HYES (by rw [unhide HIF]; have f0 := unhide P1; have f1 := unhide P2; have f2 := unhide PY; have f3 := unhide P3; have f4 := unhide P4; have f5 := unhide P5; have f6 := unhide P6; have f7 := unhide P7; have f8 := unhide P8; have f9 := unhide P9; have f10 := unhide PZ; omega))
                clear HYES HNO HIF
                go_wp2
                go_roundg (L.length - (k + 1))
                case measure => omega
                case rel => exact ⟨HW1, k + 1, by omega, rfl, by go_num, HY⟩
            · have P8 := hide h8
              have d8 : decide (0 ≤ x4) = false := decide_eq_false h8
              clear h8
              refine wp_region_quiet_lit (by kernel_rfl) (by kernel_rfl) ?_
              repeat (go_big_quiet_step (fail))
              go_big_quiet_want
              go_big_quiet_op
              go_big_quiet_call (exact Calls.quiet_of_same (unhide Q1 _))
              repeat (go_big_quiet_step (fail))
              go_big_quiet_want
              go_big_quiet_op
              go_big_quiet_call (exact Calls.quiet_of_same (unhide Q3 _))
              repeat (go_big_quiet_step (fail))
              go_big_quiet_want
              go_big_quiet_op
              go_big_quiet_call (exact Calls.quiet_of_same (unhide Q4 _))
              repeat (go_big_quiet_step (fail))
              go_big_quiet_want
              go_big_quiet_op
              go_big_quiet_call (exact Calls.quiet_of_same (unhide Q5 _))
              repeat (go_big_quiet_step (fail))
              go_big_quiet_want
              go_big_quiet_op
              go_big_quiet_call (exact Calls.quiet_of_same (unhide Q7 _))
              repeat (go_big_quiet_step (fail))
              refine wpQuiet_nil ?_
              intro _ hw'
              obtain ⟨nq, hw''⟩ := hw'
              subst hw''
              replace HW1 := hide (below_drewN (unhide HW1) nq)
              have HY := hide (unhide HYES (by rw [unhide HIF]; have f0 := unhide P1; have f1 := unhide P2; have f2 := unhide PY; have f3 := unhide P3; have f4 := unhide P4; have f5 := unhide P5; have f6 := unhide P6; have f7 := unhide P7; have f8 := unhide P8; omega))
              clear HYES HNO HIF
              go_wp2
              go_roundg (L.length - (k + 1))
              case measure => omega
              case rel => exact ⟨HW1, k + 1, by omega, rfl, by go_num, HY⟩
    · have HF := hide (caB_all (unhide H0) (show L.length ≤ 24 by omega) (fun r hr => (unhide HD) r (by omega)))
      clear HD HC
      go_wp2
      go_ret
      exact ⟨ret_bool (unhide HF).symm, unhide HW⟩

end Go.Proofs.Ytogoknldhimgfaa

/- Cranes: contracts of craneOk and of both CranesOk. Written by wip/mkcra.py. -/
import Derived.Test.YtogoknldhimgfaaCrM
import Derived.Test.YtogoknldhimgfaaWalkD
import Derived.Test.YtogoknldhimgfaaWalkF
import Derived.Deep.QuietTactic
import Derived.BigQuiet
import Derived.Deep.DeepCutAuto
import Derived.Deep.Cut
import Derived.BigRegion
namespace Go.Proofs.Ytogoknldhimgfaa
open Go.RowKit

theorem crG_eq (x0 x1 x2 : Int) : decide (CrG (x0, x1, x2)) = (decide (0 ≤ x1) && (inB x0 x1 x2 && decide (x2 ≤ 1000))) := by
  rw [Bool.eq_iff_iff, decide_eq_true_iff]
  unfold CrG
  simp only [inB, Bool.and_eq_true, decide_eq_true_eq]
  omega
theorem crG_spec (x0 x1 x2 : Int) : decide (CrG (x0, x1, x2)) = (inB x1 0 x0 && inB x2 x0 1000) := by
  rw [Bool.eq_iff_iff, decide_eq_true_iff]
  unfold CrG
  simp only [inB, Bool.and_eq_true, decide_eq_true_eq]
/-- As it is reckoned. -/
def CrW (L : List CraneT) (gap : Int) (k : Nat) : Prop := CrG (cr L k) ∧ (0 < k → ¬ (cr L k).1 < IntKind.i64.wrap ((cr L (k - 1)).1 + gap))
theorem crP_w {L : List CraneT} {gap : Int} (h : CrP L gap) {k : Nat} (hk : k < L.length) : CrW L gap k := by
  obtain ⟨h1, h2⟩ := h.2.2 k hk
  refine ⟨h1, fun h0 => ?_⟩
  have h3 := (h.2.2 (k - 1) (by omega)).1
  have h4 := h2 h0
  have h5 := h.2.1
  unfold CrG at h3
  rw [IntKind.wrap_i64]
  omega
theorem crB_w {L : List CraneT} {gap : Int} {k : Nat} (hk : k < L.length) (h : ¬ CrW L gap k) : crB L gap = false := crB_not fun h' => h (crP_w h' hk)
theorem crB_all {L : List CraneT} {gap : Int} (h : ∀ k, k < L.length → CrW L gap k) : crB L gap = (inB (L.length : Int) 1 8 && inB gap 1 20) := by
  rw [Bool.eq_iff_iff, crB_iff]
  simp only [inB, Bool.and_eq_true, decide_eq_true_eq]
  constructor
  · rintro ⟨⟨a, b⟩, ⟨c, d⟩, _⟩
    exact ⟨⟨by omega, by omega⟩, c, d⟩
  · rintro ⟨⟨a, b⟩, c, d⟩
    refine ⟨⟨by omega, by omega⟩, ⟨c, d⟩, fun k hk => ⟨(h k hk).1, fun h0 => ?_⟩⟩
    have h1 := (h k hk).2 h0
    have h2 := (h (k - 1) (by omega)).1
    unfold CrG at h2
    rw [IntKind.wrap_i64] at h1
    omega
theorem crB_len {L : List CraneT} {gap : Int} (h : inB (L.length : Int) 1 8 = false) : crB L gap = false := crB_not fun h' => by have := h'.1; rw [inB_mk (by omega) (by omega)] at h; cases h
theorem crB_gap {L : List CraneT} {gap : Int} (h : inB gap 1 20 = false) : crB L gap = false := crB_not fun h' => by have := h'.2.1; rw [inB_mk (by omega) (by omega)] at h; cases h

set_option maxRecDepth 10000 in
set_option maxHeartbeats 4000000 in
theorem craneOk_any (x0 x1 x2 : Int) (w : World) :
    Calls Try.prog 69 #[vCrane x0 x1 x2] w fun e w' => e = .returned (.bool (decide (CrG (x0, x1, x2)))) ∧ Below w.heap.size w w' := by
  have HW := hide (Below.alloc1 w (.cells #[.int .i64 x0, .int .i64 x1, .int .i64 x2] 45))
  have Q1 := hide fun V => within_any x0 x1 x2 V
  have HG := hide (crG_eq x0 x1 x2)
  generalize inB x0 x1 x2 = b1 at Q1 HG
  generalize decide (CrG (x0, x1, x2)) = r at HG ⊢
  unfold vCrane
  go_enter Try.func69, Try.ntmps69
  by_cases h2 : 0 ≤ x1
  · have d2 : decide (0 ≤ x1) = true := decide_eq_true h2
    rw [d2] at HG
    go_wp2_with fail
    refine (unhide Q1 _).mono ?_
    rintro e w9 ⟨rfl, h9⟩
    have h8 := h9.symm
    subst h8
    clear h9
    cases b1 with
    | false =>
      have e1 : r = false := by rw [unhide HG]; first | rfl | simp
      subst e1
      go_wp2
      go_ret
      exact ⟨rfl, unhide HW⟩
    | true =>
    clear Q1
    by_cases h3 : x2 ≤ 1000
    · have d3 : decide (x2 ≤ 1000) = true := decide_eq_true h3
      rw [d3] at HG
      have e1 : r = true := by rw [unhide HG]; first | rfl | simp
      subst e1
      go_wp2
      go_ret
      exact ⟨rfl, unhide HW⟩
    · have d3 : decide (x2 ≤ 1000) = false := decide_eq_false h3
      rw [d3] at HG
      have e1 : r = false := by rw [unhide HG]; first | rfl | simp
      subst e1
      go_wp2
      go_ret
      exact ⟨rfl, unhide HW⟩
  · have d2 : decide (0 ≤ x1) = false := decide_eq_false h2
    rw [d2] at HG
    have e1 : r = false := by rw [unhide HG]; first | rfl | simp
    subst e1
    go_wp2
    go_ret
    exact ⟨rfl, unhide HW⟩

set_option maxRecDepth 100000 in
set_option maxHeartbeats 8000000 in
theorem specCranesOk_any (v : Value) (L : List CraneT) (gap : Int) (w : World) (h : RCrane w v L) :
    Calls Try.prog 37 #[v, .int .i64 gap] w fun e w' => e = .returned (.bool (crB L gap)) ∧ Below w.heap.size w w' := by
  obtain ⟨ao, cap, rfl, hl, hm, hc⟩ := h
  unfold maxLen at hm
  have HC := hide hc
  clear hc
  have HQ0 := hide fun V => l1In_any (L.length : Int) 1 8 V
  have HQ9 := hide fun V => l1In_any gap 1 20 V
  have HA := hide fun h => crB_all (L := L) (gap := gap) h
  have HLN := hide fun h => crB_len (L := L) (gap := gap) h
  have HGP := hide fun h => crB_gap (L := L) (gap := gap) h
  generalize inB (L.length : Int) 1 8 = b0 at HQ0 HA HLN
  generalize inB gap 1 20 = b9 at HQ9 HA HGP
  go_enter Try.func37, Try.ntmps37
  clear HLN HGP
  go_wp2
  go_loopg [5] L.length (fun g i wr => Hid (Below w.heap.size w wr) ∧ ∃ k : Nat, k ≤ L.length ∧ g = L.length - k ∧ i = .int .i64 k ∧ Hid (∀ r, r < k → CrW L gap r))
  case atStart => exact ⟨Below.refl _ _, 0, Nat.zero_le _, rfl, rfl, fun r hr => by omega⟩
  case round =>
    obtain ⟨HW, k, hk, rfl, rfl, HD⟩ := hrel
    by_cases hkn : k < L.length
    · obtain ⟨b, o, x0, x1, x2, rfl, hc0, hc1, hc2, EX⟩ := recCraneAt (unhide HC) hkn
      have g0 := wcell3 hc0 (unhide HW)
      have g1 := wcell3 hc1 (unhide HW)
      have g2 := wcell3 hc2 (unhide HW)
      have hki : (k : Int) < L.length := by omega
      have ex : cr L k = (x0, x1, x2) := unhide EX
      have A := Below.alloc1 wr (.cells #[.int .i64 x0, .int .i64 x1, .int .i64 x2] 45)
      have HW1 := hide (Below.step (unhide HW) A)
      have HX := hide (ownV_alloc wr #[.int .i64 x0, .int .i64 x1, .int .i64 x2] 45)
      have HNO : Hid (¬ CrW L gap k → crB L gap = false) := fun h => crB_w hkn h
      have HYES : Hid (CrW L gap k → ∀ r, r < k + 1 → CrW L gap r) := fun h r hr => by
        by_cases e : r = k
        · rw [e]; exact h
        · exact (unhide HD) r (by omega)
      clear HD HA A
      have Q1 := hide fun V => l1In_any x1 0 x0 V
      have Q2 := hide fun V => l1In_any x2 x0 1000 V
      have HG := hide (crG_spec x0 x1 x2)
      go_upto_region 5 with (fail)
      obtain ⟨W1, eW⟩ : ∃ W1, W1 = wr.alloc (.cells #[.int .i64 x0, .int .i64 x1, .int .i64 x2] 45) := ⟨_, rfl⟩
      obtain ⟨gx, egx⟩ : ∃ gx, gx = wr.heap.size := ⟨_, rfl⟩
      rw [← eW] at HW1 HX ⊢
      rw [← egx] at HX ⊢
      clear eW egx g0 g1 g2
      have k0 := (unhide HX).cell (i := 0) rfl
      have k1 := (unhide HX).cell (i := 1) rfl
      have k2 := (unhide HX).cell (i := 2) rfl
      cases h1 : inB x1 0 x0 with
      | false =>
        rw [h1] at Q1 HG
        refine wp_region_quiet_lit (by kernel_rfl) (by kernel_rfl) ?_
        repeat (go_big_quiet_step (fail))
        go_big_quiet_want
        go_big_quiet_op
        go_big_quiet_call (exact Calls.quiet_of_same (unhide Q1 _))
        repeat (go_big_quiet_step (fail))
        refine wpQuiet_nil ?_
        intro _ hw'
        obtain ⟨nq, hw''⟩ := hw'
        subst hw''
        replace HW1 := hide (below_drewN (unhide HW1) nq)
        have HF := hide (unhide HNO (fun h => by have := h.1; rw [ex] at this; have h9 := unhide HG; rw [decide_eq_true this] at h9; simp at h9))
        clear HNO HYES
        go_wp2
        go_ret
        exact ⟨ret_bool (unhide HF).symm, unhide HW1⟩
      | true =>
        rw [h1] at Q1 HG
        cases h2 : inB x2 x0 1000 with
        | false =>
          rw [h2] at Q2 HG
          refine wp_region_quiet_lit (by kernel_rfl) (by kernel_rfl) ?_
          repeat (go_big_quiet_step (fail))
          go_big_quiet_want
          go_big_quiet_op
          go_big_quiet_call (exact Calls.quiet_of_same (unhide Q1 _))
          repeat (go_big_quiet_step (fail))
          go_big_quiet_want
          go_big_quiet_op
          go_big_quiet_call (exact Calls.quiet_of_same (unhide Q2 _))
          repeat (go_big_quiet_step (fail))
          refine wpQuiet_nil ?_
          intro _ hw'
          obtain ⟨nq, hw''⟩ := hw'
          subst hw''
          replace HW1 := hide (below_drewN (unhide HW1) nq)
          have HF := hide (unhide HNO (fun h => by have := h.1; rw [ex] at this; have h9 := unhide HG; rw [decide_eq_true this] at h9; simp at h9))
          clear HNO HYES
          go_wp2
          go_ret
          exact ⟨ret_bool (unhide HF).symm, unhide HW1⟩
        | true =>
          rw [h2] at Q2 HG
          have HGT : Hid (decide (CrG (x0, x1, x2)) = true) := by show _ = _; rw [unhide HG]; rfl
          clear HG
          by_cases hk0 : k = 0
          · have dk : decide ((0 : Int) < (k : Int)) = false := by rw [decide_eq_false_iff_not]; omega
            have dkN : decide (0 < k) = false := by rw [decide_eq_false_iff_not]; omega
            have HK0 := hide hk0
            clear hk0
            refine wp_region_quiet_lit (by kernel_rfl) (by kernel_rfl) ?_
            repeat (go_big_quiet_step (fail))
            go_big_quiet_want
            go_big_quiet_op
            go_big_quiet_call (exact Calls.quiet_of_same (unhide Q1 _))
            repeat (go_big_quiet_step (fail))
            go_big_quiet_want
            go_big_quiet_op
            go_big_quiet_call (exact Calls.quiet_of_same (unhide Q2 _))
            repeat (go_big_quiet_step (fail))
            refine wpQuiet_nil ?_
            intro _ hw'
            obtain ⟨nq, hw''⟩ := hw'
            subst hw''
            replace HW1 := hide (below_drewN (unhide HW1) nq)
            have HY := hide (unhide HYES (⟨by rw [ex]; exact of_decide_eq_true (unhide HGT), fun h => absurd (unhide HK0) (by omega)⟩))
            clear HYES HNO
            go_wp2
            go_roundg (L.length - (k + 1))
            case measure => omega
            case rel => exact ⟨HW1, k + 1, by omega, rfl, by go_num, HY⟩
          · have dk : decide ((0 : Int) < (k : Int)) = true := by rw [decide_eq_true_eq]; omega
            have dkN : decide (0 < k) = true := by rw [decide_eq_true_eq]; omega
            obtain ⟨p, ep⟩ : ∃ p, p = k - 1 := ⟨_, rfl⟩
            obtain ⟨bb', o', y0, y1, y2, e', hp0, -, -, EX'⟩ := recCraneAt (unhide HC) (show p < L.length by omega)
            simp only [Option.some.injEq, Addr.mk.injEq, and_true] at e'
            obtain ⟨rfl, rfl⟩ := e'
            have f0 := wcell3 hp0 (unhide HW1)
            have q1 : IntKind.i64.wrap ((k : Int) - 1) = (p : Int) := by rw [IntKind.wrap_i64]; omega
            have q2 : (k : Int) - 1 = (p : Int) := by omega
            have hpi : (p : Int) < L.length := by omega
            obtain ⟨z, ez⟩ : ∃ z, z = IntKind.i64.wrap (y0 + gap) := ⟨_, rfl⟩
            have q3 : IntKind.i64.wrap (y0 + gap) = z := ez.symm
            have HZ : Hid (IntKind.i64.wrap ((cr L (k - 1)).1 + gap) = z) := by show _ = _; rw [← ep, show cr L p = (y0, y1, y2) from unhide EX']; exact q3
            have HK0 := hide hk0
            clear hp0 EX' hk0 ez ep
            by_cases ho : x0 < z
            · have d2 : decide (x0 < z) = true := by simpa using ho
              have HO := hide ho
              clear ho
              refine wp_region_quiet_lit (by kernel_rfl) (by kernel_rfl) ?_
              repeat (go_big_quiet_step (fail))
              go_big_quiet_want
              go_big_quiet_op
              go_big_quiet_call (exact Calls.quiet_of_same (unhide Q1 _))
              repeat (go_big_quiet_step (fail))
              go_big_quiet_want
              go_big_quiet_op
              go_big_quiet_call (exact Calls.quiet_of_same (unhide Q2 _))
              repeat (go_big_quiet_step (fail))
              refine wpQuiet_nil ?_
              intro _ hw'
              obtain ⟨nq, hw''⟩ := hw'
              subst hw''
              replace HW1 := hide (below_drewN (unhide HW1) nq)
              have HF := hide (unhide HNO (fun h => by have := h.2 (by have := unhide HK0; omega); rw [unhide HZ, ex] at this; exact this (unhide HO)))
              clear HNO HYES
              go_wp2
              go_ret
              exact ⟨ret_bool (unhide HF).symm, unhide HW1⟩
            · have d2 : decide (x0 < z) = false := by simpa using ho
              have HO := hide ho
              clear ho
              refine wp_region_quiet_lit (by kernel_rfl) (by kernel_rfl) ?_
              repeat (go_big_quiet_step (fail))
              go_big_quiet_want
              go_big_quiet_op
              go_big_quiet_call (exact Calls.quiet_of_same (unhide Q1 _))
              repeat (go_big_quiet_step (fail))
              go_big_quiet_want
              go_big_quiet_op
              go_big_quiet_call (exact Calls.quiet_of_same (unhide Q2 _))
              repeat (go_big_quiet_step (fail))
              refine wpQuiet_nil ?_
              intro _ hw'
              obtain ⟨nq, hw''⟩ := hw'
              subst hw''
              replace HW1 := hide (below_drewN (unhide HW1) nq)
              have HY := hide (unhide HYES (⟨by rw [ex]; exact of_decide_eq_true (unhide HGT), fun _ => by rw [unhide HZ, ex]; exact unhide HO⟩))
              clear HYES HNO
              go_wp2
              go_roundg (L.length - (k + 1))
              case measure => omega
              case rel => exact ⟨HW1, k + 1, by omega, rfl, by go_num, HY⟩
    · have HF := hide (unhide HA (fun r hr => (unhide HD) r (by omega)))
      clear HA HD HC
      go_wp2_with fail
      refine (unhide HQ0 _).mono ?_
      rintro e w9 ⟨rfl, h9⟩
      have h8 := h9.symm
      subst h8
      clear h9
      cases b0 with
      | false =>
        go_wp2
        go_ret
        exact ⟨ret_bool (unhide HF).symm, unhide HW⟩
      | true =>
      go_wp2_with fail
      refine (unhide HQ9 _).mono ?_
      rintro e w9 ⟨rfl, h9⟩
      have h8 := h9.symm
      subst h8
      clear h9
      go_wp2
      go_ret
      exact ⟨ret_bool (by rw [unhide HF]; simp), unhide HW⟩

set_option maxRecDepth 100000 in
set_option maxHeartbeats 8000000 in
theorem implCranesOk_any (v : Value) (L : List CraneT) (gap : Int) (w : World) (h : RCrane w v L) :
    Calls Try.prog 23 #[v, .int .i64 gap] w fun e w' => e = .returned (.bool (crB L gap)) ∧ Below w.heap.size w w' := by
  obtain ⟨ao, cap, rfl, hl, hm, hc⟩ := h
  unfold maxLen at hm
  have HC := hide hc
  clear hc
  have HQ0 := hide fun V => within_any (L.length : Int) 1 8 V
  have HQ9 := hide fun V => within_any gap 1 20 V
  have HA := hide fun h => crB_all (L := L) (gap := gap) h
  have HLN := hide fun h => crB_len (L := L) (gap := gap) h
  have HGP := hide fun h => crB_gap (L := L) (gap := gap) h
  generalize inB (L.length : Int) 1 8 = b0 at HQ0 HA HLN
  generalize inB gap 1 20 = b9 at HQ9 HA HGP
  go_enter Try.func23, Try.ntmps23
  go_wp2_with fail
  refine (unhide HQ0 _).mono ?_
  rintro e w9 ⟨rfl, h9⟩
  have h8 := h9.symm
  subst h8
  clear h9
  cases b0 with
  | false =>
    have HF := hide (unhide HLN (by first | rfl | trivial))
    go_wp2
    go_ret
    exact ⟨ret_bool (unhide HF).symm, Below.refl _ _⟩
  | true =>
  go_wp2_with fail
  refine (unhide HQ9 _).mono ?_
  rintro e w9 ⟨rfl, h9⟩
  have h8 := h9.symm
  subst h8
  clear h9
  cases b9 with
  | false =>
    have HF := hide (unhide HGP (by first | rfl | trivial))
    go_wp2
    go_ret
    exact ⟨ret_bool (unhide HF).symm, Below.refl _ _⟩
  | true =>
  clear HQ0 HQ9
  clear HLN HGP
  go_wp2
  go_loopg [18] L.length (fun g i wr => Hid (Below w.heap.size w wr) ∧ ∃ k : Nat, k ≤ L.length ∧ g = L.length - k ∧ i = .int .i64 k ∧ Hid (∀ r, r < k → CrW L gap r))
  case atStart => exact ⟨Below.refl _ _, 0, Nat.zero_le _, rfl, rfl, fun r hr => by omega⟩
  case round =>
    obtain ⟨HW, k, hk, rfl, rfl, HD⟩ := hrel
    by_cases hkn : k < L.length
    · obtain ⟨b, o, x0, x1, x2, rfl, hc0, hc1, hc2, EX⟩ := recCraneAt (unhide HC) hkn
      have g0 := wcell3 hc0 (unhide HW)
      have g1 := wcell3 hc1 (unhide HW)
      have g2 := wcell3 hc2 (unhide HW)
      have hki : (k : Int) < L.length := by omega
      have ex : cr L k = (x0, x1, x2) := unhide EX
      have A := Below.alloc1 wr (.cells #[.int .i64 x0, .int .i64 x1, .int .i64 x2] 45)
      have HW1 := hide (Below.step (unhide HW) A)
      have HX := hide (ownV_alloc wr #[.int .i64 x0, .int .i64 x1, .int .i64 x2] 45)
      have HNO : Hid (¬ CrW L gap k → crB L gap = false) := fun h => crB_w hkn h
      have HYES : Hid (CrW L gap k → ∀ r, r < k + 1 → CrW L gap r) := fun h r hr => by
        by_cases e : r = k
        · rw [e]; exact h
        · exact (unhide HD) r (by omega)
      clear HD HA A
      have Q1 := hide fun V => craneOk_any x0 x1 x2 V
      unfold vCrane at Q1
      go_upto_region 6 with (fail)
      obtain ⟨W1, eW⟩ : ∃ W1, W1 = wr.alloc (.cells #[.int .i64 x0, .int .i64 x1, .int .i64 x2] 45) := ⟨_, rfl⟩
      obtain ⟨gx, egx⟩ : ∃ gx, gx = wr.heap.size := ⟨_, rfl⟩
      rw [← eW] at HW1 HX ⊢
      rw [← egx] at HX ⊢
      clear eW egx g0 g1 g2
      have k0 := (unhide HX).cell (i := 0) rfl
      have k1 := (unhide HX).cell (i := 1) rfl
      have k2 := (unhide HX).cell (i := 2) rfl
      cases h1 : decide (CrG (x0, x1, x2)) with
      | false =>
        rw [h1] at Q1
        have j0 := fun x' : Gr W1 => gr_cell (k0) x'
        have j1 := fun x' : Gr W1 => gr_cell (k1) x'
        have j2 := fun x' : Gr W1 => gr_cell (k2) x'
        have gsome := gr_some W1
        refine wp_region_grown (by kernel_rfl) (by kernel_rfl) ?_
        repeat (go_big_quiet_step (fail))
        go_big_quiet_want
        go_big_quiet_op
        go_big_quiet_call (exact calls_grown (unhide Q1 _))
        repeat (go_big_quiet_step (fail))
        refine wpQuiet_nil ?_
        intro wz hw1
        obtain ⟨z', hz⟩ := hw1
        have hb : Below W1.heap.size W1 wz := hz ▸ z'.ok
        clear hz z' gsome j0 j1 j2
        replace HW1 := hide (Below.step (unhide HW1) hb)
        clear hb
        have HF := hide (unhide HNO (fun h => by have := h.1; rw [ex] at this; exact of_decide_eq_false h1 this))
        clear HNO HYES
        go_wp2
        go_ret
        exact ⟨ret_bool (unhide HF).symm, unhide HW1⟩
      | true =>
        rw [h1] at Q1
        have HGT := hide h1
        by_cases hk0 : k = 0
        · have dk : decide ((0 : Int) < (k : Int)) = false := by rw [decide_eq_false_iff_not]; omega
          have dkN : decide (0 < k) = false := by rw [decide_eq_false_iff_not]; omega
          have HK0 := hide hk0
          clear hk0
          have j0 := fun x' : Gr W1 => gr_cell (k0) x'
          have j1 := fun x' : Gr W1 => gr_cell (k1) x'
          have j2 := fun x' : Gr W1 => gr_cell (k2) x'
          have gsome := gr_some W1
          refine wp_region_grown (by kernel_rfl) (by kernel_rfl) ?_
          repeat (go_big_quiet_step (fail))
          go_big_quiet_want
          go_big_quiet_op
          go_big_quiet_call (exact calls_grown (unhide Q1 _))
          repeat (go_big_quiet_step (fail))
          refine wpQuiet_nil ?_
          intro wz hw1
          obtain ⟨z', hz⟩ := hw1
          have hb : Below W1.heap.size W1 wz := hz ▸ z'.ok
          clear hz z' gsome j0 j1 j2
          replace HW1 := hide (Below.step (unhide HW1) hb)
          clear hb
          have HY := hide (unhide HYES (⟨by rw [ex]; exact of_decide_eq_true (unhide HGT), fun h => absurd (unhide HK0) (by omega)⟩))
          clear HYES HNO
          go_wp2
          go_roundg (L.length - (k + 1))
          case measure => omega
          case rel => exact ⟨HW1, k + 1, by omega, rfl, by go_num, HY⟩
        · have dk : decide ((0 : Int) < (k : Int)) = true := by rw [decide_eq_true_eq]; omega
          have dkN : decide (0 < k) = true := by rw [decide_eq_true_eq]; omega
          obtain ⟨p, ep⟩ : ∃ p, p = k - 1 := ⟨_, rfl⟩
          obtain ⟨bb', o', y0, y1, y2, e', hp0, -, -, EX'⟩ := recCraneAt (unhide HC) (show p < L.length by omega)
          simp only [Option.some.injEq, Addr.mk.injEq, and_true] at e'
          obtain ⟨rfl, rfl⟩ := e'
          have f0 := wcell3 hp0 (unhide HW1)
          have q1 : IntKind.i64.wrap ((k : Int) - 1) = (p : Int) := by rw [IntKind.wrap_i64]; omega
          have q2 : (k : Int) - 1 = (p : Int) := by omega
          have hpi : (p : Int) < L.length := by omega
          obtain ⟨z, ez⟩ : ∃ z, z = IntKind.i64.wrap (y0 + gap) := ⟨_, rfl⟩
          have q3 : IntKind.i64.wrap (y0 + gap) = z := ez.symm
          have HZ : Hid (IntKind.i64.wrap ((cr L (k - 1)).1 + gap) = z) := by show _ = _; rw [← ep, show cr L p = (y0, y1, y2) from unhide EX']; exact q3
          have HK0 := hide hk0
          clear hp0 EX' hk0 ez ep
          by_cases ho : x0 < z
          · have d2 : decide (x0 < z) = true := by simpa using ho
            have HO := hide ho
            clear ho
            -- f0
            have j0 := fun x' : Gr W1 => gr_cell (k0) x'
            have j1 := fun x' : Gr W1 => gr_cell (k1) x'
            have j2 := fun x' : Gr W1 => gr_cell (k2) x'
            have f1 := fun x' : Gr W1 => gr_cell (f0) x'
            have gsome := gr_some W1
            refine wp_region_grown (by kernel_rfl) (by kernel_rfl) ?_
            repeat (go_big_quiet_step (fail))
            go_big_quiet_want
            go_big_quiet_op
            go_big_quiet_call (exact calls_grown (unhide Q1 _))
            repeat (go_big_quiet_step (fail))
            refine wpQuiet_nil ?_
            intro wz hw1
            obtain ⟨z', hz⟩ := hw1
            have hb : Below W1.heap.size W1 wz := hz ▸ z'.ok
            clear hz z' gsome j0 j1 j2 f1
            replace HW1 := hide (Below.step (unhide HW1) hb)
            clear hb
            have HF := hide (unhide HNO (fun h => by have := h.2 (by have := unhide HK0; omega); rw [unhide HZ, ex] at this; exact this (unhide HO)))
            clear HNO HYES
            go_wp2
            go_ret
            exact ⟨ret_bool (unhide HF).symm, unhide HW1⟩
          · have d2 : decide (x0 < z) = false := by simpa using ho
            have HO := hide ho
            clear ho
            -- f0
            have j0 := fun x' : Gr W1 => gr_cell (k0) x'
            have j1 := fun x' : Gr W1 => gr_cell (k1) x'
            have j2 := fun x' : Gr W1 => gr_cell (k2) x'
            have f1 := fun x' : Gr W1 => gr_cell (f0) x'
            have gsome := gr_some W1
            refine wp_region_grown (by kernel_rfl) (by kernel_rfl) ?_
            repeat (go_big_quiet_step (fail))
            go_big_quiet_want
            go_big_quiet_op
            go_big_quiet_call (exact calls_grown (unhide Q1 _))
            repeat (go_big_quiet_step (fail))
            refine wpQuiet_nil ?_
            intro wz hw1
            obtain ⟨z', hz⟩ := hw1
            have hb : Below W1.heap.size W1 wz := hz ▸ z'.ok
            clear hz z' gsome j0 j1 j2 f1
            replace HW1 := hide (Below.step (unhide HW1) hb)
            clear hb
            have HY := hide (unhide HYES (⟨by rw [ex]; exact of_decide_eq_true (unhide HGT), fun _ => by rw [unhide HZ, ex]; exact unhide HO⟩))
            clear HYES HNO
            go_wp2
            go_roundg (L.length - (k + 1))
            case measure => omega
            case rel => exact ⟨HW1, k + 1, by omega, rfl, by go_num, HY⟩
    · have HF := hide (unhide HA (fun r hr => (unhide HD) r (by omega)))
      clear HA HD HC
      go_wp2
      go_ret
      exact ⟨ret_bool (unhide HF).symm, unhide HW⟩

end Go.Proofs.Ytogoknldhimgfaa

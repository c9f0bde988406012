/- Contracts of both Burn. Written by wip/mkburn.py. -/
import Derived.Test.YtblkbonedgofiaaEnE
namespace Go.Proofs.Ytblkbonedgofiaa
open Go.RowKit

set_option maxRecDepth 1000000 in
set_option maxHeartbeats 4000000 in
theorem specBurn_any (v : Value) (C : List Int) (s m : Int) (w : World) (h : IntsIn w v C) :
    Calls Try.prog 21 #[v, .int .i64 s, .int .i64 m] w fun e w' => e = .returned (.tuple #[.int .i64 (burnV C s m).1, .bool (burnV C s m).2]) ∧ Below w.heap.size w w' := by
  have HV := hide h
  have HAT := hide fun hb => burn_at (s := s) (m := m) h hb
  obtain ⟨ao, cap, rfl, hl, hm, hc⟩ := h
  unfold maxLen at hm
  clear hc
  have HW := hide (Below.refl w.heap.size w)
  have QM := hide fun V => l1In_any m 0 100000 V
  have QL := hide fun V => l1In_any (C.length : Int) 2 30 V
  have QA := hide fun V (hV : Below w.heap.size w V) => l3AllE_any _ C V ((unhide HV).below hV)
  have QS := hide fun V => l1In_any s 0 (10 * ((C.length : Int) - 1)) V
  have HNOT : Hid ((inB (C.length : Int) 2 30 && (decide (allC C) && (inB s 0 (10 * ((C.length : Int) - 1)) && inB m 0 100000))) = false → burnV C s m = (0, false)) := fun h => burnV_not fun hb => by
    obtain ⟨⟨h1, h2, h3⟩, h4, h5, h6, h7⟩ := hb
    have e1 : inB (C.length : Int) 2 30 = true := by simp [inB]; omega
    have e2 : decide (allC C) = true := decide_eq_true h3
    have e3 : inB s 0 (10 * ((C.length : Int) - 1)) = true := by simp [inB]; omega
    have e4 : inB m 0 100000 = true := by simp [inB]; omega
    rw [e1, e2, e3, e4] at h
    cases h
  have HYES : Hid (inB (C.length : Int) 2 30 = true → decide (allC C) = true → inB s 0 (10 * ((C.length : Int) - 1)) = true → inB m 0 100000 = true → burnOk C s m) := fun e1 e2 e3 e4 => by
    have h3 := of_decide_eq_true e2
    simp [inB] at e1 e3 e4
    exact ⟨⟨by omega, by omega, h3⟩, by omega, by omega, by omega, by omega⟩
  have HLB : Hid (inB (C.length : Int) 2 30 = true → 2 ≤ C.length ∧ C.length ≤ 30) := fun e => by simp [inB] at e; omega
  generalize inB (C.length : Int) 2 30 = b1 at QL HNOT HYES HLB
  generalize decide (allC C) = b2 at QA HNOT HYES
  generalize inB s 0 (10 * ((C.length : Int) - 1)) = b3 at QS HNOT HYES
  generalize inB m 0 100000 = b4 at QM HNOT HYES
  go_enter Try.func21, Try.ntmps21
  go_wp2_with fail
  refine (unhide QL _).mono ?_
  rintro e w9 ⟨rfl, h9⟩
  have h8 := h9.symm
  subst h8
  clear h9
  cases b1 with
  | false =>
    have HF := hide (unhide HNOT (by first | rfl | simp))
    go_wp2
    refine bodyPost_ret (v := .tuple #[.int .i64 0, .bool false]) (by simp [results, Try.results21, go_sem]) rfl ⟨ret_burn (unhide HF), unhide HW⟩
  | true =>
  obtain ⟨hlo, hhi⟩ := unhide HLB (by first | rfl | trivial)
  go_wp2_with fail
  refine (unhide QA _ (unhide HW)).mono ?_
  rintro e w1 ⟨rfl, hb⟩
  replace HW := hide (Below.step (unhide HW) hb)
  clear hb
  cases b2 with
  | false =>
    have HF := hide (unhide HNOT (by first | rfl | simp))
    go_wp2
    refine bodyPost_ret (v := .tuple #[.int .i64 0, .bool false]) (by simp [results, Try.results21, go_sem]) rfl ⟨ret_burn (unhide HF), unhide HW⟩
  | true =>
  have q10 : IntKind.i64.wrap (10 * ((C.length : Int) - 1)) = 10 * ((C.length : Int) - 1) := by rw [IntKind.wrap_i64]; omega
  go_wp2_with fail
  refine (unhide QS _).mono ?_
  rintro e w9 ⟨rfl, h9⟩
  have h8 := h9.symm
  subst h8
  clear h9
  cases b3 with
  | false =>
    have HF := hide (unhide HNOT (by first | rfl | simp))
    go_wp2
    refine bodyPost_ret (v := .tuple #[.int .i64 0, .bool false]) (by simp [results, Try.results21, go_sem]) rfl ⟨ret_burn (unhide HF), unhide HW⟩
  | true =>
  go_wp2_with fail
  refine (unhide QM _).mono ?_
  rintro e w9 ⟨rfl, h9⟩
  have h8 := h9.symm
  subst h8
  clear h9
  cases b4 with
  | false =>
    have HF := hide (unhide HNOT (by first | rfl | simp))
    go_wp2
    refine bodyPost_ret (v := .tuple #[.int .i64 0, .bool false]) (by simp [results, Try.results21, go_sem]) rfl ⟨ret_burn (unhide HF), unhide HW⟩
  | true =>
  have hok := unhide HYES (by first | rfl | trivial) (by first | rfl | trivial) (by first | rfl | trivial) (by first | rfl | trivial)
  obtain ⟨b, o, K, U, cap', x, y, D, pd, tm, ev, eK, eD, hK, hU, hU1, hU2, hDU, c1, c2, x0, x1, y0, y1, epd, pd0, pd1, t0, t1, etm, tm0, tm1, eB⟩ := unhide HAT hok
  simp only [Value.slice.injEq] at ev
  obtain ⟨rfl, -, rfl⟩ := ev
  have g1 := ((unhide HW).cell (lt_of_cell c1)).trans c1
  have g2 := ((unhide HW).cell (lt_of_cell c2)).trans c2
  have HF := hide eB
  obtain ⟨hs0, hs1, hm0, hm1⟩ := hok.2
  have k1 : s.tdiv 10 = (K : Int) := by rw [Int.tdiv_eq_ediv_of_nonneg hs0]; omega
  have k2 : s.tmod 10 = D := by rw [Int.tmod_eq_emod_of_nonneg hs0]; omega
  have k3 : s / 10 = (K : Int) := by omega
  have k4 : s % 10 = D := by omega
  have D0 : 0 ≤ D := by omega
  have D9 : D ≤ 9 := by omega
  have hKi : (K : Int) < C.length := by omega
  have hUi : (U : Int) < C.length := by omega
  have p1 : IntKind.i64.wrap (D * (y - x)) = pd := by rw [← epd, IntKind.wrap_i64]; omega
  have p2 : IntKind.i64.wrap ((y - x) * D) = pd := by rw [Int.mul_comm, ← epd, IntKind.wrap_i64]; omega
  have p3 : IntKind.i64.wrap ((10 * x + pd) * m) = tm := by rw [← etm, IntKind.wrap_i64]; omega
  have p4 : IntKind.i64.wrap ((x * 10 + pd) * m) = tm := by rw [Int.mul_comm x 10, ← etm, IntKind.wrap_i64]; omega
  have p6 : tm.tdiv 600 = tm / 600 := Int.tdiv_eq_ediv_of_nonneg tm0
  have HE := hide (And.intro epd etm)
  clear HAT HYES HNOT HLB hok c1 c2 eK eD
  by_cases hD : 0 < D
  · have e1 := hDU hD
    subst e1
    clear epd etm
    have hKi2 : (K : Int) + 1 < C.length := by omega
    go_wp2
    go_quiet (fail)
    go_wp2
    refine bodyPost_ret (v := .tuple #[.int .i64 (tm / 600), .bool true]) (by simp [results, Try.results21, go_sem]) rfl ⟨ret_burn (unhide HF), below_drewN (unhide HW) _⟩
  · have e1 : D = 0 := by omega
    have e2 : pd = 0 := by rw [epd, e1, Int.zero_mul]
    have p5 : IntKind.i64.wrap (10 * x * m) = tm := by rw [etm, e2, Int.add_zero, IntKind.wrap_i64]; rw [etm, e2, Int.add_zero] at tm0 tm1; omega
    clear epd etm e2
    go_wp2
    refine bodyPost_ret (v := .tuple #[.int .i64 (tm / 600), .bool true]) (by simp [results, Try.results21, go_sem]) rfl ⟨ret_burn (unhide HF), unhide HW⟩

set_option maxRecDepth 1000000 in
set_option maxHeartbeats 4000000 in
theorem implBurn_any (v : Value) (C : List Int) (s m : Int) (w : World) (h : IntsIn w v C) :
    Calls Try.prog 20 #[v, .int .i64 s, .int .i64 m] w fun e w' => e = .returned (.tuple #[.int .i64 (burnV C s m).1, .bool (burnV C s m).2]) ∧ Below w.heap.size w w' := by
  have HV := hide h
  have HAT := hide fun hb => burn_at (s := s) (m := m) h hb
  obtain ⟨ao, cap, rfl, hl, hm, hc⟩ := h
  unfold maxLen at hm
  clear hc
  have HW := hide (Below.refl w.heap.size w)
  have QM := hide fun V => within_any m 0 100000 V
  have QC := hide fun V (hV : Below w.heap.size w V) => curveOk_any _ C V ((unhide HV).below hV)
  have QS := hide fun V => within_any s 0 (((C.length : Int) - 1) * 10) V
  have HNOT : Hid ((decide (Cv C) && (inB m 0 100000 && inB s 0 (((C.length : Int) - 1) * 10))) = false → burnV C s m = (0, false)) := fun h => burnV_not fun hb => by
    obtain ⟨h3, h4, h5, h6, h7⟩ := hb
    have e2 : decide (Cv C) = true := decide_eq_true h3
    have e3 : inB s 0 (((C.length : Int) - 1) * 10) = true := by simp [inB]; omega
    have e4 : inB m 0 100000 = true := by simp [inB]; omega
    rw [e2, e3, e4] at h
    cases h
  have HYES : Hid (decide (Cv C) = true → inB s 0 (((C.length : Int) - 1) * 10) = true → inB m 0 100000 = true → burnOk C s m) := fun e2 e3 e4 => by
    have h3 := of_decide_eq_true e2
    simp [inB] at e3 e4
    exact ⟨h3, by omega, by omega, by omega, by omega⟩
  have HLB : Hid (decide (Cv C) = true → 2 ≤ C.length ∧ C.length ≤ 30) := fun e => by have := of_decide_eq_true e; exact ⟨this.1, this.2.1⟩
  generalize decide (Cv C) = b2 at QC HNOT HYES HLB
  generalize inB s 0 (((C.length : Int) - 1) * 10) = b3 at QS HNOT HYES
  generalize inB m 0 100000 = b4 at QM HNOT HYES
  go_enter Try.func20, Try.ntmps20
  go_wp2_with fail
  refine (unhide QC _ (unhide HW)).mono ?_
  rintro e w1 ⟨rfl, hb⟩
  replace HW := hide (Below.step (unhide HW) hb)
  clear hb
  cases b2 with
  | false =>
    have HF := hide (unhide HNOT (by first | rfl | simp))
    go_wp2
    refine bodyPost_ret (v := .tuple #[.int .i64 0, .bool false]) (by simp [results, Try.results20, go_sem]) rfl ⟨ret_burn (unhide HF), unhide HW⟩
  | true =>
  obtain ⟨hlo, hhi⟩ := unhide HLB (by first | rfl | trivial)
  go_wp2_with fail
  refine (unhide QM _).mono ?_
  rintro e w9 ⟨rfl, h9⟩
  have h8 := h9.symm
  subst h8
  clear h9
  cases b4 with
  | false =>
    have HF := hide (unhide HNOT (by first | rfl | simp))
    go_wp2
    refine bodyPost_ret (v := .tuple #[.int .i64 0, .bool false]) (by simp [results, Try.results20, go_sem]) rfl ⟨ret_burn (unhide HF), unhide HW⟩
  | true =>
  have q10 : IntKind.i64.wrap (((C.length : Int) - 1) * 10) = ((C.length : Int) - 1) * 10 := by rw [IntKind.wrap_i64]; omega
  go_wp2_with fail
  refine (unhide QS _).mono ?_
  rintro e w9 ⟨rfl, h9⟩
  have h8 := h9.symm
  subst h8
  clear h9
  cases b3 with
  | false =>
    have HF := hide (unhide HNOT (by first | rfl | simp))
    go_wp2
    refine bodyPost_ret (v := .tuple #[.int .i64 0, .bool false]) (by simp [results, Try.results20, go_sem]) rfl ⟨ret_burn (unhide HF), unhide HW⟩
  | true =>
  have hok := unhide HYES (by first | rfl | trivial) (by first | rfl | trivial) (by first | rfl | trivial)
  obtain ⟨b, o, K, U, cap', x, y, D, pd, tm, ev, eK, eD, hK, hU, hU1, hU2, hDU, c1, c2, x0, x1, y0, y1, epd, pd0, pd1, t0, t1, etm, tm0, tm1, eB⟩ := unhide HAT hok
  simp only [Value.slice.injEq] at ev
  obtain ⟨rfl, -, rfl⟩ := ev
  have g1 := ((unhide HW).cell (lt_of_cell c1)).trans c1
  have g2 := ((unhide HW).cell (lt_of_cell c2)).trans c2
  have HF := hide eB
  obtain ⟨hs0, hs1, hm0, hm1⟩ := hok.2
  have k1 : s.tdiv 10 = (K : Int) := by rw [Int.tdiv_eq_ediv_of_nonneg hs0]; omega
  have k2 : s.tmod 10 = D := by rw [Int.tmod_eq_emod_of_nonneg hs0]; omega
  have k3 : s / 10 = (K : Int) := by omega
  have k4 : s % 10 = D := by omega
  have D0 : 0 ≤ D := by omega
  have D9 : D ≤ 9 := by omega
  have hKi : (K : Int) < C.length := by omega
  have hUi : (U : Int) < C.length := by omega
  have p1 : IntKind.i64.wrap (D * (y - x)) = pd := by rw [← epd, IntKind.wrap_i64]; omega
  have p2 : IntKind.i64.wrap ((y - x) * D) = pd := by rw [Int.mul_comm, ← epd, IntKind.wrap_i64]; omega
  have p3 : IntKind.i64.wrap ((10 * x + pd) * m) = tm := by rw [← etm, IntKind.wrap_i64]; omega
  have p4 : IntKind.i64.wrap ((x * 10 + pd) * m) = tm := by rw [Int.mul_comm x 10, ← etm, IntKind.wrap_i64]; omega
  have p6 : tm.tdiv 600 = tm / 600 := Int.tdiv_eq_ediv_of_nonneg tm0
  have HE := hide (And.intro epd etm)
  clear HAT HYES HNOT HLB hok c1 c2 eK eD
  clear epd etm
  by_cases hc : (K : Int) + 1 ≤ (C.length : Int) - 1
  · have e1 := hU1 hc
    subst e1
    have hKi2 : (K : Int) + 1 < C.length := by omega
    go_wp2
    all_goals
      first
      | (exfalso; omega)
      | (go_quiet (fail)
         go_wp2
         refine bodyPost_ret (v := .tuple #[.int .i64 (tm / 600), .bool true]) (by simp [results, Try.results20, go_sem]) rfl ⟨ret_burn (unhide HF), below_drewN (unhide HW) _⟩)
  · have e1 := hU2 (by omega)
    have E1 := hide e1
    clear e1 hU1 hU2 hDU
    go_wp2
    all_goals
      first
      | (exfalso; omega)
      | (rw [← unhide E1]
         go_quiet (fail)
         go_wp2
         refine bodyPost_ret (v := .tuple #[.int .i64 (tm / 600), .bool true]) (by simp [results, Try.results20, go_sem]) rfl ⟨ret_burn (unhide HF), below_drewN (unhide HW) _⟩)

end Go.Proofs.Ytblkbonedgofiaa

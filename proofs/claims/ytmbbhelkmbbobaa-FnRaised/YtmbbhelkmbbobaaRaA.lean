/- FnRaised's parts: the contract of the laws' own less; what a raised mass does to the metacentre, in numbers. -/
import Derived.Test.YtmbbhelkmbbobaaStJ
import Derived.Test.YtmbbhelkmbbobaaDrawH3
import Derived.Laws.StructEq
namespace Go.Proofs.Ytmbbhelkmbbobaa
open Go.RowKit

theorem low_cross {N D : Int} (hD : 0 < D) : (lowV N D).1 * D = N * (lowV N D).2 ∧ 0 < (lowV N D).2 := by
  obtain ⟨g1, g2⟩ := gcd_range (num := N) hD
  have h1 : N.tdiv (Int.gcd N D) * (Int.gcd N D : Int) = N := Int.tdiv_mul_cancel (Int.gcd_dvd_left ..)
  have h2 : D / (Int.gcd N D : Int) * (Int.gcd N D : Int) = D := Int.ediv_mul_cancel (Int.gcd_dvd_right ..)
  unfold lowV
  dsimp only
  refine ⟨?_, Int.ediv_pos_of_pos_of_dvd hD (Int.le_of_lt g1) (Int.gcd_dvd_right ..)⟩
  generalize (Int.gcd N D : Int) = g at *
  generalize N.tdiv g = n at *
  generalize D / g = d at *
  rw [← h1, ← h2, Int.mul_comm d g, ← Int.mul_assoc]

theorem raised_not_less {N1 N2 D : Int} (hD : 0 < D) (h : N2 ≤ N1) : lessB (lowV N1 D) (lowV N2 D) = false := by
  obtain ⟨c1, p1⟩ := low_cross (N := N1) hD
  obtain ⟨c2, p2⟩ := low_cross (N := N2) hD
  unfold lessB
  rw [decide_eq_false_iff_not]
  generalize (lowV N1 D).1 = a1 at *
  generalize (lowV N1 D).2 = a2 at *
  generalize (lowV N2 D).1 = b1 at *
  generalize (lowV N2 D).2 = b2 at *
  intro hlt
  have h1 : a1 * b2 * D < b1 * a2 * D := Int.mul_lt_mul_of_pos_right hlt hD
  have h2 : a1 * b2 * D = N1 * (a2 * b2) := by rw [Int.mul_assoc, Int.mul_comm b2 D, ← Int.mul_assoc, c1, Int.mul_assoc]
  have h3 : b1 * a2 * D = N2 * (a2 * b2) := by rw [Int.mul_assoc, Int.mul_comm a2 D, ← Int.mul_assoc, c2, Int.mul_assoc, Int.mul_comm b2 a2]
  have h4 : N2 * (a2 * b2) ≤ N1 * (a2 * b2) := Int.mul_le_mul_of_nonneg_right h (Int.le_of_lt (Int.mul_pos p1 p2))
  omega

theorem raised_other {N1 N2 D : Int} (hD : 0 < D) (h : lowV N1 D = lowV N2 D) : N1 = N2 := by
  obtain ⟨c1, p1⟩ := low_cross (N := N1) hD
  obtain ⟨c2, p2⟩ := low_cross (N := N2) hD
  rw [h] at c1
  have : N1 * (lowV N2 D).2 = N2 * (lowV N2 D).2 := by rw [← c1, c2]
  exact Int.eq_of_mul_eq_mul_right (by omega) this

theorem volume_drawn {step rise : Int} {R : List (List Int)} (h : drawnHull step rise R) (c : Int) : volume step rise R c ≤ 1320000 := by
  obtain ⟨h1, h2, h3⟩ := h
  have hr := hullOk_right h1
  have hl := hr.len2
  have hs1 := hr.step1
  have hr1 := hr.rise1
  unfold volume strips
  split
  case isFalse => simp [sumL, sumTo]
  case isTrue hw =>
    unfold waterOk at hw
    simp only [Bool.and_eq_true] at hw
    have hc := inB_true hw.2
    have hb : ∀ i, i < R.length - 1 → 0 ≤ ((List.range (R.length - 1)).map (strip2 step rise R c.toNat)).getD i 0 ∧ ((List.range (R.length - 1)).map (strip2 step rise R c.toNat)).getD i 0 ≤ 120000 := fun i hi => by
      have e : ((List.range (R.length - 1)).map (strip2 step rise R c.toNat)).getD i 0 = strip2 step rise R c.toNat i := by simp [List.getD, hi]
      rw [e]
      have hsh := stripH_bd hr (s := i) (c := c.toNat) (by omega) (by omega)
      have m1 := mul_bd (a := rise) (b := step) (A := 5) (B := 12) (by omega) h3 (by omega) h2
      exact mul_bd (A := 60) (B := 2000) m1.1 m1.2 hsh.1 hsh.2
    have := sumTo_bd hb (R.length - 1) (Nat.le_refl _)
    unfold sumL
    rw [List.length_map, List.length_range]
    omega

set_option maxHeartbeats 800000 in
theorem less_any (a1 a2 b1 b2 : Int) (w : World) (h1 : -1000000000000000 ≤ a1) (h2 : a1 ≤ 1000000000000000) (h3 : 0 < a2) (h4 : a2 ≤ 1000000000) (h5 : -1000000000000000 ≤ b1) (h6 : b1 ≤ 1000000000000000) (h7 : 0 < b2) (h8 : b2 ≤ 1000000000) :
    Calls Try.prog 18 #[v2 (a1, a2), v2 (b1, b2)] w fun e w' => e = .returned (.bool (lessB (a1, a2) (b1, b2))) ∧ Below w.heap.size w w' := by
  obtain ⟨f1, f2⟩ := floorV_rest a1 a2 h3
  obtain ⟨f3, f4⟩ := floorV_rest b1 b2 h7
  have HF := hide (less_f a1 a2 b1 b2 (floorV a1 a2) (floorV b1 b2) h3 h7 f1 f2 f3 f4)
  have hw1 := tdiv_wrap (a := a1) (g := a2) (by omega) (by omega) h3
  have hw2 := tdiv_wrap (a := b1) (g := b2) (by omega) (by omega) h7
  have n1 : ¬ a2 = 0 := by omega
  have n2 : ¬ b2 = 0 := by omega
  have p1 := prod_bd' (a := a1 - floorV a1 a2 * a2) (b := b2) (A := 1000000000) (B := 1000000000) (by omega) (by omega) (by omega) h8
  have p2 := prod_bd' (a := b1 - floorV b1 b2 * b2) (b := a2) (A := 1000000000) (B := 1000000000) (by omega) (by omega) (by omega) h4
  have t1 := tdiv_abs a1 a2
  have t2 := tdiv_abs b1 b2
  have t3 : -1000000000000000 ≤ a1.tdiv a2 ∧ a1.tdiv a2 ≤ 1000000000000000 := by omega
  have t4 : -1000000000000000 ≤ b1.tdiv b2 ∧ b1.tdiv b2 ≤ 1000000000000000 := by omega
  have q1 : IntKind.i64.wrap (floorV a1 a2 * a2) = floorV a1 a2 * a2 := by rw [IntKind.wrap_i64]; omega
  have q2 : IntKind.i64.wrap (floorV b1 b2 * b2) = floorV b1 b2 * b2 := by rw [IntKind.wrap_i64]; omega
  have q3 : IntKind.i64.wrap (a1 - floorV a1 a2 * a2) = a1 - floorV a1 a2 * a2 := by rw [IntKind.wrap_i64]; omega
  have q4 : IntKind.i64.wrap (b1 - floorV b1 b2 * b2) = b1 - floorV b1 b2 * b2 := by rw [IntKind.wrap_i64]; omega
  have q5 : IntKind.i64.wrap ((a1 - floorV a1 a2 * a2) * b2) = (a1 - floorV a1 a2 * a2) * b2 := by rw [IntKind.wrap_i64]; omega
  have q6 : IntKind.i64.wrap ((b1 - floorV b1 b2 * b2) * a2) = (b1 - floorV b1 b2 * b2) * a2 := by rw [IntKind.wrap_i64]; omega
  have e1 : Hid (a1.tmod a2 < 0 → a1.tdiv a2 - 1 = floorV a1 a2) := fun h => by rw [floorV, if_pos h]
  have e2 : Hid (¬ (a1.tmod a2 < 0) → a1.tdiv a2 = floorV a1 a2) := fun h => by rw [floorV, if_neg h]
  have e3 : Hid (b1.tmod b2 < 0 → b1.tdiv b2 - 1 = floorV b1 b2) := fun h => by rw [floorV, if_pos h]
  have e4 : Hid (¬ (b1.tmod b2 < 0) → b1.tdiv b2 = floorV b1 b2) := fun h => by rw [floorV, if_neg h]
  clear h1 h2 h3 h4 h5 h6 h7 h8 f1 f2 f3 f4 p1 p2 t1 t2
  generalize floorV a1 a2 = p at *
  generalize floorV b1 b2 = q at *
  have HQ := hide (And.intro q1 (And.intro q2 (And.intro q3 (And.intro q4 (And.intro q5 q6)))))
  clear q1 q2 q3 q4 q5 q6
  unfold v2
  have HB := hide (Below.step (Below.alloc1 w (.cells #[.int .i64 a1, .int .i64 a2] 34)) (Below.alloc1 _ (.cells #[.int .i64 b1, .int .i64 b2] 34)))
  go_enter Try.func18, Try.ntmps18
  go_wp2
  go_quiet (fail)
  obtain ⟨t5, t6⟩ := t3
  obtain ⟨t7, t8⟩ := t4
  by_cases m1 : a1.tmod a2 < 0 <;> by_cases m2 : b1.tmod b2 < 0
  · have d1 : decide (a1.tmod a2 < 0) = true := by simpa using m1
    have d2 : decide (b1.tmod b2 < 0) = true := by simpa using m2
    have E1 := unhide e1 (by omega)
    have E3 := unhide e3 (by omega)
    by_cases hpq : p = q
    · rw [if_neg (by simpa using hpq)] at HF
      subst hpq
      obtain ⟨q1, q2, q3, q4, q5, q6⟩ := unhide HQ
      go_wp2
      go_ret
      exact ⟨ret_bool (unhide HF).symm, below_drewN (unhide HB) _⟩
    · rw [if_pos hpq] at HF
      go_wp2
      go_ret
      exact ⟨ret_bool (unhide HF).symm, below_drewN (unhide HB) _⟩
  · have d1 : decide (a1.tmod a2 < 0) = true := by simpa using m1
    have d2 : decide (b1.tmod b2 < 0) = false := by simpa using m2
    have E1 := unhide e1 (by omega)
    have E3 := unhide e4 (by omega)
    by_cases hpq : p = q
    · rw [if_neg (by simpa using hpq)] at HF
      subst hpq
      obtain ⟨q1, q2, q3, q4, q5, q6⟩ := unhide HQ
      go_wp2
      go_ret
      exact ⟨ret_bool (unhide HF).symm, below_drewN (unhide HB) _⟩
    · rw [if_pos hpq] at HF
      go_wp2
      go_ret
      exact ⟨ret_bool (unhide HF).symm, below_drewN (unhide HB) _⟩
  · have d1 : decide (a1.tmod a2 < 0) = false := by simpa using m1
    have d2 : decide (b1.tmod b2 < 0) = true := by simpa using m2
    have E1 := unhide e2 (by omega)
    have E3 := unhide e3 (by omega)
    by_cases hpq : p = q
    · rw [if_neg (by simpa using hpq)] at HF
      subst hpq
      obtain ⟨q1, q2, q3, q4, q5, q6⟩ := unhide HQ
      go_wp2
      go_ret
      exact ⟨ret_bool (unhide HF).symm, below_drewN (unhide HB) _⟩
    · rw [if_pos hpq] at HF
      go_wp2
      go_ret
      exact ⟨ret_bool (unhide HF).symm, below_drewN (unhide HB) _⟩
  · have d1 : decide (a1.tmod a2 < 0) = false := by simpa using m1
    have d2 : decide (b1.tmod b2 < 0) = false := by simpa using m2
    have E1 := unhide e2 (by omega)
    have E3 := unhide e4 (by omega)
    by_cases hpq : p = q
    · rw [if_neg (by simpa using hpq)] at HF
      subst hpq
      obtain ⟨q1, q2, q3, q4, q5, q6⟩ := unhide HQ
      go_wp2
      go_ret
      exact ⟨ret_bool (unhide HF).symm, below_drewN (unhide HB) _⟩
    · rw [if_pos hpq] at HF
      go_wp2
      go_ret
      exact ⟨ret_bool (unhide HF).symm, below_drewN (unhide HB) _⟩

end Go.Proofs.Ytmbbhelkmbbobaa

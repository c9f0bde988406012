/- The nearest two ships come, in numbers. No statement about the program stands here. -/
import Derived.Test.YtcljgaofpeaplaaRrM
import Derived.Test.YtcljgaofpeaplaaRrL
namespace Go.Proofs.Ytcljgaofpeaplaa

theorem low_parts {n d : Int} (hn : 0 ≤ n) (hd : 0 < d) : ∃ g, 0 < g ∧ n = (lowV n d).1 * g ∧ d = (lowV n d).2 * g := by
  obtain ⟨h1, _⟩ := gcd_range (num := n) hd
  refine ⟨(Int.gcd n d : Int), h1, ?_, ?_⟩
  · unfold lowV
    show n = n.tdiv (Int.gcd n d : Int) * (Int.gcd n d : Int)
    rw [Int.tdiv_eq_ediv_of_nonneg hn, Int.ediv_mul_cancel (Int.gcd_dvd_left ..)]
  · unfold lowV
    show d = d / (Int.gcd n d : Int) * (Int.gcd n d : Int)
    rw [Int.ediv_mul_cancel (Int.gcd_dvd_right ..)]
theorem low_bd {n d : Int} (hn : 0 ≤ n) (hd : 0 < d) : (0 ≤ (lowV n d).1 ∧ (lowV n d).1 ≤ n) ∧ (1 ≤ (lowV n d).2 ∧ (lowV n d).2 ≤ d) := by
  obtain ⟨g, hg, e1, e2⟩ := low_parts hn hd
  have a1 : 0 ≤ (lowV n d).1 := by
    refine Classical.byContradiction fun h => ?_
    have := Int.mul_neg_of_neg_of_pos (show (lowV n d).1 < 0 by omega) hg
    omega
  have a2 : 0 < (lowV n d).2 := by
    refine Classical.byContradiction fun h => ?_
    have := Int.mul_nonpos_of_nonpos_of_nonneg (show (lowV n d).2 ≤ 0 by omega) (show 0 ≤ g by omega)
    omega
  have a3 : (lowV n d).1 * 1 ≤ (lowV n d).1 * g := Int.mul_le_mul_of_nonneg_left (by omega) a1
  have a4 : (lowV n d).2 * 1 ≤ (lowV n d).2 * g := Int.mul_le_mul_of_nonneg_left (by omega) (by omega)
  omega
theorem low_le {n d X : Int} (hn : 0 ≤ n) (hd : 0 < d) (h : n ≤ X * d) : (lowV n d).1 ≤ X * (lowV n d).2 := by
  obtain ⟨g, hg, e1, e2⟩ := low_parts hn hd
  generalize (lowV n d).1 = F at *
  generalize (lowV n d).2 = G at *
  subst e1 e2
  have h2 : F * g ≤ (X * G) * g := by rw [Int.mul_assoc]; exact h
  exact Int.le_of_mul_le_mul_right h2 hg
theorem sqn (a : Int) : 0 ≤ a * a := sq_nonneg a
/-- What is told is right, and no nearer place comes. -/
structure ClP (p q r s : Int) (T F : I2) : Prop where
  t1 : 0 ≤ T.1
  t2 : 1 ≤ T.2
  f1 : 0 ≤ F.1 ∧ F.1 ≤ 1000000000000000000
  f2 : 1 ≤ F.2 ∧ F.2 ≤ 10000000
  le : ∀ m, 0 ≤ m → F.1 ≤ ((p + r * m) * (p + r * m) + (q + s * m) * (q + s * m)) * F.2
theorem cl_P {p q r s : Int} (h1 : p.natAbs ≤ 200000) (h2 : q.natAbs ≤ 200000) (h3 : r.natAbs ≤ 2000) (h4 : s.natAbs ≤ 2000) : ClP p q r s (clT p q r s) (clF p q r s) := by
  obtain ⟨b1, b2, b3, b4⟩ := cl_bd h1 h2 h3 h4
  have n1 := sqn p
  have n2 := sqn q
  have n3 := sqn r
  have n4 := sqn s
  have ex : ∀ m, (p + r * m) * (p + r * m) + (q + s * m) * (q + s * m) = p * p + q * q + (2 * m) * (p * r + q * s) + (m * m) * (r * r + s * s) := fun m => by grind
  unfold clT clF
  cases hz : clZ p q r s with
  | true =>
    simp only [cond_true]
    refine ⟨by show (0 : Int) ≤ 0; omega, by show (1 : Int) ≤ 1; omega, ?_, ?_, fun m hm => ?_⟩
    · show 0 ≤ p * p + q * q ∧ p * p + q * q ≤ 1000000000000000000
      omega
    · show (1 : Int) ≤ 1 ∧ (1 : Int) ≤ 10000000
      omega
    · show p * p + q * q ≤ _ * 1
      rw [Int.mul_one, ex m]
      unfold clZ at hz
      simp only [Bool.or_eq_true, Bool.and_eq_true, beq_iff_eq, decide_eq_true_eq] at hz
      have k1 : 0 ≤ (m * m) * (r * r + s * s) := Int.mul_nonneg (sqn m) (by omega)
      have k2 : 0 ≤ (2 * m) * (p * r + q * s) := by
        rcases hz with ⟨e1, e2⟩ | h
        · rw [e1, e2]; simp
        · exact Int.mul_nonneg (by omega) (by omega)
      omega
  | false =>
    simp only [cond_false]
    have hz2 : ¬ (r = 0 ∧ s = 0) ∧ p * r + q * s ≤ 0 := by
      unfold clZ at hz
      simp only [Bool.or_eq_false_iff, Bool.and_eq_false_iff, beq_eq_false_iff_ne, decide_eq_false_iff_not] at hz
      refine ⟨fun h => ?_, by omega⟩
      rcases hz.1 with h5 | h5
      · exact h5 h.1
      · exact h5 h.2
    have hv : 0 < r * r + s * s := by
      refine Classical.byContradiction fun hn => hz2.1 ?_
      have hr : r = 0 := (Int.mul_eq_zero.1 (show r * r = 0 by omega)).elim id id
      have hs : s = 0 := (Int.mul_eq_zero.1 (show s * s = 0 by omega)).elim id id
      exact ⟨hr, hs⟩
    have hk := sqn (p * s - q * r)
    have hkb : (p * s - q * r) * (p * s - q * r) ≤ 1000000000000000000 := by
      have := natMul b1 b1
      omega
    obtain ⟨t1, t2⟩ := low_bd (n := -(p * r + q * s)) (d := r * r + s * s) (by omega) hv
    obtain ⟨f1, f2⟩ := low_bd hk hv
    refine ⟨t1.1, t2.1, ⟨f1.1, by omega⟩, ⟨f2.1, by omega⟩, fun m _ => low_le hk hv ?_⟩
    have e9 : ((p + r * m) * (p + r * m) + (q + s * m) * (q + s * m)) * (r * r + s * s) = ((p + r * m) * r + (q + s * m) * s) * ((p + r * m) * r + (q + s * m) * s) + (p * s - q * r) * (p * s - q * r) := by grind
    rw [e9]
    have := sqn ((p + r * m) * r + (q + s * m) * s)
    omega

end Go.Proofs.Ytcljgaofpeaplaa

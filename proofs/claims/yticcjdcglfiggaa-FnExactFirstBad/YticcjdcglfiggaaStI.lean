/- Fractions compared: contracts of the program's leastOk, isLess and of the specification's l2FracOk, l2Floor, l2Less. -/
import Derived.Test.YticcjdcglfiggaaStD
namespace Go.Proofs.Yticcjdcglfiggaa
open Go.RowKit

def leastB (f : I2) : Bool := inB f.1 (-1000) 1000 && inB f.2 1 1000 && decide (Int.gcd f.1 f.2 = 1)
def lessB (a b : I2) : Bool := decide (a.1 * b.2 < b.1 * a.2)

theorem lt_or_ge' (a b : Int) : a < b ∨ b ≤ a := by omega

theorem low_self {n d : Int} (hd : 0 < d) : decide (lowV n d = (n, d)) = decide (Int.gcd n d = 1) := by
  rw [decide_eq_decide]
  unfold lowV
  constructor
  · intro h
    simp only [Prod.mk.injEq] at h
    obtain ⟨g1, g2⟩ := gcd_range (num := n) hd
    rcases lt_or_ge' 1 (Int.gcd n d : Int) with h1 | h1
    · have := Int.ediv_lt_self_of_pos_of_ne_one hd (y := (Int.gcd n d : Int)) (by omega)
      omega
    · omega
  · intro h
    rw [h]
    simp

theorem tparts (a b : Int) (hb : 0 < b) : a = a.tdiv b * b + a.tmod b ∧ -b < a.tmod b ∧ a.tmod b < b ∧ (0 < a.tmod b → 0 < a ∧ 0 ≤ a.tdiv b) ∧ (a.tmod b < 0 → a < 0 ∧ a.tdiv b ≤ 0) := by
  have h1 := Int.tmod_add_mul_tdiv a b
  have h2 := tmod_lt (a := a) (show b ≠ 0 by omega)
  rw [Int.mul_comm] at h1
  refine ⟨by omega, by omega, by omega, fun h => ?_, fun h => ?_⟩
  · have h3 : 0 ≤ a := by
      rcases lt_or_ge' a 0 with h4 | h4
      · have h8 := Int.tmod_nonneg (a := -a) b (by omega)
        rw [Int.neg_tmod] at h8
        omega
      · exact h4
    have h5 := Int.tdiv_nonneg h3 (Int.le_of_lt hb)
    refine ⟨?_, h5⟩
    rcases lt_or_ge' 0 a with h6 | h6
    · exact h6
    · have : a = 0 := by omega
      subst this
      simp at h
  · have h3 : a < 0 := by
      rcases lt_or_ge' a 0 with h4 | h4
      · exact h4
      · have := Int.tmod_nonneg b h4
        omega
    have h7 := Int.tdiv_nonneg (a := -a) (by omega) (Int.le_of_lt hb)
    rw [Int.neg_tdiv] at h7
    exact ⟨h3, by omega⟩

/-- Two fractions of which whole parts and rests are known. -/
theorem cross {a1 a2 b1 b2 p q x y : Int} (ha : a1 = p * a2 + x) (hb : b1 = q * b2 + y) : a1 * b2 - b1 * a2 = (p - q) * (a2 * b2) + (x * b2 - y * a2) := by
  subst ha hb
  rw [Int.add_mul, Int.add_mul, Int.sub_mul]
  rw [Int.mul_assoc p, Int.mul_assoc q b2, Int.mul_comm b2 a2]
  omega

theorem rest_bd {x b2 a2 : Int} (hb : 0 < b2) (h1 : -a2 < x) (h2 : x < a2) : -(a2 * b2) < x * b2 ∧ x * b2 < a2 * b2 := by
  constructor
  · have := Int.mul_lt_mul_of_pos_right h1 hb
    rw [Int.neg_mul] at this
    exact this
  · exact Int.mul_lt_mul_of_pos_right h2 hb

/-- The program's way: whole parts towards 0. -/
theorem less_t (a1 a2 b1 b2 : Int) (ha : 0 < a2) (hb : 0 < b2) :
    lessB (a1, a2) (b1, b2) = if a1.tdiv a2 ≠ b1.tdiv b2 then decide (a1.tdiv a2 < b1.tdiv b2) else decide (a1.tmod a2 * b2 < b1.tmod b2 * a2) := by
  obtain ⟨e1, l1, u1, s1, t1⟩ := tparts a1 a2 ha
  obtain ⟨e2, l2, u2, s2, t2⟩ := tparts b1 b2 hb
  have hc := cross e1 e2
  generalize a1.tdiv a2 = p at *
  generalize b1.tdiv b2 = q at *
  generalize a1.tmod a2 = x at *
  generalize b1.tmod b2 = y at *
  have r1 := rest_bd hb l1 u1
  have r2 := rest_bd ha l2 u2
  rw [Int.mul_comm b2 a2] at r2
  have hP : 0 < a2 * b2 := Int.mul_pos ha hb
  have z1 : x ≤ 0 → x * b2 ≤ 0 := fun h => Int.mul_nonpos_of_nonpos_of_nonneg h (Int.le_of_lt hb)
  have z2 : 0 ≤ x → 0 ≤ x * b2 := fun h => Int.mul_nonneg h (Int.le_of_lt hb)
  have z3 : y ≤ 0 → y * a2 ≤ 0 := fun h => Int.mul_nonpos_of_nonpos_of_nonneg h (Int.le_of_lt ha)
  have z4 : 0 ≤ y → 0 ≤ y * a2 := fun h => Int.mul_nonneg h (Int.le_of_lt ha)
  unfold lessB
  dsimp only
  by_cases hpq : p = q
  · subst hpq
    rw [if_neg (by simp), decide_eq_decide]
    rw [Int.sub_self, Int.zero_mul] at hc
    omega
  · rw [if_pos hpq, decide_eq_decide]
    generalize a2 * b2 = P at *
    rcases Int.lt_or_gt_of_ne hpq with h | h
    · refine ⟨fun _ => h, fun _ => ?_⟩
      by_cases h2 : q - p = 1
      · have : (p - q) * P = -P := by rw [show p - q = -1 by omega]; omega
        omega
      · have : (p - q) * P ≤ -2 * P := Int.mul_le_mul_of_nonneg_right (by omega) (Int.le_of_lt hP)
        omega
    · refine ⟨fun h' => ?_, fun h' => by omega⟩
      exfalso
      by_cases h2 : p - q = 1
      · have : (p - q) * P = P := by rw [h2]; omega
        omega
      · have : 2 * P ≤ (p - q) * P := Int.mul_le_mul_of_nonneg_right (by omega) (Int.le_of_lt hP)
        omega

/-- The specification's way: whole parts down. -/
theorem less_f (a1 a2 b1 b2 p q : Int) (ha : 0 < a2) (hb : 0 < b2) (hp1 : 0 ≤ a1 - p * a2) (hp2 : a1 - p * a2 < a2) (hq1 : 0 ≤ b1 - q * b2) (hq2 : b1 - q * b2 < b2) :
    lessB (a1, a2) (b1, b2) = if p ≠ q then decide (p < q) else decide ((a1 - p * a2) * b2 < (b1 - q * b2) * a2) := by
  have hc := cross (a1 := a1) (a2 := a2) (b1 := b1) (b2 := b2) (p := p) (q := q) (x := a1 - p * a2) (y := b1 - q * b2) (by omega) (by omega)
  generalize a1 - p * a2 = x at *
  generalize b1 - q * b2 = y at *
  have r1 := rest_bd (x := x) hb (a2 := a2) (by omega) hp2
  have r2 := rest_bd (x := y) ha (a2 := b2) (by omega) hq2
  rw [Int.mul_comm b2 a2] at r2
  have hP : 0 < a2 * b2 := Int.mul_pos ha hb
  have z2 : 0 ≤ x * b2 := Int.mul_nonneg hp1 (Int.le_of_lt hb)
  have z4 : 0 ≤ y * a2 := Int.mul_nonneg hq1 (Int.le_of_lt ha)
  unfold lessB
  dsimp only
  by_cases hpq : p = q
  · subst hpq
    rw [if_neg (by simp), decide_eq_decide]
    rw [Int.sub_self, Int.zero_mul] at hc
    omega
  · rw [if_pos hpq, decide_eq_decide]
    generalize a2 * b2 = P at *
    rcases Int.lt_or_gt_of_ne hpq with h | h
    · refine ⟨fun _ => h, fun _ => ?_⟩
      have : (p - q) * P ≤ -1 * P := Int.mul_le_mul_of_nonneg_right (by omega) (Int.le_of_lt hP)
      omega
    · refine ⟨fun h' => ?_, fun h' => by omega⟩
      exfalso
      have : 1 * P ≤ (p - q) * P := Int.mul_le_mul_of_nonneg_right (by omega) (Int.le_of_lt hP)
      omega

theorem prod_bd' {a b A B : Int} (h1 : -A ≤ a) (h2 : a ≤ A) (h3 : 0 ≤ b) (h4 : b ≤ B) : -(A * B) ≤ a * b ∧ a * b ≤ A * B := by
  have hA : 0 ≤ A := by omega
  have h5 : A * b ≤ A * B := Int.mul_le_mul_of_nonneg_left h4 hA
  have h6 : a * b ≤ A * b := Int.mul_le_mul_of_nonneg_right h2 h3
  have h7 : -A * b ≤ a * b := Int.mul_le_mul_of_nonneg_right h1 h3
  rw [Int.neg_mul] at h7
  omega

def floorV (a b : Int) : Int := if a.tmod b < 0 then a.tdiv b - 1 else a.tdiv b

theorem floorV_rest (a b : Int) (hb : 0 < b) : 0 ≤ a - floorV a b * b ∧ a - floorV a b * b < b := by
  obtain ⟨e, l, u, _, _⟩ := tparts a b hb
  unfold floorV
  split
  · rw [Int.sub_mul]; omega
  · omega

/-- How large a quotient is. -/
theorem tdiv_abs (a b : Int) : (a.tdiv b).natAbs ≤ a.natAbs := by
  rw [Int.natAbs_tdiv]
  exact Nat.div_le_self _ _

set_option maxHeartbeats 400000 in
theorem l2Floor_any (a b : Int) (w : World) (h1 : -2000000000000000000 ≤ a) (h2 : a ≤ 2000000000000000000) (h3 : 0 < b) :
    Calls Try.prog 107 #[.int .i64 a, .int .i64 b] w fun e w' => e = .returned (.int .i64 (floorV a b)) ∧ w' = w := by
  have hq := tdiv_abs a b
  have hw := tdiv_wrap (a := a) (g := b) (by omega) (by omega) h3
  have hne : ¬ b = 0 := by omega
  have HF : Hid (floorV a b = if a.tmod b < 0 then a.tdiv b - 1 else a.tdiv b) := hide rfl
  have h5 : -2000000000000000000 ≤ a.tdiv b := by omega
  have h6 : a.tdiv b ≤ 2000000000000000000 := by omega
  clear hq
  by_cases hm : a.tmod b < 0
  · have d1 : decide (a.tmod b < 0) = true := by simpa using hm
    rw [if_pos hm] at HF
    go_enter Try.func107, Try.ntmps107
    go_wp2
    go_ret
    exact ⟨ret_int (unhide HF).symm, rfl⟩
  · have d1 : decide (a.tmod b < 0) = false := by simpa using hm
    rw [if_neg hm] at HF
    go_enter Try.func107, Try.ntmps107
    go_wp2
    go_ret
    exact ⟨ret_int (unhide HF).symm, rfl⟩

set_option maxHeartbeats 800000 in
theorem isLess_any (a1 a2 b1 b2 : Int) (w : World) (h1 : -200000000000000000 ≤ a1) (h2 : a1 ≤ 200000000000000000) (h3 : 0 < a2) (h4 : a2 ≤ 200000000000000) (h5 : -1000 ≤ b1) (h6 : b1 ≤ 1000) (h7 : 1 ≤ b2) (h8 : b2 ≤ 1000) :
    Calls Try.prog 69 #[v2 (a1, a2), v2 (b1, b2)] w fun e w' => e = .returned (.bool (lessB (a1, a2) (b1, b2))) ∧ Below w.heap.size w w' := by
  have HF := hide (less_t a1 a2 b1 b2 h3 (by omega))
  have hw1 := tdiv_wrap (a := a1) (g := a2) (by omega) (by omega) h3
  have hw2 := tdiv_wrap (a := b1) (g := b2) (by omega) (by omega) (by omega)
  have n1 : ¬ a2 = 0 := by omega
  have n2 : ¬ b2 = 0 := by omega
  obtain ⟨-, l1, u1, -, -⟩ := tparts a1 a2 h3
  obtain ⟨-, l2, u2, -, -⟩ := tparts b1 b2 (by omega)
  have p1 := prod_bd' (a := a1.tmod a2) (b := b2) (A := 200000000000000) (B := 1000) (by omega) (by omega) (by omega) h8
  have p2 := prod_bd' (a := b1.tmod b2) (b := a2) (A := 1000) (B := 200000000000000) (by omega) (by omega) (by omega) h4
  have q1 : IntKind.i64.wrap (a1.tmod a2 * b2) = a1.tmod a2 * b2 := by rw [IntKind.wrap_i64]; omega
  have q2 : IntKind.i64.wrap (b1.tmod b2 * a2) = b1.tmod b2 * a2 := by rw [IntKind.wrap_i64]; omega
  clear l1 u1 l2 u2 p1 p2 h1 h2 h3 h4 h5 h6 h7 h8
  unfold v2
  have HB := hide (Below.step (Below.alloc1 w (.cells #[.int .i64 a1, .int .i64 a2] 44)) (Below.alloc1 _ (.cells #[.int .i64 b1, .int .i64 b2] 44)))
  go_enter Try.func69, Try.ntmps69
  have Q1 := hide q1
  have Q2 := hide q2
  clear q1 q2
  go_wp2
  go_quiet (fail)
  by_cases hpq : a1.tdiv a2 = b1.tdiv b2
  · rw [if_neg (by simpa using hpq)] at HF
    have q1 := unhide Q1
    have q2 := unhide Q2
    go_wp2
    go_quiet (fail)
    go_wp2
    go_ret
    exact ⟨ret_bool (unhide HF).symm, below_drewN (below_drewN (unhide HB) _) _⟩
  · rw [if_pos hpq] at HF
    go_wp2
    go_ret
    exact ⟨ret_bool (unhide HF).symm, below_drewN (unhide HB) _⟩

end Go.Proofs.Yticcjdcglfiggaa

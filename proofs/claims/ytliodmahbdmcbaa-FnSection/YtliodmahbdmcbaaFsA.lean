/- Sections: the inertia is above 0, and moving all plates by one height changes neither it nor what the height is to the plates. -/
import Derived.Test.YtliodmahbdmcbaaSgP
namespace Go.Proofs.Ytliodmahbdmcbaa
open Go.RowKit

/-- The inertia about height q, with what is above it. -/
def dev (L : List I3) (q : Int) (k : Nat) : Int := sumTo (fun i => (L.getD i default).1 * (L.getD i default).2.1 * ((L.getD i default).2.1 * (L.getD i default).2.1 + 12 * ((L.getD i default).2.2 - q) * ((L.getD i default).2.2 - q))) k
def sqs (L : List I3) (q : Int) (k : Nat) : Int := sumTo (fun i => (L.getD i default).1 * (L.getD i default).2.1 * (((L.getD i default).2.2 - q) * ((L.getD i default).2.2 - q))) k

theorem dev_eq (L : List I3) (q : Int) : ∀ k, dev L q k = inT L k - 24 * q * moT L k + 12 * q * q * arT L k
  | 0 => by simp [dev, inT, moT, arT, sumTo]
  | k + 1 => by
    have ih := dev_eq L q k
    have e0 : dev L q (k + 1) = dev L q k + (L.getD k default).1 * (L.getD k default).2.1 * ((L.getD k default).2.1 * (L.getD k default).2.1 + 12 * ((L.getD k default).2.2 - q) * ((L.getD k default).2.2 - q)) := rfl
    have e1 : arT L (k + 1) = arT L k + (L.getD k default).1 * (L.getD k default).2.1 := rfl
    have e2 : moT L (k + 1) = moT L k + (L.getD k default).1 * (L.getD k default).2.1 * (L.getD k default).2.2 := rfl
    have e3 : inT L (k + 1) = inT L k + (L.getD k default).1 * (L.getD k default).2.1 * ((L.getD k default).2.1 * (L.getD k default).2.1 + 12 * (L.getD k default).2.2 * (L.getD k default).2.2) := rfl
    rw [e0, e1, e2, e3, ih]
    generalize (L.getD k default).1 = x
    generalize (L.getD k default).2.1 = y
    generalize (L.getD k default).2.2 = z
    grind

theorem sq_ge (z : Int) : z ≤ z * z := by
  by_cases h : z ≤ 0
  · have : 0 ≤ z * z := by
      have := Int.mul_nonneg (show 0 ≤ -z by omega) (show 0 ≤ -z by omega)
      rwa [Int.neg_mul_neg] at this
    omega
  · have := Int.mul_le_mul_of_nonneg_left (show 1 ≤ z by omega) (show 0 ≤ z by omega)
    omega

theorem sq_nonneg (z : Int) : 0 ≤ z * z := by
  by_cases h : z ≤ 0
  · have := Int.mul_nonneg (show 0 ≤ -z by omega) (show 0 ≤ -z by omega)
    rwa [Int.neg_mul_neg] at this
  · exact Int.mul_nonneg (by omega) (by omega)

theorem dev_low {L : List I3} (q : Int) : ∀ k, (∀ i, i < k → plB (L.getD i default) = true) → (k : Int) + 12 * sqs L q k ≤ dev L q k ∧ moT L k - q * arT L k ≤ sqs L q k
  | 0, _ => by simp [dev, sqs, moT, arT, sumTo]
  | k + 1, h => by
    have ih := dev_low q k (fun i hi => h i (by omega))
    have hp := plB_bd (h k (by omega))
    have e0 : dev L q (k + 1) = dev L q k + (L.getD k default).1 * (L.getD k default).2.1 * ((L.getD k default).2.1 * (L.getD k default).2.1 + 12 * ((L.getD k default).2.2 - q) * ((L.getD k default).2.2 - q)) := rfl
    have e4 : sqs L q (k + 1) = sqs L q k + (L.getD k default).1 * (L.getD k default).2.1 * (((L.getD k default).2.2 - q) * ((L.getD k default).2.2 - q)) := rfl
    have e1 : arT L (k + 1) = arT L k + (L.getD k default).1 * (L.getD k default).2.1 := rfl
    have e2 : moT L (k + 1) = moT L k + (L.getD k default).1 * (L.getD k default).2.1 * (L.getD k default).2.2 := rfl
    rw [e0, e1, e2, e4]
    generalize (L.getD k default).1 = x at *
    generalize (L.getD k default).2.1 = y at *
    generalize (L.getD k default).2.2 = z at *
    have p1 : 1 ≤ x * y := by have := Int.mul_pos (show 0 < x by omega) (show 0 < y by omega); omega
    have p2 : 1 ≤ y * y := by have := Int.mul_pos (show 0 < y by omega) (show 0 < y by omega); omega
    have p3 : 1 ≤ x * y * (y * y) := by have := Int.mul_pos (show 0 < x * y by omega) (show 0 < y * y by omega); omega
    have p4 : x * y * (z - q) ≤ x * y * ((z - q) * (z - q)) := Int.mul_le_mul_of_nonneg_left (sq_ge _) (by omega)
    have r1 : x * y * (y * y + 12 * (z - q) * (z - q)) = x * y * (y * y) + 12 * (x * y * ((z - q) * (z - q))) := by grind
    have r2 : moT L k + x * y * z - q * (arT L k + x * y) = (moT L k - q * arT L k) + x * y * (z - q) := by grind
    rw [r1, r2]
    constructor <;> omega

theorem inLess_dev {a : Int} (m s : Int) : inLess a m s = (s - 24 * (m / a) * m + 12 * (m / a) * (m / a) * a) - (12 * (m % a) * (m % a) + a - 1) / a := by
  have e := Int.mul_ediv_add_emod m a
  unfold inLess
  generalize m / a = q at *
  generalize hr : m % a = r at *
  generalize (12 * r * r + a - 1) / a = u
  have : 12 * q * (m + r) = 24 * q * m - 12 * q * q * a := by grind
  omega

theorem secN_eq {L : List I3} (h : secOk L = true) : secN L = dev L (moT L L.length / arT L L.length) L.length - (12 * (moT L L.length % arT L L.length) * (moT L L.length % arT L L.length) + arT L L.length - 1) / arT L L.length := by
  rw [secN, if_pos h, inLess_dev, dev_eq]

theorem secN_pos {L : List I3} (h : secOk L = true) : 0 < secN L := by
  have hR := secOk_r h
  have b := arT_bd hR.pl L.length (Nat.le_refl _)
  have l1 := hR.len1
  rw [secN_eq h]
  have d := dev_low (moT L L.length / arT L L.length) L.length hR.pl
  have e := Int.mul_ediv_add_emod (moT L L.length) (arT L L.length)
  have r1 := Int.emod_nonneg (moT L L.length) (show arT L L.length ≠ 0 by omega)
  have r2 := Int.emod_lt_of_pos (moT L L.length) (show 0 < arT L L.length by omega)
  generalize arT L L.length = a at *
  generalize moT L L.length = m at *
  generalize m / a = q at *
  generalize m % a = r at *
  generalize hK : sqs L q L.length = K at *
  have c : m - q * a = r := by grind
  have k1 : r * r ≤ a * r := Int.mul_le_mul_of_nonneg_right (by omega) r1
  have k2 : a * r ≤ a * K := Int.mul_le_mul_of_nonneg_left (by omega) (by omega)
  have u : (12 * r * r + a - 1) / a < 12 * K + 1 := Int.ediv_lt_of_lt_mul (by omega) (by
    have : (12 * K + 1) * a = 12 * (a * K) + a := by grind
    have : 12 * r * r = 12 * (r * r) := by grind
    omega)
  omega

/-- The plates, each higher by u. -/
def upBy (u : Int) (L : List I3) : List I3 := L.map fun p => (p.1, p.2.1, p.2.2 + u)

theorem upBy_get (u : Int) {L : List I3} {i : Nat} (hi : i < L.length) : (upBy u L).getD i default = ((L.getD i default).1, (L.getD i default).2.1, (L.getD i default).2.2 + u) := by
  simp [upBy, List.getD, hi]

theorem upBy_sums (u : Int) (L : List I3) (q : Int) : ∀ k, k ≤ L.length → arT (upBy u L) k = arT L k ∧ moT (upBy u L) k = moT L k + u * arT L k ∧ dev (upBy u L) (q + u) k = dev L q k
  | 0, _ => by simp [arT, moT, dev, sumTo]
  | k + 1, hk => by
    obtain ⟨i1, i2, i3⟩ := upBy_sums u L q k (by omega)
    have g := upBy_get u (L := L) (i := k) (by omega)
    have e1 : ∀ M : List I3, arT M (k + 1) = arT M k + (M.getD k default).1 * (M.getD k default).2.1 := fun _ => rfl
    have e2 : ∀ M : List I3, moT M (k + 1) = moT M k + (M.getD k default).1 * (M.getD k default).2.1 * (M.getD k default).2.2 := fun _ => rfl
    have e0 : ∀ (M : List I3) (q : Int), dev M q (k + 1) = dev M q k + (M.getD k default).1 * (M.getD k default).2.1 * ((M.getD k default).2.1 * (M.getD k default).2.1 + 12 * ((M.getD k default).2.2 - q) * ((M.getD k default).2.2 - q)) := fun _ _ => rfl
    rw [e1, e1, e2, e2, e0, e0, g, i1, i2, i3]
    dsimp only
    generalize (L.getD k default).1 = x
    generalize (L.getD k default).2.1 = y
    generalize (L.getD k default).2.2 = z
    refine ⟨rfl, by grind, ?_⟩
    rw [show z + u - (q + u) = z - q by omega]

theorem secN_up {L : List I3} {u : Int} (h : secOk L = true) (h' : secOk (upBy u L) = true) : secN (upBy u L) = secN L := by
  have hR := secOk_r h
  have b := arT_bd hR.pl L.length (Nat.le_refl _)
  have l1 := hR.len1
  have el : (upBy u L).length = L.length := by simp [upBy]
  rw [secN_eq h, secN_eq h', el]
  obtain ⟨s1, s2, _⟩ := upBy_sums u L 0 L.length (Nat.le_refl _)
  rw [s1, s2, Int.add_mul_ediv_right _ _ (show arT L L.length ≠ 0 by omega), Int.add_mul_emod_self_right, (upBy_sums u L _ L.length (Nat.le_refl _)).2.2]

/-- The lowest terms, times what they were divided by. -/
theorem low_mul (N : Int) {D : Int} (hD : 0 < D) : ∃ g : Int, 0 < g ∧ g = (Int.gcd N D : Int) ∧ N = (lowV N D).1 * g ∧ D = (lowV N D).2 * g ∧ 0 < (lowV N D).2 ∧ (lowV N D).2 ≤ D := by
  obtain ⟨g1, g2⟩ := gcd_range (num := N) hD
  have e1 : (lowV N D).1 * (Int.gcd N D : Int) = N := Int.tdiv_mul_cancel (Int.gcd_dvd_left ..)
  have e2 : (lowV N D).2 * (Int.gcd N D : Int) = D := Int.ediv_mul_cancel (Int.gcd_dvd_right ..)
  refine ⟨_, g1, rfl, e1.symm, e2.symm, ?_, ?_⟩
  · exact Int.pos_of_mul_pos_left (by rw [e2]; exact hD) g1 |> id
  · exact Int.ediv_le_self _ (by omega)

theorem gcd_up (M A u : Int) : Int.gcd (M + u * A) A = Int.gcd M A := by simp

theorem lowV_up {M A u : Int} (hA : 0 < A) (hM : 0 ≤ M) (hu : 0 ≤ u) : lowV (M + u * A) A = ((lowV M A).1 + u * (lowV M A).2, (lowV M A).2) := by
  obtain ⟨g, g0, eg, e1, e2, _, _⟩ := low_mul M hA
  have h3 : 0 ≤ u * A := Int.mul_nonneg hu (by omega)
  have : (lowV (M + u * A) A) = ((M + u * A).tdiv g, A / g) := by rw [lowV, gcd_up, eg]
  rw [this]
  have hd : A / g = (lowV M A).2 := by rw [lowV, eg]
  rw [hd, Int.tdiv_eq_ediv_of_nonneg (by omega)]
  generalize (lowV M A).1 = n at *
  generalize (lowV M A).2 = d at *
  have : M + u * A = (n + u * d) * g := by rw [e1, e2]; grind
  rw [this, Int.mul_ediv_cancel _ (by omega)]

theorem moT_between {L : List I3} {lo hi : Int} : ∀ k, (∀ i, i < k → plB (L.getD i default) = true ∧ lo ≤ (L.getD i default).2.2 ∧ (L.getD i default).2.2 ≤ hi) → lo * arT L k ≤ moT L k ∧ moT L k ≤ hi * arT L k
  | 0, _ => by simp [arT, moT, sumTo]
  | k + 1, h => by
    have ih := moT_between k (fun i hi => h i (by omega))
    obtain ⟨hp, h1, h2⟩ := h k (by omega)
    have hp := plB_bd hp
    have e1 : arT L (k + 1) = arT L k + (L.getD k default).1 * (L.getD k default).2.1 := rfl
    have e2 : moT L (k + 1) = moT L k + (L.getD k default).1 * (L.getD k default).2.1 * (L.getD k default).2.2 := rfl
    rw [e1, e2]
    generalize (L.getD k default).1 = x at *
    generalize (L.getD k default).2.1 = y at *
    generalize (L.getD k default).2.2 = z at *
    have p0 : 0 ≤ x * y := Int.mul_nonneg (by omega) (by omega)
    have p1 : x * y * lo ≤ x * y * z := Int.mul_le_mul_of_nonneg_left h1 p0
    have p2 : x * y * z ≤ x * y * hi := Int.mul_le_mul_of_nonneg_left h2 p0
    have r1 : lo * (arT L k + x * y) = lo * arT L k + x * y * lo := by grind
    have r2 : hi * (arT L k + x * y) = hi * arT L k + x * y * hi := by grind
    rw [r1, r2]
    omega

/-- What FnSection asks of a drawn list, in numbers. -/
theorem section_facts {L : List I3} {u lo hi : Int} (h : secOk L = true) (h' : secOk (upBy u L) = true) (hu : 0 ≤ u) (hb : ∀ i, i < L.length → lo ≤ (L.getD i default).2.2 ∧ (L.getD i default).2.2 ≤ hi) :
    ∃ n d x : Int, secV L = (n, d) ∧ secN L = x ∧ secV (upBy u L) = (n + u * d, d) ∧ secN (upBy u L) = x ∧ 0 < d ∧ d ≤ 20000000 ∧ 0 ≤ n ∧ n ≤ 200000000000 ∧ lo * d ≤ n ∧ n ≤ hi * d ∧ 0 < x := by
  have hR := secOk_r h
  have b := arT_bd hR.pl L.length (Nat.le_refl _)
  have l1 := hR.len1
  have l2 := hR.len2
  have el : (upBy u L).length = L.length := by simp [upBy]
  have hA : 0 < arT L L.length := by omega
  obtain ⟨s1, s2, _⟩ := upBy_sums u L 0 L.length (Nat.le_refl _)
  obtain ⟨m1, m2⟩ := moT_between (L := L) (lo := lo) (hi := hi) L.length (fun i hi => ⟨hR.pl i hi, hb i hi⟩)
  obtain ⟨g, g0, eg, e1, e2, d0, d1⟩ := low_mul (moT L L.length) hA
  have hn : 0 ≤ (lowV (moT L L.length) (arT L L.length)).1 := Int.tdiv_nonneg (by omega) (by omega)
  have hn2 : (lowV (moT L L.length) (arT L L.length)).1 ≤ moT L L.length := by
    show (moT L L.length).tdiv _ ≤ _
    rw [Int.tdiv_eq_ediv_of_nonneg (by omega)]; exact Int.ediv_le_self _ (by omega)
  refine ⟨(lowV (moT L L.length) (arT L L.length)).1, (lowV (moT L L.length) (arT L L.length)).2, secN L, by rw [secV, if_pos h], rfl, ?_, secN_up h h', d0, by omega, hn, by omega, ?_, ?_, secN_pos h⟩
  · rw [secV, if_pos h', el, s1, s2, lowV_up hA (by omega) hu]
  · generalize (lowV (moT L L.length) (arT L L.length)).1 = n at *
    generalize (lowV (moT L L.length) (arT L L.length)).2 = d at *
    rw [e1, e2] at m1
    exact Int.le_of_mul_le_mul_right (show lo * d * g ≤ n * g by rw [Int.mul_assoc]; exact m1) g0
  · generalize (lowV (moT L L.length) (arT L L.length)).1 = n at *
    generalize (lowV (moT L L.length) (arT L L.length)).2 = d at *
    rw [e1, e2] at m2
    exact Int.le_of_mul_le_mul_right (show n * g ≤ hi * d * g by rw [Int.mul_assoc]; exact m2) g0

end Go.Proofs.Ytliodmahbdmcbaa

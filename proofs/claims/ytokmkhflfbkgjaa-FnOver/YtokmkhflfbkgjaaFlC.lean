/- Whole numbers as floats: their sums, differences and products, and how they are compared. No statement about the program stands here. -/
import Derived.Test.YtokmkhflfbkgjaaFlB
namespace Go.Proofs.Ytokmkhflfbkgjaa
open Go.RowKit
open Ieee

/-- The float stands for the whole number n (a 0 of either sign). -/
def isI (k : FloatKind) (b : Nat) (n : Int) : Prop := ∃ (s : Bool) (q : Nat), k.decode b = .number s (n.natAbs * 2 ^ q) (-(q : Int)) ∧ (n ≠ 0 → s = decide (n < 0))

theorem fmt_facts (k : FloatKind) : k.format.leastPlace ≤ 0 ∧ 24 ≤ k.format.fractionBits + 1 ∧ (0 : Int) + 24 - k.format.fractionBits - k.format.leastPlace + 2 ≤ ((2 ^ k.format.exponentBits - 1 : Nat) : Int) ∧ 2 ≤ 2 ^ k.format.exponentBits - 1 := by
  cases k <;> decide

theorem read_enc_zero (k : FloatKind) (s : Bool) : k.decode (k.encode (.number s 0 0)) = .number s 0 k.format.leastPlace := by
  cases k <;> cases s <;> decide

theorem isI_zero {k : FloatKind} {b : Nat} {s : Bool} (h : k.decode b = .number s 0 k.format.leastPlace) : isI k b 0 := by
  refine ⟨s, (-k.format.leastPlace).toNat, ?_, fun h => absurd rfl h⟩
  rw [h]
  have := (fmt_facts k).1
  simp
  omega

/-- What is written of a whole number with few digits, however it is scaled. -/
theorem isI_enc (k : FloatKind) (s : Bool) (n : Int) (t : Nat) (hn : n.natAbs < 16777216) (hs : n ≠ 0 → s = decide (n < 0)) : isI k (k.encode (.number s (n.natAbs * 2 ^ t) (-(t : Int)))) n := by
  obtain ⟨f1, f2, f3, f4⟩ := fmt_facts k
  by_cases h0 : n = 0
  · subst h0
    have e : k.encode (.number s ((0 : Int).natAbs * 2 ^ t) (-(t : Int))) = k.encode (.number s 0 0) := by
      simp [FloatKind.encode, Format.write, Format.nearest]
    rw [e]
    exact isI_zero (read_enc_zero k s)
  · have hp : 0 < n.natAbs := by omega
    have hb : n.natAbs < 2 ^ (k.format.fractionBits + 1) := Nat.lt_of_lt_of_le hn (by
      have := Nat.pow_le_pow_right (n := 2) (by omega) f2
      simpa using this)
    have e : k.encode (.number s (n.natAbs * 2 ^ t) (-(t : Int))) = k.format.nearest s n.natAbs 0 := by
      show k.format.nearest s (n.natAbs * 2 ^ t) (-(t : Int)) = _
      have := nearest_scale k.format s n.natAbs t 0 hp hb f1
      rw [show (0 : Int) - (t : Int) = -(t : Int) by omega] at this
      exact this
    have hl : n.natAbs.log2 < 24 := (Nat.log2_lt (by omega)).2 (by simpa using hn)
    have hr := read_nearest k.format s n.natAbs 0 hp hb f1 (by omega) f4
    rw [e]
    have hle : lastP k.format n.natAbs 0 ≤ 0 := by
      have := (Nat.log2_lt (by omega : n.natAbs ≠ 0)).2 hb
      unfold lastP; omega
    refine ⟨s, (0 - lastP k.format n.natAbs 0).toNat, ?_, hs⟩
    show k.format.read _ = _
    rw [hr]
    congr 1
    omega

theorem isI_int (k : FloatKind) (n : Int) (hn : n.natAbs < 16777216) : isI k (floatOfInt k n) n := by
  have := isI_enc k (decide (n < 0)) n 0 hn (fun _ => rfl)
  rw [Nat.pow_zero, Nat.mul_one] at this
  exact this

theorem signed_eq (n : Int) (s : Bool) (q up : Nat) (hs : n ≠ 0 → s = decide (n < 0)) : signed s (n.natAbs * 2 ^ q) up = n * ((2 ^ (q + up) : Nat) : Int) := by
  unfold signed
  rw [Nat.shiftLeft_eq, Nat.mul_assoc, ← Nat.pow_add]
  generalize 2 ^ (q + up) = p
  by_cases h0 : n = 0
  · subst h0; simp
  · rw [hs h0]
    by_cases h : n < 0
    · rw [decide_eq_true h, if_pos rfl]
      have : (n.natAbs : Int) = -n := by omega
      rw [Int.natCast_mul, this]
      grind
    · rw [decide_eq_false h, if_neg (by simp)]
      have : (n.natAbs : Int) = n := by omega
      rw [Int.natCast_mul, this]

theorem sum_isI {m n : Int} {s t : Bool} {a b : Nat} (hs : m ≠ 0 → s = decide (m < 0)) (ht : n ≠ 0 → t = decide (n < 0)) :
    ∃ (u : Bool) (c : Nat), (Datum.number s (m.natAbs * 2 ^ a) (-(a : Int))).sum (.number t (n.natAbs * 2 ^ b) (-(b : Int))) = some (.number u ((m + n).natAbs * 2 ^ c) (-(c : Int))) ∧ (m + n ≠ 0 → u = decide (m + n < 0)) := by
  obtain ⟨c, ec⟩ : ∃ c : Nat, (c : Int) = max (a : Int) b := ⟨max a b, by omega⟩
  have hbase : min (-(a : Int)) (-(b : Int)) = -(c : Int) := by omega
  have h1 : (-(a : Int) - -(c : Int)).toNat = c - a := by omega
  have h2 : (-(b : Int) - -(c : Int)).toNat = c - b := by omega
  have hca : a + (c - a) = c := by omega
  have hcb : b + (c - b) = c := by omega
  simp only [Datum.sum, hbase, h1, h2]
  rw [signed_eq m s a (c - a) hs, signed_eq n t b (c - b) ht, hca, hcb, ← Int.add_mul]
  have hp : 0 < ((2 ^ c : Nat) : Int) := by have := Nat.two_pow_pos c; omega
  refine ⟨_, c, by rw [Int.natAbs_mul, Int.natAbs_natCast], fun h => ?_⟩
  have hne : (m + n) * ((2 ^ c : Nat) : Int) ≠ 0 := Int.mul_ne_zero h (by omega)
  rw [if_neg hne, decide_eq_decide]
  constructor
  · intro hlt
    apply Classical.byContradiction
    intro hge
    have := Int.mul_nonneg (show 0 ≤ m + n by omega) (show 0 ≤ ((2 ^ c : Nat) : Int) by omega)
    omega
  · intro hlt
    exact Int.mul_neg_of_neg_of_pos hlt hp

theorem isI.add {k : FloatKind} {x y : Nat} {m n : Int} (hx : isI k x m) (hy : isI k y n) (hb : (m + n).natAbs < 16777216) : ∃ r, floatBits .add k x y = some r ∧ isI k r (m + n) := by
  obtain ⟨s, a, ea, hs⟩ := hx
  obtain ⟨t, b, eb, ht⟩ := hy
  unfold FloatKind.decode at ea eb
  obtain ⟨u, c, e, hu⟩ := sum_isI (a := a) (b := b) hs ht
  exact ⟨_, by simp only [floatBits, Format.add, ea, eb, e, Option.map_some]; rfl, isI_enc k u (m + n) c hb hu⟩

theorem isI.sub {k : FloatKind} {x y : Nat} {m n : Int} (hx : isI k x m) (hy : isI k y n) (hb : (m - n).natAbs < 16777216) : ∃ r, floatBits .sub k x y = some r ∧ isI k r (m - n) := by
  obtain ⟨s, a, ea, hs⟩ := hx
  obtain ⟨t, b, eb, ht⟩ := hy
  unfold FloatKind.decode at ea eb
  have ht' : -n ≠ 0 → (!t) = decide (-n < 0) := fun h => by
    rw [ht (by omega)]
    by_cases h0 : n < 0
    · rw [decide_eq_true h0, decide_eq_false (by omega)]; rfl
    · rw [decide_eq_false h0, decide_eq_true (by omega)]; rfl
  obtain ⟨u, c, e, hu⟩ := sum_isI (a := a) (b := b) hs ht'
  rw [Int.natAbs_neg, show m + -n = m - n by omega] at e
  rw [show m + -n = m - n by omega] at hu
  exact ⟨_, by simp only [floatBits, Format.sub, ea, eb, Datum.opposite, e, Option.map_some]; rfl, isI_enc k u (m - n) c hb hu⟩

theorem isI.mul {k : FloatKind} {x y : Nat} {m n : Int} (hx : isI k x m) (hy : isI k y n) (hb : (m * n).natAbs < 16777216) : ∃ r, floatBits .mul k x y = some r ∧ isI k r (m * n) := by
  obtain ⟨s, a, ea, hs⟩ := hx
  obtain ⟨t, b, eb, ht⟩ := hy
  unfold FloatKind.decode at ea eb
  have hu : m * n ≠ 0 → (s ^^ t) = decide (m * n < 0) := fun h => by
    have hm : m ≠ 0 := fun e => h (by rw [e]; simp)
    have hn : n ≠ 0 := fun e => h (by rw [e]; simp)
    rw [hs hm, ht hn]
    by_cases h1 : m < 0 <;> by_cases h2 : n < 0
    · have := Int.mul_pos_of_neg_of_neg h1 h2
      rw [decide_eq_true h1, decide_eq_true h2, decide_eq_false (by omega)]; rfl
    · have := Int.mul_neg_of_neg_of_pos h1 (show 0 < n by omega)
      rw [decide_eq_true h1, decide_eq_false h2, decide_eq_true this]; rfl
    · have := Int.mul_neg_of_pos_of_neg (show 0 < m by omega) h2
      rw [decide_eq_false h1, decide_eq_true h2, decide_eq_true this]; rfl
    · have := Int.mul_pos (show 0 < m by omega) (show 0 < n by omega)
      rw [decide_eq_false h1, decide_eq_false h2, decide_eq_false (by omega)]; rfl
  have e1 : m.natAbs * 2 ^ a * (n.natAbs * 2 ^ b) = (m * n).natAbs * 2 ^ (a + b) := by rw [Int.natAbs_mul, Nat.pow_add]; grind
  have e2 : -(a : Int) + -(b : Int) = -((a + b : Nat) : Int) := by omega
  exact ⟨_, by simp only [floatBits, Format.mul, ea, eb, Datum.product, e1, e2, Option.map_some]; rfl, isI_enc k _ (m * n) (a + b) hb hu⟩

theorem isI.order {k : FloatKind} {x y : Nat} {m n : Int} (hx : isI k x m) (hy : isI k y n) : k.format.order x y = some (compare m n) := by
  obtain ⟨s, a, ea, hs⟩ := hx
  obtain ⟨t, b, eb, ht⟩ := hy
  unfold FloatKind.decode at ea eb
  obtain ⟨c, ec⟩ : ∃ c : Nat, (c : Int) = max (a : Int) b := ⟨max a b, by omega⟩
  have hbase : min (-(a : Int)) (-(b : Int)) = -(c : Int) := by omega
  have h1 : (-(a : Int) - -(c : Int)).toNat = c - a := by omega
  have h2 : (-(b : Int) - -(c : Int)).toNat = c - b := by omega
  have hca : a + (c - a) = c := by omega
  have hcb : b + (c - b) = c := by omega
  simp only [Format.order, ea, eb, Datum.order, hbase, h1, h2]
  rw [signed_eq m s a (c - a) hs, signed_eq n t b (c - b) ht, hca, hcb]
  have hp : 0 < ((2 ^ c : Nat) : Int) := by have := Nat.two_pow_pos c; omega
  generalize ((2 ^ c : Nat) : Int) = p at *
  congr 1
  simp only [compare, compareOfLessAndEq]
  have k1 : (m * p < n * p ↔ m < n) := ⟨fun h => Int.lt_of_mul_lt_mul_right h (by omega), fun h => Int.mul_lt_mul_of_pos_right h hp⟩
  have k2 : (m * p = n * p ↔ m = n) := ⟨fun h => Int.eq_of_mul_eq_mul_right (by omega) h, fun h => by rw [h]⟩
  simp only [k1, k2]

end Go.Proofs.Ytokmkhflfbkgjaa

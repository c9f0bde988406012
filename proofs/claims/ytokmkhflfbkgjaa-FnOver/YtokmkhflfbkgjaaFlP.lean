/- Finite floats told by their bits; the size of a float; results of operations fit their size. No statement about the program stands here. -/
import Derived.Test.YtokmkhflfbkgjaaFlH
import Derived.Laws.BitsAllLaws
import Derived.Laws.FloatBits
namespace Go.Proofs.Ytokmkhflfbkgjaa
open Go.RowKit

theorem and_exp (x : Nat) : x &&& 9218868437227405312 = x / 4503599627370496 % 2048 * 4503599627370496 := by
  have e : 9218868437227405312 = (2 ^ 11 - 1) <<< 52 := by decide
  have e2 : x / 4503599627370496 % 2048 * 4503599627370496 = ((x >>> 52) % 2 ^ 11) <<< 52 := by rw [Nat.shiftRight_eq_div_pow, Nat.shiftLeft_eq]
  rw [e, e2]
  apply Nat.eq_of_testBit_eq
  intro i
  simp only [Nat.testBit_and, Nat.testBit_shiftLeft, Nat.testBit_two_pow_sub_one, Nat.testBit_mod_two_pow, Nat.testBit_shiftRight]
  by_cases h : 52 ≤ i
  · have h2 : 52 + (i - 52) = i := by omega
    simp [h, h2, Bool.and_comm]
  · simp [h]

theorem f64_facts : FloatKind.f64.format.signWeight = 9223372036854775808 ∧ FloatKind.f64.format.binade = 4503599627370496 ∧ FloatKind.f64.format.infRung = 9218868437227405312 ∧ FloatKind.f64.format.leastPlace = -1074 := by decide

/-- What the bits of a float64 stand for. -/
theorem read64 (x : Nat) : (∃ s m i, FloatKind.f64.format.read x = .number s m i ∧ -1074 ≤ i ∧ x % 9223372036854775808 < 9218868437227405312) ∨ ((FloatKind.f64.format.read x).isInfinity = true ∧ x % 9223372036854775808 = 9218868437227405312) ∨ ((FloatKind.f64.format.read x).isNaN = true ∧ 9218868437227405312 < x % 9223372036854775808) := by
  obtain ⟨s1, s2, s3, s4⟩ := f64_facts
  unfold Ieee.Format.read
  simp only [s1, s2, s3, s4]
  generalize x % 9223372036854775808 = r
  by_cases h1 : r < 4503599627370496
  · exact Or.inl ⟨_, _, _, by rw [if_pos h1], by omega, by omega⟩
  · by_cases h2 : r < 9218868437227405312
    · exact Or.inl ⟨_, _, _, by rw [if_neg h1, if_pos h2], by omega, h2⟩
    · by_cases h3 : r = 9218868437227405312
      · exact Or.inr (Or.inl ⟨by rw [if_neg h1, if_neg h2, if_pos h3]; rfl, h3⟩)
      · exact Or.inr (Or.inr ⟨by rw [if_neg h1, if_neg h2, if_neg h3]; rfl, by omega⟩)

theorem finB_bits (x : Nat) : finB x = decide (x % 9223372036854775808 < 9218868437227405312) := by
  unfold finB fop floatBits
  rcases read64 x with ⟨s, m, i, hd, _, hr⟩ | ⟨hd, hr⟩ | ⟨hd, hr⟩
  · have h0 : Ieee.Format.sub FloatKind.f64.format x x = some 0 := by
      unfold Ieee.Format.sub
      rw [hd]
      have e : Ieee.signed s m (i - i).toNat + Ieee.signed (!s) m (i - i).toNat = 0 := by cases s <;> simp [Ieee.signed] <;> omega
      have e1 : (Ieee.Datum.number s m i).sum (Ieee.Datum.number s m i).opposite = some (.number false 0 i) := by
        simp only [Ieee.Datum.opposite, Ieee.Datum.sum, Int.min_self, e]
        simp
      rw [e1]
      rfl
    simp only [h0, Option.getD_some]
    rw [decide_eq_true hr]
    decide
  · have h0 : Ieee.Format.sub FloatKind.f64.format x x = none := by
      unfold Ieee.Format.sub
      cases hq : FloatKind.f64.format.read x with
      | infinity s => cases s <;> rfl
      | number _ _ _ => rw [hq] at hd; cases hd
      | nan _ _ => rw [hq] at hd; cases hd
    simp only [h0, Option.getD_none]
    rw [decide_eq_false (by omega)]
    decide
  · have h0 : Ieee.Format.sub FloatKind.f64.format x x = none := by
      unfold Ieee.Format.sub
      cases hq : FloatKind.f64.format.read x with
      | infinity s => rw [hq] at hd; cases hd
      | number _ _ _ => rw [hq] at hd; cases hd
      | nan _ _ => rfl
    simp only [h0, Option.getD_none]
    rw [decide_eq_false (by omega)]
    decide

theorem and_fin (x : Nat) (hx : x < 18446744073709551616) : (bits .and .u64 (x : Int) 9218868437227405312 != 9218868437227405312) = finB x := by
  have e := u64_and_nat x 9218868437227405312 hx (by decide)
  rw [show ((9218868437227405312 : Nat) : Int) = 9218868437227405312 from rfl] at e
  rw [e, and_exp, finB_bits]
  by_cases h : x % 9223372036854775808 < 9218868437227405312
  · rw [decide_eq_true h]; simp; omega
  · rw [decide_eq_false h]; simp; omega

theorem not_sign (x : Nat) (hx : x < 18446744073709551616) : bits .andNot .u64 (x : Int) 9223372036854775808 = ((x % 9223372036854775808 : Nat) : Int) := by
  have e := u64_andNot_nat x 9223372036854775808 hx (by decide)
  rw [show ((9223372036854775808 : Nat) : Int) = 9223372036854775808 from rfl] at e
  rw [e, show 18446744073709551615 - 9223372036854775808 = 2 ^ 63 - 1 by decide, Nat.and_two_pow_sub_one_eq_mod]

theorem xor_sign (x : Nat) (hx : x < 18446744073709551616) : bits .xor .u64 (x : Int) 9223372036854775808 = ((Op.negFloat .f64 x : Nat) : Int) := by
  have e := u64_xor_nat x 9223372036854775808 hx (by decide)
  rw [show ((9223372036854775808 : Nat) : Int) = 9223372036854775808 from rfl] at e
  rw [e]
  rfl

theorem read_sign (x : Nat) : FloatKind.f64.format.read x = (if x.testBit 63 = true then (FloatKind.f64.format.read (x % 9223372036854775808)).opposite else FloatKind.f64.format.read (x % 9223372036854775808)) := by
  obtain ⟨s1, s2, s3, s4⟩ := f64_facts
  have hb : x.testBit 63 = (x / 9223372036854775808 % 2 == 1) := by rw [Nat.testBit_eq_decide_div_mod_eq]; rfl
  unfold Ieee.Format.read
  simp only [s1, s2, s3, s4]
  rw [hb]
  have hz : x % 9223372036854775808 / 9223372036854775808 % 2 = 0 := by omega
  rw [hz, Nat.mod_mod]
  generalize (x / 9223372036854775808 % 2 == 1) = s
  generalize x % 9223372036854775808 = r
  cases s <;> simp <;> (split <;> first | rfl | (split <;> first | rfl | (split <;> rfl)))

theorem neg_testBit (x : Nat) : (Op.negFloat .f64 x).testBit 63 = !(x.testBit 63) := by
  show (x ^^^ 2 ^ 63).testBit 63 = _
  rw [Nat.testBit_xor, Nat.testBit_two_pow_self]
  simp
theorem neg_mod (x : Nat) : Op.negFloat .f64 x % 9223372036854775808 = x % 9223372036854775808 := by
  show (x ^^^ 2 ^ 63) % 2 ^ 63 = _
  rw [Nat.xor_mod_two_pow, Nat.mod_self, Nat.xor_zero]

theorem signed_nonneg (m u : Nat) : ¬ Ieee.signed false m u < 0 := by
  show ¬ ((m <<< u : Nat) : Int) < 0
  exact Int.not_lt.2 (Int.natCast_nonneg _)
theorem signed_neg {m : Nat} (hm : ¬ m = 0) (u : Nat) : Ieee.signed true m u < 0 := by
  show -((m <<< u : Nat) : Int) < 0
  have := Nat.mul_pos (Nat.pos_of_ne_zero hm) (Nat.two_pow_pos u)
  rw [← Nat.shiftLeft_eq] at this
  omega
theorem signed_zero (s : Bool) (u : Nat) : Ieee.signed s 0 u = 0 := by cases s <;> simp [Ieee.signed]

/-- The size by its bits and the specification's: the same number. -/
theorem read_abs (x : Nat) (hf : finB x = true) : ∃ s m i, FloatKind.f64.format.read (sizeF x) = .number s m i ∧ FloatKind.f64.format.read (x % 9223372036854775808) = .number false m i ∧ (s = true → m = 0) := by
  rw [finB_bits] at hf
  have hr := of_decide_eq_true hf
  have hz : (x % 9223372036854775808).testBit 63 = false := by rw [Nat.testBit_eq_decide_div_mod_eq]; exact decide_eq_false (by omega)
  obtain ⟨m, i, hi, hd⟩ : ∃ m i, -1074 ≤ i ∧ FloatKind.f64.format.read (x % 9223372036854775808) = .number false m i := by
    obtain ⟨s1, s2, s3, s4⟩ := f64_facts
    have hz : x % 9223372036854775808 / 9223372036854775808 % 2 = 0 := by omega
    unfold Ieee.Format.read
    simp only [s1, s2, s3, s4, hz, Nat.mod_mod]
    by_cases h1 : x % 9223372036854775808 < 4503599627370496
    · exact ⟨_, _, Int.le_refl _, by rw [if_pos h1]; rfl⟩
    · refine ⟨_, _, ?_, by rw [if_neg h1, if_pos hr]; rfl⟩
      omega
  have r0 : FloatKind.f64.format.read 0 = .number false 0 (-1074) := by decide
  unfold sizeF
  cases hb : x.testBit 63 with
  | false =>
    have e := read_sign x
    rw [hb, if_neg (by simp), hd] at e
    have ho : (FloatKind.f64.format.order x 0 == some .lt) = false := by
      unfold Ieee.Format.order
      rw [e, r0]
      simp only [Ieee.Datum.order, signed_zero]
      have := signed_nonneg m (i - min i (-1074)).toNat
      generalize Ieee.signed false m (i - min i (-1074)).toNat = z at *
      simp only [compare, compareOfLessAndEq, if_neg this]
      split <;> rfl
    rw [ho, if_neg (by simp)]
    exact ⟨false, m, i, e, hd, fun h => by cases h⟩
  | true =>
    have e := read_sign x
    rw [hb, if_pos rfl, hd] at e
    by_cases hm : m = 0
    · subst hm
      have ho : (FloatKind.f64.format.order x 0 == some .lt) = false := by
        unfold Ieee.Format.order
        rw [e, r0]
        simp only [Ieee.Datum.opposite, Ieee.Datum.order, signed_zero]
        rfl
      rw [ho, if_neg (by simp)]
      exact ⟨_, 0, i, e, hd, fun _ => rfl⟩
    · have ho : (FloatKind.f64.format.order x 0 == some .lt) = true := by
        unfold Ieee.Format.order
        rw [e, r0]
        simp only [Ieee.Datum.opposite, Ieee.Datum.order, signed_zero]
        have := signed_neg hm (i - min i (-1074)).toNat
        rw [Bool.not_false]
        generalize Ieee.signed true m (i - min i (-1074)).toNat = z at *
        simp only [compare, compareOfLessAndEq, if_pos this]
        rfl
      rw [ho, if_pos rfl]
      have e' := read_sign (Op.negFloat .f64 x)
      rw [neg_testBit, neg_mod, hb, if_neg (by simp), hd] at e'
      exact ⟨false, m, i, e', hd, fun h => by cases h⟩

theorem signed_pos {s : Bool} {m : Nat} (h : s = true → m = 0) (u : Nat) : Ieee.signed s m u = Ieee.signed false m u := by
  cases s with
  | false => rfl
  | true => rw [h rfl, signed_zero, signed_zero]

theorem order_abs (x y : Nat) (hx : finB x = true) (hy : finB y = true) : FloatKind.f64.format.order (x % 9223372036854775808) (y % 9223372036854775808) = FloatKind.f64.format.order (sizeF x) (sizeF y) := by
  obtain ⟨s, m, i, h1, h2, h3⟩ := read_abs x hx
  obtain ⟨t, n, j, k1, k2, k3⟩ := read_abs y hy
  unfold Ieee.Format.order
  rw [h1, h2, k1, k2]
  simp only [Ieee.Datum.order, signed_pos h3, signed_pos k3]

/-- The answer of an operation fits its size. -/
theorem cut_lt (k : FloatKind) (x y t : Nat) : (Question.nanBits k x y).cut t < 2 ^ k.format.width := by
  cases k
  · show (t % 2) * 2 ^ 31 + 0x7f800000 + 1 + (t / 2) % (2 ^ 23 - 1) < _
    have h1 : (t / 2) % (2 ^ 23 - 1) < 2 ^ 23 - 1 := Nat.mod_lt _ (by decide)
    rw [show (2 : Nat) ^ FloatKind.f32.format.width = 4294967296 by decide]
    generalize (t / 2) % (2 ^ 23 - 1) = u at *
    omega
  · show (t % 2) * 2 ^ 63 + 0x7ff0000000000000 + 1 + (t / 2) % (2 ^ 52 - 1) < _
    have h1 : (t / 2) % (2 ^ 52 - 1) < 2 ^ 52 - 1 := Nat.mod_lt _ (by decide)
    rw [show (2 : Nat) ^ FloatKind.f64.format.width = 18446744073709551616 by decide]
    generalize (t / 2) % (2 ^ 52 - 1) = u at *
    omega

theorem run_float_wf {P : Program} (w : World) (op : BinOp) (hop : op = .add ∨ op = .sub ∨ op = .mul ∨ op = .quo) (t : TypeId) (k : FloatKind) (x y : Nat) :
    ∃ r n, (binOp op t (.float k x) (.float k y)).run P w = .ok (.float k r) (w.drewN n) ∧ fsame k r (fop op k x y) ∧ r < 2 ^ k.format.width := by
  cases h : floatBits op k x y with
  | some r =>
    refine ⟨r, 0, run_float_arith w op t k x y r h, Or.inl (by simp [fop, h]), ?_⟩
    rcases hop with rfl | rfl | rfl | rfl <;> simp only [floatBits] at h
    · exact Ieee.Format.add_lt _ h
    · exact Ieee.Format.sub_lt _ h
    · exact Ieee.Format.mul_lt _ h
    · exact Ieee.Format.div_lt _ h
  | none =>
    refine ⟨(Question.nanBits k x y).cut (w.tape w.drawn (.nanBits k x y)), 1, ?_, Or.inr ⟨cut_nan k x y _, by simp only [fop, h]; exact qnan_nan k⟩, cut_lt _ _ _ _⟩
    rcases hop with rfl | rfl | rfl | rfl <;> (simp only [floatBits] at h; simp [binOp, Op.floatArith, h, Question.forced]; rfl)

/-- The operation on float64, its answer of 64 bits. -/
theorem wpList_float64 {P : Program} {ops : Array Oper} {Q : Exit → Act → World → Prop} {rest : List Oper} {o : Oper} {a : Act} {w : World} (hgd : o.guard = none) (op : BinOp) (t t' : TypeId) (s x : Operand) (ho : o.op = .binOp op t s x t') (hop' : isArith op = true)
    (b1 b2 : Nat) (hs : a.eval s = .float .f64 b1) (hx : a.eval x = .float .f64 b2) (h : ∀ r n, fsame .f64 r (fop op .f64 b1 b2) → r < 18446744073709551616 → wpList P ops Q rest (a.put o.dst (.float .f64 r)) (w.drewN n)) : wpList P ops Q (o :: rest) a w := by
  have hop := isArith_or hop'
  refine wpList_plain hgd fun K hK => ?_
  obtain ⟨r, n, hr, hsame, hlt⟩ := run_float_wf (P := P) w op hop t .f64 b1 b2
  have hg : (eqGuard op t s x (.float .f64 b1) (.float .f64 b2)).run P w = .ok () w := by rcases hop with rfl | rfl | rfl | rfl <;> simp [eqGuard]
  unfold Oper.wp execOp
  rw [ho]
  simp only [hs, hx, Sem.run_bind, hg, hr, Result.andThen_ok, Sem.run_pure]
  exact hK _ _ (h r n hsame hlt)

end Go.Proofs.Ytokmkhflfbkgjaa

/- Boxes in numbers: what a letter counts, the digit that is told, names, what keeps apart. No statement about the program stands here. -/
import Derived.Test.YtnfdokcpjcnknaaRBox
import Derived.Test.YtnfdokcpjcnknaaWalkD
namespace Go.Proofs.Ytnfdokcpjcnknaa
open Go.RowKit

/-- What the letter with number k counts. -/
def ltr (k : Nat) : Int := 10 + (k : Int) + (((k + 9) / 10 : Nat) : Int)
/-- What the sign b counts as a letter. -/
def letV (b : Int) : Int := if 65 ≤ b ∧ b ≤ 90 then ltr (b - 65).toNat else -1
/-- What the sign b counts at place i; below 0: it may not stand there. -/
def sgB (b : Int) (i : Nat) : Int := if i < 4 then letV b else (if 48 ≤ b ∧ b ≤ 57 then b - 48 else -1)
def byt (s : ByteArray) (i : Nat) : Int := ((s.get! i).toNat : Int)
def cdSum (s : ByteArray) : Nat → Int
  | 0 => 0
  | i + 1 => cdSum s i + sgB (byt s i) i * 2 ^ i
def cd (s : ByteArray) : Int := if s.size = 10 ∧ ∀ i, i < 10 → 0 ≤ sgB (byt s i) i then cdSum s 10 % 11 % 10 else -1

theorem byt_bd (s : ByteArray) (i : Nat) : 0 ≤ byt s i ∧ byt s i < 256 := by
  have := (s.get! i).toNat_lt
  unfold byt
  omega
theorem byt_eq (s : ByteArray) (i : Nat) (h : i < s.size) : ((s[i]'h).toNat : Int) = byt s i := by
  unfold byt
  congr 2
  simp [ByteArray.get!, h]
  rfl
theorem cd_len {s : ByteArray} (h : s.size ≠ 10) : cd s = -1 := by
  rw [cd, if_neg]
  exact fun h' => h h'.1
theorem cd_bad {s : ByteArray} {i : Nat} (hi : i < 10) (h : sgB (byt s i) i < 0) : cd s = -1 := by
  rw [cd, if_neg]
  intro h'
  have := h'.2 i hi
  omega
theorem cd_all {s : ByteArray} (h : s.size = 10) (ha : ∀ i, i < 10 → 0 ≤ sgB (byt s i) i) : cd s = cdSum s 10 % 11 % 10 := by
  rw [cd, if_pos ⟨h, ha⟩]
theorem sgB_bd (b : Int) (i : Nat) : -1 ≤ sgB b i ∧ sgB b i ≤ 38 := by
  unfold sgB letV ltr
  split <;> split <;> omega
theorem cdSum_bd {s : ByteArray} : ∀ i, i ≤ 10 → (∀ r, r < i → 0 ≤ sgB (byt s r) r) → 0 ≤ cdSum s i ∧ cdSum s i ≤ 38 * 2 ^ i
  | 0, _, _ => by simp [cdSum]
  | i + 1, hi, h => by
    have ih := cdSum_bd i (by omega) fun r hr => h r (by omega)
    have hb := sgB_bd (byt s i) i
    have h0 := h i (by omega)
    have hp : (0 : Int) < 2 ^ i := Int.pow_pos (by omega)
    rw [cdSum, Int.pow_succ]
    generalize sgB (byt s i) i = x at *
    generalize (2 : Int) ^ i = p at *
    have h1 : 0 ≤ x * p := Int.mul_nonneg h0 (by omega)
    have h2 : x * p ≤ 38 * p := Int.mul_le_mul_of_nonneg_right (by omega) (by omega)
    omega
theorem pow_le10 {i : Nat} (h : i < 10) : (2 : Int) ^ i ≤ 512 ∧ 1 ≤ (2 : Int) ^ i := by
  have : i = 0 ∨ i = 1 ∨ i = 2 ∨ i = 3 ∨ i = 4 ∨ i = 5 ∨ i = 6 ∨ i = 7 ∨ i = 8 ∨ i = 9 := by omega
  rcases this with h | h | h | h | h | h | h | h | h | h <;> subst h <;> decide
theorem cd_bd (s : ByteArray) : -1 ≤ cd s ∧ cd s ≤ 9 := by
  unfold cd
  split <;> omega

/-- A box's name. -/
def bnB (t : ByteArray) : Bool := decide (t.size = 11 ∧ 0 ≤ cd (t.extract 0 10) ∧ byt t 10 = 48 + cd (t.extract 0 10))
theorem bn_len {t : ByteArray} (h : t.size ≠ 11) : bnB t = false := by
  simp only [bnB, decide_eq_false_iff_not]
  exact fun h' => h h'.1

/-- A box. -/
def boxB (n : ByteArray) (wt cl fr to : Int) : Bool := bnB n && inB wt 1 40000 && inB cl 0 9 && decide (0 ≤ fr ∧ fr < to ∧ to ≤ 19)
def boxT (x : BoxT) : Bool := boxB x.1 x.2.1 x.2.2.1 x.2.2.2.2.1 x.2.2.2.2.2

/-- What two classes ask for. -/
def apV (a b : Int) : Int := if inB a 0 9 = true ∧ inB b 0 9 = true then (if a = 0 ∨ b = 0 ∨ a = b then 0 else if a = 1 ∨ b = 1 then 3 else if a * b % 6 = 0 then 2 else if (a + b) % 2 = 1 then 1 else 0) else -1

theorem apV_out {a b : Int} (h : inB a 0 9 = false ∨ inB b 0 9 = false) : apV a b = -1 := by
  rw [apV, if_neg]
  rintro ⟨h1, h2⟩
  rcases h with h | h
  · rw [h] at h1; cases h1
  · rw [h] at h2; cases h2
theorem apV_in {a b : Int} (h1 : inB a 0 9 = true) (h2 : inB b 0 9 = true) : apV a b = if a = 0 ∨ b = 0 ∨ a = b then 0 else if a = 1 ∨ b = 1 then 3 else if a * b % 6 = 0 then 2 else if (a + b) % 2 = 1 then 1 else 0 := by
  rw [apV, if_pos ⟨h1, h2⟩]
theorem prod_bd {a b : Int} (h1 : inB a 0 9 = true) (h2 : inB b 0 9 = true) : 0 ≤ a * b ∧ a * b ≤ 81 := by
  have h3 := inB_true h1
  have h4 := inB_true h2
  have h5 : 0 ≤ a * b := Int.mul_nonneg h3.1 h4.1
  have h6 : a * b ≤ 9 * b := Int.mul_le_mul_of_nonneg_right h3.2 h4.1
  omega

/-- A spot. -/
def spotB (x y z : Int) : Bool := inB x 0 19 && inB y 0 19 && inB z 0 19
/-- Whether what their classes ask for is kept, spots that are as far apart. -/
def keptB (v p q r : Int) : Bool := decide (v = 0 ∨ (v = 1 ∧ p + q + r ≠ 1) ∨ (v = 2 ∧ 2 ≤ p))
def keepB (a b : Bool) (ca cb x y z x' y' z' : Int) : Bool :=
  a && b && spotB x y z && spotB x' y' z' && !(decide (x = x' ∧ y = y' ∧ z = z')) && keptB (apV ca cb) (((x - x').natAbs : Int)) (((y - y').natAbs : Int)) (((z - z').natAbs : Int))

end Go.Proofs.Ytnfdokcpjcnknaa

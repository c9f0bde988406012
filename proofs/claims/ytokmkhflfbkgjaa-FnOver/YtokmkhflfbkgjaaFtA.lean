/- FnStrip in numbers: a strip of a quarter turn adds whole numbers in four directions; energies of whole numbers add up by their squares. No statement about the program stands here. -/
import Derived.Test.YtokmkhflfbkgjaaFlM
import Derived.Test.YtokmkhflfbkgjaaFlN
namespace Go.Proofs.Ytokmkhflfbkgjaa
open Go.RowKit

theorem isI.fop_add {k : FloatKind} {x y : Nat} {m n : Int} (hx : isI k x m) (hy : isI k y n) (hb : (m + n).natAbs < 16777216) : isI k (fop .add k x y) (m + n) := by
  obtain ⟨r, h, hr⟩ := hx.add hy hb
  unfold fop; rw [h]; exact hr
theorem isI.fop_sub {k : FloatKind} {x y : Nat} {m n : Int} (hx : isI k x m) (hy : isI k y n) (hb : (m - n).natAbs < 16777216) : isI k (fop .sub k x y) (m - n) := by
  obtain ⟨r, h, hr⟩ := hx.sub hy hb
  unfold fop; rw [h]; exact hr
theorem isI.fop_mul {k : FloatKind} {x y : Nat} {m n : Int} (hx : isI k x m) (hy : isI k y n) (hb : (m * n).natAbs < 16777216) : isI k (fop .mul k x y) (m * n) := by
  obtain ⟨r, h, hr⟩ := hx.mul hy hb
  unfold fop; rw [h]; exact hr

theorem isI.notnan {k : FloatKind} {b : Nat} {n : Int} (h : isI k b n) : ¬ fnan k b := by
  obtain ⟨s, q, hd, _⟩ := h
  unfold fnan
  rw [hd]
  simp [Ieee.Datum.isNaN]
/-- A float that is the same as one that stands for a whole number is it. -/
theorem isI.same {k : FloatKind} {b r : Nat} {n : Int} (h : isI k b n) (hr : fsame k r b) : r = b := by
  rcases hr with h1 | ⟨_, h2⟩
  · exact h1
  · exact absurd h2 h.notnan

abbrev half64 : Nat := 4602678819172646912
theorem isI_0 : isI .f64 0 0 := ⟨false, 1074, by decide +kernel, fun h => absurd rfl h⟩
theorem isI_one : isI .f64 one64 1 := ⟨false, 52, by decide +kernel, fun _ => rfl⟩
theorem isI_two : isI .f64 two64 2 := ⟨false, 51, by decide +kernel, fun _ => rfl⟩

theorem read_half : ∃ p, FloatKind.f64.format.read half64 = .number false p (-53) ∧ p = 2 ^ 52 := ⟨4503599627370496, by decide +kernel, by decide⟩

theorem isI.fop_half {x : Nat} {n : Int} (hx : isI .f64 x (n * 2)) (hb : n.natAbs < 16777216) : isI .f64 (fop .mul .f64 x half64) n := by
  obtain ⟨s, a, ea, hs⟩ := hx
  obtain ⟨p, eb, ep⟩ := read_half
  generalize half64 = hf at *
  unfold FloatKind.decode at ea
  have hu : n ≠ 0 → (s ^^ false) = decide (n < 0) := fun h => by
    rw [hs (by omega), Bool.xor_false]
    by_cases h1 : n < 0
    · rw [decide_eq_true h1, decide_eq_true (by omega)]
    · rw [decide_eq_false h1, decide_eq_false (by omega)]
  have e1 : (n * 2).natAbs * 2 ^ a * p = n.natAbs * 2 ^ (a + 53) := by
    rw [Int.natAbs_mul, Nat.pow_add, Nat.pow_succ 2 52, ← ep]
    generalize (2 : Nat) ^ a = q
    generalize n.natAbs = m
    show m * 2 * q * p = m * (q * (p * 2))
    grind
  have e2 : -(a : Int) + (-53) = -((a + 53 : Nat) : Int) := by omega
  obtain ⟨r, h1, h2⟩ : ∃ r, floatBits .mul .f64 x hf = some r ∧ isI .f64 r n := ⟨_, by simp only [floatBits, Ieee.Format.mul, ea, eb, Ieee.Datum.product, e1, e2, Option.map_some]; rfl, isI_enc .f64 _ n (a + 53) hb hu⟩
  unfold fop
  rw [h1]
  exact h2

/-- Where a quarter turn stands. -/
def ph : Nat → Int × Int
  | 0 => (1, 0)
  | k + 1 => (-(ph k).2, (ph k).1)
theorem ph_at (k : Nat) : (k % 4 = 0 → ph k = (1, 0)) ∧ (k % 4 = 1 → ph k = (0, 1)) ∧ (k % 4 = 2 → ph k = (-1, 0)) ∧ (k % 4 = 3 → ph k = (0, -1)) := by
  induction k with
  | zero => exact ⟨fun _ => rfl, fun h => by omega, fun h => by omega, fun h => by omega⟩
  | succ k ih =>
    obtain ⟨h0, h1, h2, h3⟩ := ih
    refine ⟨fun h => ?_, fun h => ?_, fun h => ?_, fun h => ?_⟩
    · simp [ph, h3 (show k % 4 = 3 by omega)]
    · simp [ph, h0 (show k % 4 = 0 by omega)]
    · simp [ph, h1 (show k % 4 = 1 by omega)]
    · simp [ph, h2 (show k % 4 = 2 by omega)]
theorem ph_cases (k : Nat) : ph k = (1, 0) ∨ ph k = (0, 1) ∨ ph k = (-1, 0) ∨ ph k = (0, -1) := by
  obtain ⟨h0, h1, h2, h3⟩ := ph_at k
  have : k % 4 = 0 ∨ k % 4 = 1 ∨ k % 4 = 2 ∨ k % 4 = 3 := by omega
  rcases this with h | h | h | h
  · exact Or.inl (h0 h)
  · exact Or.inr (Or.inl (h1 h))
  · exact Or.inr (Or.inr (Or.inl (h2 h)))
  · exact Or.inr (Or.inr (Or.inr (h3 h)))

def reT (X : List Int) : Nat → Int
  | 0 => 0
  | k + 1 => reT X k + X.getD k 0 * (ph k).1
def imT (X : List Int) : Nat → Int
  | 0 => 0
  | k + 1 => imT X k + X.getD k 0 * (ph k).2
def sqT (X : List Int) : Nat → Int
  | 0 => 0
  | k + 1 => sqT X k + X.getD k 0 * X.getD k 0
/-- What came before does not hang on what comes behind. -/
theorem reT_app (X Y : List Int) : ∀ k, k ≤ X.length → reT (X ++ Y) k = reT X k
  | 0, _ => rfl
  | k + 1, h => by rw [reT, reT, reT_app X Y k (by omega), show (X ++ Y).getD k 0 = X.getD k 0 by simp [List.getD, List.getElem?_append, show k < X.length by omega]]
theorem imT_app (X Y : List Int) : ∀ k, k ≤ X.length → imT (X ++ Y) k = imT X k
  | 0, _ => rfl
  | k + 1, h => by rw [imT, imT, imT_app X Y k (by omega), show (X ++ Y).getD k 0 = X.getD k 0 by simp [List.getD, List.getElem?_append, show k < X.length by omega]]
theorem sqT_app (X Y : List Int) : ∀ k, k ≤ X.length → sqT (X ++ Y) k = sqT X k
  | 0, _ => rfl
  | k + 1, h => by rw [sqT, sqT, sqT_app X Y k (by omega), show (X ++ Y).getD k 0 = X.getD k 0 by simp [List.getD, List.getElem?_append, show k < X.length by omega]]

/-- Numbers as FnStrip draws them. -/
def xOk (X : List Int) : Prop := X.length ≤ 20 ∧ ∀ x ∈ X, -128 ≤ x ∧ x ≤ 127
theorem xOk_at {X : List Int} (h : xOk X) (k : Nat) : -128 ≤ X.getD k 0 ∧ X.getD k 0 ≤ 127 := by
  by_cases hk : k < X.length
  · exact h.2 _ (by rw [show X.getD k 0 = X[k] by simp [List.getD, hk]]; exact List.getElem_mem _)
  · simp [List.getD, hk]

theorem re_bd {X : List Int} (h : xOk X) (k : Nat) : -128 * (k : Int) ≤ reT X k ∧ reT X k ≤ 128 * (k : Int) := by
  induction k with
  | zero => simp [reT]
  | succ k ih =>
    have hx := xOk_at h k
    rw [reT]
    rcases ph_cases k with e | e | e | e <;> rw [e] <;> dsimp only <;> omega
theorem im_bd {X : List Int} (h : xOk X) (k : Nat) : -128 * (k : Int) ≤ imT X k ∧ imT X k ≤ 128 * (k : Int) := by
  induction k with
  | zero => simp [imT]
  | succ k ih =>
    have hx := xOk_at h k
    rw [imT]
    rcases ph_cases k with e | e | e | e <;> rw [e] <;> dsimp only <;> omega
theorem sq_le {x : Int} (h0 : -128 ≤ x) (h1 : x ≤ 127) : 0 ≤ x * x ∧ x * x ≤ 16384 := by
  have e0 : 0 ≤ x * x := by
    rcases Int.le_total 0 x with h | h
    · exact Int.mul_nonneg h h
    · exact Int.mul_nonneg_of_nonpos_of_nonpos h h
  have e : (x * x).natAbs = x.natAbs * x.natAbs := Int.natAbs_mul x x
  have h : x.natAbs ≤ 128 := by omega
  have := Nat.mul_le_mul h h
  omega
theorem sq_bd {X : List Int} (h : xOk X) (k : Nat) : 0 ≤ sqT X k ∧ sqT X k ≤ 16384 * (k : Int) := by
  induction k with
  | zero => simp [sqT]
  | succ k ih =>
    have hx := xOk_at h k
    have := sq_le hx.1 hx.2
    rw [sqT]
    omega

/-- The whole numbers as floats. -/
def flI (X : List Int) : List Nat := X.map (floatOfInt .f64)
theorem flI_length (X : List Int) : (flI X).length = X.length := by simp [flI]
theorem flI_at {X : List Int} (h : xOk X) {k : Nat} (hk : k < X.length) : isI .f64 ((flI X).getD k 0) (X.getD k 0) := by
  have hx := xOk_at h k
  rw [show (flI X).getD k 0 = floatOfInt .f64 (X.getD k 0) by simp [flI, List.getD, hk]]
  exact isI_int .f64 _ (by omega)

theorem strip_isI {X : List Int} (h : xOk X) : ∀ k, k ≤ X.length → isI .f64 (stripTo 0 one64 ((flI X).take k)).sr (reT X k) ∧ isI .f64 (stripTo 0 one64 ((flI X).take k)).si (imT X k) ∧ isI .f64 (stripTo 0 one64 ((flI X).take k)).pr (ph k).1 ∧ isI .f64 (stripTo 0 one64 ((flI X).take k)).pi (ph k).2
  | 0, _ => ⟨isI_0, isI_0, isI_one, isI_0⟩
  | k + 1, hk => by
    obtain ⟨h1, h2, h3, h4⟩ := strip_isI h k (by omega)
    have hl := h.1
    rw [stripTo_snoc 0 one64 (flI X) (by rw [flI_length]; omega)]
    have hx := flI_at h (show k < X.length by omega)
    have xb := xOk_at h k
    have rb := re_bd h (k + 1)
    have ib := im_bd h (k + 1)
    rw [reT] at rb
    rw [imT] at ib
    generalize stripTo 0 one64 ((flI X).take k) = s at *
    unfold SP.step
    dsimp only
    have m1 : (X.getD k 0 * (ph k).1).natAbs < 16777216 := by rcases ph_cases k with e | e | e | e <;> rw [e] <;> dsimp only <;> omega
    have m2 : (X.getD k 0 * (ph k).2).natAbs < 16777216 := by rcases ph_cases k with e | e | e | e <;> rw [e] <;> dsimp only <;> omega
    refine ⟨?_, ?_, ?_, ?_⟩
    · rw [reT]; exact h1.fop_add (hx.fop_mul h3 m1) (by omega)
    · rw [imT]; exact h2.fop_add (hx.fop_mul h4 m2) (by omega)
    · have a1 := h3.fop_mul isI_0 (by simp)
      have a2 := h4.fop_mul isI_one (by rcases ph_cases k with e | e | e | e <;> rw [e] <;> decide)
      have a3 := a1.fop_sub a2 (by rcases ph_cases k with e | e | e | e <;> rw [e] <;> decide)
      rw [show (ph k).1 * 0 - (ph k).2 * 1 = (ph (k + 1)).1 by rw [ph]; dsimp only; omega] at a3
      exact a3
    · have a1 := h3.fop_mul isI_one (by rcases ph_cases k with e | e | e | e <;> rw [e] <;> decide)
      have a2 := h4.fop_mul isI_0 (by simp)
      have a3 := a1.fop_add a2 (by rcases ph_cases k with e | e | e | e <;> rw [e] <;> decide)
      rw [show (ph k).1 * 1 + (ph k).2 * 0 = (ph (k + 1)).2 by rw [ph]; dsimp only; omega] at a3
      exact a3

/-- The replies and the heights of FnStrip. -/
def repI (X : List Int) : List F2 := X.map fun x => (0, floatOfInt .f64 x)
def twos (n : Nat) : List Nat := List.replicate n two64
theorem energy_isI {X : List Int} (h : xOk X) : ∀ k, k ≤ X.length → isI .f64 (enTo (repI X) (twos X.length) half64 k) (sqT X k)
  | 0, _ => isI_0
  | k + 1, hk => by
    have ih := energy_isI h k (by omega)
    have hl := h.1
    have hx := flI_at h (show k < X.length by omega)
    have xb := xOk_at h k
    have xs := sq_le xb.1 xb.2
    have sb := sq_bd h (k + 1)
    rw [sqT] at sb
    rw [enTo, sqT, show (repI X).getD k default = (0, (flI X).getD k 0) by simp [repI, flI, List.getD, show k < X.length by omega], show (twos X.length).getD k 0 = two64 by simp [twos, List.getD, show k < X.length by omega]]
    unfold enStep
    dsimp only
    have a1 := (isI_0.fop_mul isI_0 (by decide)).fop_add (hx.fop_mul hx (by omega)) (by omega)
    rw [show (0 : Int) * 0 + X.getD k 0 * X.getD k 0 = X.getD k 0 * X.getD k 0 by omega] at a1
    have a2 := a1.fop_mul isI_two (by omega)
    exact ih.fop_add (isI.fop_half a2 (by omega)) (by omega)

end Go.Proofs.Ytokmkhflfbkgjaa

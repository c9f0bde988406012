/- Quarters as floats of 64 bits; FnTides in numbers: phases that do not turn, that turn by a quarter, heights in quarters, and where a turned tide is highest or lowest. No statement about the program stands here. -/
import Derived.Test.YtglehiakikhlaaaFlD
import Derived.Test.YtglehiakikhlaaaFlC
import Derived.Test.YtglehiakikhlaaaTdI
import Derived.Test.YtglehiakikhlaaaFlH
namespace Go.Proofs.Ytglehiakikhlaaa
open Go.RowKit

section
open Ieee

/-- The float of 64 bits stands for n quarters (a 0 of either sign). -/
def isD (b : Nat) (n : Int) : Prop := ∃ (s : Bool) (q : Nat), FloatKind.f64.decode b = .number s (n.natAbs * 2 ^ q) (-(q : Int) - 2) ∧ (n ≠ 0 → s = decide (n < 0))

theorem read_norm (f : Format) (b : Nat) (s : Bool) (mag : Nat) (place : Int) (h : f.read b = .number s mag place) : place = f.leastPlace ∨ f.binade ≤ mag := by
  unfold Format.read at h
  dsimp only at h
  split at h
  · simp only [Datum.number.injEq] at h
    exact Or.inl h.2.2.symm
  · split at h
    · simp only [Datum.number.injEq] at h
      exact Or.inr (by omega)
    · split at h <;> cases h

theorem isI.up {b : Nat} {n : Int} (h : isI .f64 b n) (hn : n.natAbs < 16777216) : isD b (4 * n) := by
  obtain ⟨s, q, hd, hs⟩ := h
  have h2 : 2 ≤ q := by
    rcases read_norm FloatKind.f64.format b s _ _ hd with e | e
    · have : FloatKind.f64.format.leastPlace = -1074 := by decide
      omega
    · have hb : FloatKind.f64.format.binade = 4503599627370496 := by decide
      rw [hb] at e
      apply Classical.byContradiction
      intro hq
      have : q = 0 ∨ q = 1 := by omega
      rcases this with rfl | rfl <;> omega
  obtain ⟨p, rfl⟩ : ∃ p, q = p + 2 := ⟨q - 2, by omega⟩
  refine ⟨s, p, ?_, fun h0 => ?_⟩
  · rw [hd]
    congr 1
    · rw [Int.natAbs_mul, Nat.pow_add]
      have : (4 : Int).natAbs = 4 := rfl
      rw [this]
      generalize 2 ^ p = t
      generalize n.natAbs = m
      show m * (t * 4) = 4 * m * t
      grind
    · omega
  · rw [hs (by omega)]
    by_cases h1 : n < 0
    · rw [decide_eq_true h1, decide_eq_true (by omega)]
    · rw [decide_eq_false h1, decide_eq_false (by omega)]

theorem isD_enc (s : Bool) (n : Int) (t : Nat) (hn : n.natAbs < 16777216) (hs : n ≠ 0 → s = decide (n < 0)) : isD (FloatKind.f64.encode (.number s (n.natAbs * 2 ^ t) (-(t : Int) - 2))) n := by
  by_cases h0 : n = 0
  · subst h0
    have e : FloatKind.f64.encode (.number s ((0 : Int).natAbs * 2 ^ t) (-(t : Int) - 2)) = FloatKind.f64.encode (.number s 0 0) := by
      simp [FloatKind.encode, Format.write, Format.nearest]
    rw [e]
    obtain ⟨d, hd⟩ : ∃ d : Nat, d = 1072 := ⟨_, rfl⟩
    refine ⟨s, d, ?_, fun h => absurd rfl h⟩
    rw [read_enc_zero]
    have : FloatKind.f64.format.leastPlace = -1074 := by decide
    rw [this, show -(d : Int) - 2 = -1074 by omega]
    simp
  · have hp : 0 < n.natAbs := by omega
    have hf : FloatKind.f64.format.fractionBits = 52 := by decide
    have hlp : FloatKind.f64.format.leastPlace = -1074 := by decide
    have hb : n.natAbs < 2 ^ (FloatKind.f64.format.fractionBits + 1) := by rw [hf]; omega
    have e : FloatKind.f64.encode (.number s (n.natAbs * 2 ^ t) (-(t : Int) - 2)) = FloatKind.f64.format.nearest s n.natAbs (-2) := by
      show FloatKind.f64.format.nearest s (n.natAbs * 2 ^ t) (-(t : Int) - 2) = _
      have := nearest_scale FloatKind.f64.format s n.natAbs t (-2) hp hb (by rw [hlp]; omega)
      rw [show (-2 : Int) - (t : Int) = -(t : Int) - 2 by omega] at this
      exact this
    have hl : n.natAbs.log2 < 24 := (Nat.log2_lt (by omega)).2 (by simpa using hn)
    have hx : (2 ^ FloatKind.f64.format.exponentBits - 1 : Nat) = 2047 := by decide
    have hr := read_nearest FloatKind.f64.format s n.natAbs (-2) hp hb (by rw [hlp]; omega) (by rw [hf, hlp, hx]; omega) (by rw [hx]; omega)
    rw [e]
    have hle : lastP FloatKind.f64.format n.natAbs (-2) ≤ -2 := by
      unfold lastP
      rw [hf, hlp]
      omega
    refine ⟨s, (-2 - lastP FloatKind.f64.format n.natAbs (-2)).toNat, ?_, hs⟩
    show FloatKind.f64.format.read _ = _
    rw [hr]
    congr 1
    omega

theorem sum_isD {m n : Int} {s t : Bool} {a b : Nat} (hs : m ≠ 0 → s = decide (m < 0)) (ht : n ≠ 0 → t = decide (n < 0)) :
    ∃ (u : Bool) (c : Nat), (Datum.number s (m.natAbs * 2 ^ a) (-(a : Int) - 2)).sum (.number t (n.natAbs * 2 ^ b) (-(b : Int) - 2)) = some (.number u ((m + n).natAbs * 2 ^ c) (-(c : Int) - 2)) ∧ (m + n ≠ 0 → u = decide (m + n < 0)) := by
  obtain ⟨c, ec⟩ : ∃ c : Nat, (c : Int) = max (a : Int) b := ⟨max a b, by omega⟩
  have hbase : min (-(a : Int) - 2) (-(b : Int) - 2) = -(c : Int) - 2 := by omega
  have h1 : (-(a : Int) - 2 - (-(c : Int) - 2)).toNat = c - a := by omega
  have h2 : (-(b : Int) - 2 - (-(c : Int) - 2)).toNat = c - b := by omega
  have hca : a + (c - a) = c := by omega
  have hcb : b + (c - b) = c := by omega
  simp only [Datum.sum, hbase, h1, h2]
  rw [signed_eq m s a (c - a) hs, signed_eq n t b (c - b) ht, hca, hcb, ← Int.add_mul]
  have hp : 0 < ((2 ^ c : Nat) : Int) := by have := Nat.two_pow_pos c; omega
  refine ⟨_, c, by rw [Int.natAbs_mul, Int.natAbs_natCast], fun h => ?_⟩
  have hne : (m + n) * ((2 ^ c : Nat) : Int) ≠ 0 := Int.mul_ne_zero h (by omega)
  rw [if_neg hne, decide_eq_decide]
  constructor
  · intro hlt
    apply Classical.byContradiction
    intro hge
    have := Int.mul_nonneg (show 0 ≤ m + n by omega) (show 0 ≤ ((2 ^ c : Nat) : Int) by omega)
    omega
  · intro hlt
    exact Int.mul_neg_of_neg_of_pos hlt hp

theorem isD.add {x y : Nat} {m n : Int} (hx : isD x m) (hy : isD y n) (hb : (m + n).natAbs < 16777216) : ∃ r, floatBits .add .f64 x y = some r ∧ isD r (m + n) := by
  obtain ⟨s, a, ea, hs⟩ := hx
  obtain ⟨t, b, eb, ht⟩ := hy
  unfold FloatKind.decode at ea eb
  obtain ⟨u, c, e, hu⟩ := sum_isD (a := a) (b := b) hs ht
  exact ⟨_, by simp only [floatBits, Format.add, ea, eb, e, Option.map_some]; rfl, isD_enc u (m + n) c hb hu⟩

theorem isD.sub {x y : Nat} {m n : Int} (hx : isD x m) (hy : isD y n) (hb : (m - n).natAbs < 16777216) : ∃ r, floatBits .sub .f64 x y = some r ∧ isD r (m - n) := by
  obtain ⟨s, a, ea, hs⟩ := hx
  obtain ⟨t, b, eb, ht⟩ := hy
  unfold FloatKind.decode at ea eb
  have ht' : -n ≠ 0 → (!t) = decide (-n < 0) := fun h => by
    rw [ht (by omega)]
    by_cases h0 : n < 0
    · rw [decide_eq_true h0, decide_eq_false (by omega)]; rfl
    · rw [decide_eq_false h0, decide_eq_true (by omega)]; rfl
  obtain ⟨u, c, e, hu⟩ := sum_isD (a := a) (b := b) hs ht'
  rw [Int.natAbs_neg, show m + -n = m - n by omega] at e
  rw [show m + -n = m - n by omega] at hu
  exact ⟨_, by simp only [floatBits, Format.sub, ea, eb, Datum.opposite, e, Option.map_some]; rfl, isD_enc u (m - n) c hb hu⟩

/-- Twice. -/
theorem isD.twice {x y : Nat} {n : Int} (hx : isI .f64 x 2) (hy : isD y n) (hb : (2 * n).natAbs < 16777216) : ∃ r, floatBits .mul .f64 x y = some r ∧ isD r (2 * n) := by
  obtain ⟨s, a, ea, hs⟩ := hx
  obtain ⟨t, b, eb, ht⟩ := hy
  unfold FloatKind.decode at ea eb
  have hu : 2 * n ≠ 0 → (s ^^ t) = decide (2 * n < 0) := fun h => by
    rw [hs (by omega), ht (by omega)]
    by_cases h1 : n < 0
    · rw [decide_eq_true h1, decide_eq_true (show 2 * n < 0 by omega)]; rfl
    · rw [decide_eq_false h1, decide_eq_false (show ¬ 2 * n < 0 by omega)]; rfl
  have e1 : (2 : Int).natAbs * 2 ^ a * (n.natAbs * 2 ^ b) = (2 * n).natAbs * 2 ^ (a + b) := by rw [Int.natAbs_mul, Nat.pow_add]; grind
  have e2 : -(a : Int) + (-(b : Int) - 2) = -((a + b : Nat) : Int) - 2 := by omega
  exact ⟨_, by simp only [floatBits, Format.mul, ea, eb, Datum.product, e1, e2, Option.map_some]; rfl, isD_enc _ (2 * n) (a + b) hb hu⟩

theorem isD.order {x y : Nat} {m n : Int} (hx : isD x m) (hy : isD y n) : FloatKind.f64.format.order x y = some (compare m n) := by
  obtain ⟨s, a, ea, hs⟩ := hx
  obtain ⟨t, b, eb, ht⟩ := hy
  unfold FloatKind.decode at ea eb
  obtain ⟨c, ec⟩ : ∃ c : Nat, (c : Int) = max (a : Int) b := ⟨max a b, by omega⟩
  have hbase : min (-(a : Int) - 2) (-(b : Int) - 2) = -(c : Int) - 2 := by omega
  have h1 : (-(a : Int) - 2 - (-(c : Int) - 2)).toNat = c - a := by omega
  have h2 : (-(b : Int) - 2 - (-(c : Int) - 2)).toNat = c - b := by omega
  have hca : a + (c - a) = c := by omega
  have hcb : b + (c - b) = c := by omega
  simp only [Format.order, ea, eb, Datum.order, hbase, h1, h2]
  rw [signed_eq m s a (c - a) hs, signed_eq n t b (c - b) ht, hca, hcb]
  have hp : 0 < ((2 ^ c : Nat) : Int) := by have := Nat.two_pow_pos c; omega
  generalize ((2 ^ c : Nat) : Int) = p at *
  congr 1
  simp only [compare, compareOfLessAndEq]
  have k1 : (m * p < n * p ↔ m < n) := ⟨fun h => Int.lt_of_mul_lt_mul_right h (by omega), fun h => Int.mul_lt_mul_of_pos_right h hp⟩
  have k2 : (m * p = n * p ↔ m = n) := ⟨fun h => Int.eq_of_mul_eq_mul_right (by omega) h, fun h => by rw [h]⟩
  simp only [k1, k2]

theorem isD.notnan {b : Nat} {n : Int} (h : isD b n) : ¬ fnan .f64 b := by
  obtain ⟨s, q, hd, _⟩ := h
  unfold fnan
  rw [hd]
  simp [Ieee.Datum.isNaN]
theorem isD.same {b r : Nat} {n : Int} (h : isD b n) (hr : fsame .f64 r b) : r = b := by
  rcases hr with h1 | ⟨_, h2⟩
  · exact h1
  · exact absurd h2 h.notnan

theorem fop_of {op : BinOp} {x y r : Nat} (h : floatBits op .f64 x y = some r) : fop op .f64 x y = r := by unfold fop; rw [h]; rfl
theorem isD.fop_add {x y : Nat} {m n : Int} (hx : isD x m) (hy : isD y n) (hb : (m + n).natAbs < 16777216) : floatBits .add .f64 x y = some (fop .add .f64 x y) ∧ isD (fop .add .f64 x y) (m + n) := by
  obtain ⟨r, h, hr⟩ := hx.add hy hb
  rw [fop_of h]; exact ⟨h, hr⟩
theorem isD.fop_sub {x y : Nat} {m n : Int} (hx : isD x m) (hy : isD y n) (hb : (m - n).natAbs < 16777216) : floatBits .sub .f64 x y = some (fop .sub .f64 x y) ∧ isD (fop .sub .f64 x y) (m - n) := by
  obtain ⟨r, h, hr⟩ := hx.sub hy hb
  rw [fop_of h]; exact ⟨h, hr⟩
theorem isD.fop_twice {x y : Nat} {n : Int} (hx : isI .f64 x 2) (hy : isD y n) (hb : (2 * n).natAbs < 16777216) : floatBits .mul .f64 x y = some (fop .mul .f64 x y) ∧ isD (fop .mul .f64 x y) (2 * n) := by
  obtain ⟨r, h, hr⟩ := isD.twice hx hy hb
  rw [fop_of h]; exact ⟨h, hr⟩

abbrev four64 : Nat := 4616189618054758400
/-- A byte less 128, by four. -/
def quB (b : Nat) : Bool := floatBits .quo .f64 (floatOfInt .f64 ((b : Int) - 128)) four64 == some (FloatKind.f64.encode (.number (decide ((b : Int) - 128 < 0)) (((b : Int) - 128).natAbs * 2 ^ 0) (-((0 : Nat) : Int) - 2)))
theorem quB_all : (List.range 256).all quB = true := by decide +kernel
theorem quarter {b : Nat} (hb : b < 256) : floatBits .quo .f64 (floatOfInt .f64 ((b : Int) - 128)) four64 = some (fop .quo .f64 (floatOfInt .f64 ((b : Int) - 128)) four64) ∧ isD (fop .quo .f64 (floatOfInt .f64 ((b : Int) - 128)) four64) ((b : Int) - 128) := by
  have h := List.all_eq_true.1 quB_all b (by simp; exact hb)
  unfold quB at h
  rw [beq_iff_eq] at h
  rw [fop_of h]
  exact ⟨h, isD_enc _ _ 0 (by omega) (fun _ => rfl)⟩

end

theorem isI.w_add {x y : Nat} {m n : Int} (hx : isI .f64 x m) (hy : isI .f64 y n) (hb : (m + n).natAbs < 16777216) : isI .f64 (fop .add .f64 x y) (m + n) := by
  obtain ⟨r, h, hr⟩ := hx.add hy hb
  rw [fop_of h]; exact hr
theorem isI.w_sub {x y : Nat} {m n : Int} (hx : isI .f64 x m) (hy : isI .f64 y n) (hb : (m - n).natAbs < 16777216) : isI .f64 (fop .sub .f64 x y) (m - n) := by
  obtain ⟨r, h, hr⟩ := hx.sub hy hb
  rw [fop_of h]; exact hr
theorem isI.w_mul {x y : Nat} {m n : Int} (hx : isI .f64 x m) (hy : isI .f64 y n) (hb : (m * n).natAbs < 16777216) : isI .f64 (fop .mul .f64 x y) (m * n) := by
  obtain ⟨r, h, hr⟩ := hx.mul hy hb
  rw [fop_of h]; exact hr
theorem w_0 : isI .f64 0 0 := ⟨false, 1074, by decide +kernel, fun h => absurd rfl h⟩
theorem w_1 : isI .f64 one64 1 := ⟨false, 52, by decide +kernel, fun _ => rfl⟩
theorem w_2 : isI .f64 two64 2 := ⟨false, 51, by decide +kernel, fun _ => rfl⟩
abbrev three64 : Nat := 4613937818241073152
abbrev half5 : Nat := 4602678819172646912
theorem w_3 : isI .f64 three64 3 := ⟨false, 51, by decide +kernel, fun _ => rfl⟩
theorem d_half : isD half5 2 := ⟨false, 51, by decide +kernel, fun _ => rfl⟩

/-- A quarter turn. -/
def rot (X Y : Int) : Nat → Int × Int
  | 0 => (X, Y)
  | i + 1 => (-(rot X Y i).2, (rot X Y i).1)
theorem rot_at (X Y : Int) (i : Nat) : (i % 4 = 0 → rot X Y i = (X, Y)) ∧ (i % 4 = 1 → rot X Y i = (-Y, X)) ∧ (i % 4 = 2 → rot X Y i = (-X, -Y)) ∧ (i % 4 = 3 → rot X Y i = (Y, -X)) := by
  induction i with
  | zero => exact ⟨fun _ => rfl, fun h => by omega, fun h => by omega, fun h => by omega⟩
  | succ k ih =>
    obtain ⟨h0, h1, h2, h3⟩ := ih
    refine ⟨fun h => ?_, fun h => ?_, fun h => ?_, fun h => ?_⟩
    · simp [rot, h3 (show k % 4 = 3 by omega)]
    · simp [rot, h0 (show k % 4 = 0 by omega)]
    · simp [rot, h1 (show k % 4 = 1 by omega)]
    · simp [rot, h2 (show k % 4 = 2 by omega)]
theorem rot_cases (X Y : Int) (i : Nat) : rot X Y i = (X, Y) ∨ rot X Y i = (-Y, X) ∨ rot X Y i = (-X, -Y) ∨ rot X Y i = (Y, -X) := by
  obtain ⟨h0, h1, h2, h3⟩ := rot_at X Y i
  have : i % 4 = 0 ∨ i % 4 = 1 ∨ i % 4 = 2 ∨ i % 4 = 3 := by omega
  rcases this with h | h | h | h
  · exact Or.inl (h0 h)
  · exact Or.inr (Or.inl (h1 h))
  · exact Or.inr (Or.inr (Or.inl (h2 h)))
  · exact Or.inr (Or.inr (Or.inr (h3 h)))
theorem rot_mod (X Y : Int) (i : Nat) : rot X Y (i % 4) = rot X Y i := by
  obtain ⟨h0, h1, h2, h3⟩ := rot_at X Y i
  obtain ⟨k0, k1, k2, k3⟩ := rot_at X Y (i % 4)
  have : i % 4 = 0 ∨ i % 4 = 1 ∨ i % 4 = 2 ∨ i % 4 = 3 := by omega
  rcases this with h | h | h | h
  · rw [h0 h, k0 (by omega)]
  · rw [h1 h, k1 (by omega)]
  · rw [h2 h, k2 (by omega)]
  · rw [h3 h, k3 (by omega)]
theorem rot_two (X Y : Int) (i : Nat) : (rot X Y i).1 + (rot X Y (i + 2)).1 = 0 := by
  show (rot X Y i).1 + -((rot X Y i).1) = 0
  omega

/-- What a drawn tide starts with. -/
structure TiS (x y : Nat) (X Y : Int) : Prop where
  hx : isI .f64 x X
  hy : isI .f64 y Y
  x0 : 0 ≤ X
  x1 : X ≤ 255
  y0 : 0 ≤ Y
  y1 : Y ≤ 255
theorem rot_bd {x y : Nat} {X Y : Int} (h : TiS x y X Y) (i : Nat) : -255 ≤ (rot X Y i).1 ∧ (rot X Y i).1 ≤ 255 ∧ -255 ≤ (rot X Y i).2 ∧ (rot X Y i).2 ≤ 255 := by
  obtain ⟨_, _, h1, h2, h3, h4⟩ := h
  rcases rot_cases X Y i with e | e | e | e <;> rw [e] <;> dsimp only <;> omega

theorem turned_isI {x y : Nat} {X Y : Int} (h : TiS x y X Y) : ∀ i, isI .f64 (phaseAt (x, y, 0, one64) i).1 (rot X Y i).1 ∧ isI .f64 (phaseAt (x, y, 0, one64) i).2 (rot X Y i).2
  | 0 => ⟨h.hx, h.hy⟩
  | i + 1 => by
    obtain ⟨h1, h2⟩ := turned_isI h i
    obtain ⟨b1, b2, b3, b4⟩ := rot_bd h i
    rw [phaseAt]
    generalize phaseAt (x, y, 0, one64) i = p at *
    dsimp only
    rw [rot]
    generalize rot X Y i = r at *
    dsimp only
    unfold tRe tIm
    refine ⟨?_, ?_⟩
    · have a := (h1.w_mul w_0 (by simp)).w_sub (h2.w_mul w_1 (by omega)) (by omega)
      rwa [show r.1 * 0 - r.2 * 1 = -r.2 by omega] at a
    · have a := (h1.w_mul w_1 (by omega)).w_add (h2.w_mul w_0 (by simp)) (by omega)
      rwa [show r.1 * 1 + r.2 * 0 = r.1 by omega] at a
theorem flat_isI {x y : Nat} {X Y : Int} (h : TiS x y X Y) : ∀ i, isI .f64 (phaseAt (x, y, one64, 0) i).1 X ∧ isI .f64 (phaseAt (x, y, one64, 0) i).2 Y
  | 0 => ⟨h.hx, h.hy⟩
  | i + 1 => by
    obtain ⟨h1, h2⟩ := flat_isI h i
    obtain ⟨_, _, b1, b2, b3, b4⟩ := h
    rw [phaseAt]
    generalize phaseAt (x, y, one64, 0) i = p at *
    dsimp only
    unfold tRe tIm
    refine ⟨?_, ?_⟩
    · have a := (h1.w_mul w_1 (by omega)).w_sub (h2.w_mul w_0 (by simp)) (by omega)
      rwa [show X * 1 - Y * 0 = X by omega] at a
    · have a := (h1.w_mul w_0 (by simp)).w_add (h2.w_mul w_1 (by omega)) (by omega)
      rwa [show X * 0 + Y * 1 = Y by omega] at a
theorem none_isI : ∀ i, isI .f64 (phaseAt (0, 0, 0, 0) i).1 0 ∧ isI .f64 (phaseAt (0, 0, 0, 0) i).2 0
  | 0 => ⟨w_0, w_0⟩
  | i + 1 => by
    obtain ⟨h1, h2⟩ := none_isI i
    rw [phaseAt]
    generalize phaseAt (0, 0, 0, 0) i = p at *
    dsimp only
    unfold tRe tIm
    exact ⟨(h1.w_mul w_0 (by simp)).w_sub (h2.w_mul w_0 (by simp)) (by simp), (h1.w_mul w_0 (by simp)).w_add (h2.w_mul w_0 (by simp)) (by simp)⟩

def flatL (x y : Nat) : List F4 := [(x, y, one64, 0), (0, 0, 0, 0)]
def turnL (x y : Nat) : List F4 := [(x, y, 0, one64)]
def hF (mn x y i : Nat) : Nat := heightTo (flatL x y) mn i 2
def hT (mn x y i : Nat) : Nat := heightTo (turnL x y) mn i 1
theorem hF_isD {mn x y : Nat} {M X Y : Int} (hm : isD mn M) (hM0 : -128 ≤ M) (hM1 : M ≤ 127) (h : TiS x y X Y) (i : Nat) : isD (hF mn x y i) (M + 4 * X) := by
  have h1 := (flat_isI h i).1.up (by have := h.x0; have := h.x1; omega)
  have h2 := (none_isI i).1.up (by simp)
  have a := (hm.fop_add h1 (by have := h.x0; have := h.x1; omega)).2
  have b := (a.fop_add h2 (by have := h.x0; have := h.x1; omega)).2
  rw [show M + 4 * X + 4 * 0 = M + 4 * X by omega] at b
  exact b
theorem hT_isD {mn x y : Nat} {M X Y : Int} (hm : isD mn M) (hM0 : -128 ≤ M) (hM1 : M ≤ 127) (h : TiS x y X Y) (i : Nat) : isD (hT mn x y i) (M + 4 * (rot X Y i).1) := by
  have hb := rot_bd h i
  have h1 := (turned_isI h i).1.up (by omega)
  exact (hm.fop_add h1 (by omega)).2

/-- A height that is told: above the one ahead and not below the next, or the other way about. -/
def tideB (x y z : Nat) : Bool := (FloatKind.f64.format.order y x == some .gt && !(FloatKind.f64.format.order y z == some .lt)) || (FloatKind.f64.format.order y x == some .lt && !(FloatKind.f64.format.order y z == some .gt))
def hpIs (xs : List Nat) (m : Nat) : Bool := decide (0 < m) && decide (m + 1 < xs.length) && tideB (xs.getD (m - 1) 0) (xs.getD m 0) (xs.getD (m + 1) 0)
def hpTo (xs : List Nat) (k : Nat) : List Int := ((List.range k).filter (hpIs xs)).map (fun j : Nat => (j : Int))
def highsP (xs : List Nat) : List Int := if xs.length ≤ 1500 then hpTo xs xs.length else []
theorem hpTo_len (xs : List Nat) (k : Nat) : (hpTo xs k).length ≤ k := by
  unfold hpTo
  rw [List.length_map]
  exact Nat.le_trans (List.length_filter_le _ _) (by simp)
theorem hpTo_succ (xs : List Nat) (k : Nat) : hpTo xs (k + 1) = if hpIs xs k = true then hpTo xs k ++ [(k : Int)] else hpTo xs k := by
  unfold hpTo
  rw [List.range_succ, List.filter_append]
  by_cases h : hpIs xs k = true
  · simp [h]
  · simp [h]
theorem hpTo_pos {xs : List Nat} {k m : Nat} (hm : m < k) (h : hpIs xs m = true) : 0 < (hpTo xs k).length := by
  unfold hpTo
  rw [List.length_map]
  exact List.length_pos_of_mem (List.mem_filter.2 ⟨by simpa using hm, h⟩)

def nine (f : Nat → Nat) : List Nat := (List.range 9).map f
theorem nine_len (f : Nat → Nat) : (nine f).length = 9 := by simp [nine]
theorem nine_at (f : Nat → Nat) {i : Nat} (h : i < 9) : (nine f).getD i 0 = f i := by simp [nine, List.getD, h]

theorem turned_high {mn x y : Nat} {M X Y : Int} (hm : isD mn M) (hM0 : -128 ≤ M) (hM1 : M ≤ 127) (h : TiS x y X Y) (hz : ¬ (X = 0 ∧ Y = 0)) : 0 < (highsP (nine (hT mn x y))).length := by
  have d := hT_isD hm hM0 hM1 h
  have hb0 := h.x0
  have hb1 := h.y0
  have d0 := d 0
  have d1 := d 1
  have d2 := d 2
  have d3 := d 3
  rw [show (rot X Y 0).1 = X from rfl] at d0
  rw [show (rot X Y 1).1 = -Y from rfl] at d1
  rw [show (rot X Y 2).1 = -X from rfl] at d2
  rw [show (rot X Y 3).1 = Y by show -(-Y) = Y; omega] at d3
  unfold highsP
  rw [if_pos (by rw [nine_len]; omega)]
  rw [nine_len]
  by_cases hxy : X ≤ Y
  · refine hpTo_pos (m := 1) (by omega) ?_
    unfold hpIs
    rw [nine_len, nine_at _ (by omega), nine_at _ (by omega), nine_at _ (by omega)]
    have e1 : compare (M + 4 * -Y) (M + 4 * X) = .lt := by rw [Int.compare_eq_lt]; omega
    have e2 : ¬ compare (M + 4 * -Y) (M + 4 * -X) = .gt := by rw [Int.compare_eq_gt]; omega
    simp only [tideB, show (1 : Nat) - 1 = 0 from rfl, d1.order d0, d1.order d2, e1]
    simp [e2]
  · refine hpTo_pos (m := 2) (by omega) ?_
    unfold hpIs
    rw [nine_len, nine_at _ (by omega), nine_at _ (by omega), nine_at _ (by omega)]
    have e1 : compare (M + 4 * -X) (M + 4 * -Y) = .lt := by rw [Int.compare_eq_lt]; omega
    have e2 : ¬ compare (M + 4 * -X) (M + 4 * Y) = .gt := by rw [Int.compare_eq_gt]; omega
    simp only [tideB, show (2 : Nat) - 1 = 1 from rfl, d2.order d1, d2.order d3, e1]
    simp [e2]

end Go.Proofs.Ytglehiakikhlaaa

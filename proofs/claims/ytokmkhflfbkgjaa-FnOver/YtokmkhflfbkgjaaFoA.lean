/- FnOver in numbers: quotients of whole numbers by ones that are powers of two, and by the six units. No statement about the program stands here. -/
import Derived.Test.YtokmkhflfbkgjaaFtA
import Derived.Test.YtokmkhflfbkgjaaFlP
namespace Go.Proofs.Ytokmkhflfbkgjaa
open Go.RowKit
open Ieee

theorem read_lt (f : Format) (b : Nat) (s : Bool) (mag : Nat) (place : Int) (h : f.read b = .number s mag place) : mag < 2 * f.binade := by
  have hB : 0 < f.binade := Nat.two_pow_pos _
  unfold Format.read at h
  dsimp only at h
  split at h
  · simp only [Datum.number.injEq] at h
    omega
  · split at h
    · simp only [Datum.number.injEq] at h
      have := Nat.mod_lt (b % f.signWeight) hB
      omega
    · split at h <;> cases h

theorem isI.quo {x y δ : Nat} {q D : Int} (hx : isI .f64 x (q * D)) (hy : isI .f64 y D) (hd : D.natAbs = 2 ^ δ) (hq : q.natAbs < 16777216) : ∃ r, floatBits .quo .f64 x y = some r ∧ isI .f64 r q := by
  obtain ⟨s, a, ea, hs⟩ := hx
  obtain ⟨t, b, eb, ht⟩ := hy
  unfold FloatKind.decode at ea eb
  have hm := read_lt _ _ _ _ _ ea
  have hbin : FloatKind.f64.format.binade = 4503599627370496 := by decide
  rw [hbin] at hm
  have hD0 : D ≠ 0 := fun e => by rw [e] at hd; have := Nat.two_pow_pos δ; simp at hd; omega
  rw [hd, ← Nat.pow_add] at eb
  rw [Int.natAbs_mul, hd] at ea hm
  have hu : q ≠ 0 → (s ^^ t) = decide (q < 0) := fun h => by
    rw [hs (Int.mul_ne_zero h hD0), ht hD0]
    by_cases h1 : q < 0 <;> by_cases h2 : D < 0
    · have := Int.mul_pos_of_neg_of_neg h1 h2
      rw [decide_eq_true h1, decide_eq_true h2, decide_eq_false (by omega)]; rfl
    · have := Int.mul_neg_of_neg_of_pos h1 (show 0 < D by omega)
      rw [decide_eq_true h1, decide_eq_false h2, decide_eq_true this]; rfl
    · have := Int.mul_neg_of_pos_of_neg (show 0 < q by omega) h2
      rw [decide_eq_false h1, decide_eq_true h2, decide_eq_true this]; rfl
    · have := Int.mul_pos (show 0 < q by omega) (show 0 < D by omega)
      rw [decide_eq_false h1, decide_eq_false h2, decide_eq_false (by omega)]; rfl
  obtain ⟨m, em⟩ : ∃ m, m = q.natAbs * 2 ^ δ * 2 ^ a := ⟨_, rfl⟩
  rw [← em] at ea hm
  have hlog : m.log2 ≤ 52 := by
    by_cases h0 : m = 0
    · subst h0; simp
    · have := (Nat.log2_lt (k := 53) h0).2 (by omega)
      omega
  obtain ⟨u, eu⟩ : ∃ u, u = 54 - m.log2 := ⟨_, rfl⟩
  have hmore : FloatKind.f64.format.fractionBits + 2 + (2 ^ (δ + b)).log2 - m.log2 = δ + b + u := by
    rw [Nat.log2_two_pow, show FloatKind.f64.format.fractionBits = 52 by decide]
    omega
  have hn : ¬ 2 ^ (δ + b) = 0 := by have := Nat.two_pow_pos (δ + b); omega
  have hdv : m * 2 ^ (δ + b + u) = m * 2 ^ u * 2 ^ (δ + b) := by rw [Nat.pow_add]; grind
  have e1 : 2 * (m <<< (δ + b + u) / 2 ^ (δ + b)) + (m <<< (δ + b + u) % 2 ^ (δ + b) != 0).toNat = q.natAbs * 2 ^ (δ + a + u + 1) := by
    rw [Nat.shiftLeft_eq, hdv, Nat.mul_div_cancel _ (Nat.two_pow_pos _), Nat.mul_mod_left, em, Nat.pow_succ, Nat.pow_add, Nat.pow_add]
    simp
    grind
  have e2 : -(a : Int) - -(b : Int) - ((δ + b + u : Nat) : Int) - 1 = -((δ + a + u + 1 : Nat) : Int) := by omega
  refine ⟨_, ?_, isI_enc .f64 (s ^^ t) q (δ + a + u + 1) hq hu⟩
  simp only [floatBits, Format.div, ea, eb, Datum.quotient, if_neg hn, hmore, e1, e2, Option.map_some]
  rfl

theorem isI.fop_quo {x y δ : Nat} {n q D : Int} (hx : isI .f64 x n) (hy : isI .f64 y D) (hn : n = q * D) (hd : D.natAbs = 2 ^ δ) (hq : q.natAbs < 16777216) : isI .f64 (fop .quo .f64 x y) q := by
  subst hn
  obtain ⟨r, h, hr⟩ := hx.quo hy hd hq
  unfold fop; rw [h]; exact hr

theorem isI.fin {x : Nat} {n : Int} (h : isI .f64 x n) : finB x = true := by
  have h0 := h.fop_sub h (by simp)
  unfold finB
  rw [h0.order isI_0]
  simp
theorem isI.neg {x : Nat} {n : Int} (h : isI .f64 x n) : isI .f64 (Op.negFloat .f64 x) (-n) := by
  obtain ⟨s, q, hd, hs⟩ := h
  refine ⟨!s, q, ?_, fun h0 => ?_⟩
  · unfold FloatKind.decode at hd ⊢
    rw [read_sign, neg_testBit, neg_mod]
    rw [read_sign] at hd
    rw [Int.natAbs_neg]
    cases hb : x.testBit 63 with
    | true =>
      rw [hb, if_pos rfl] at hd
      rw [if_neg (by simp)]
      generalize FloatKind.f64.format.read (x % 9223372036854775808) = d at *
      cases d <;> simp only [Datum.opposite, Datum.number.injEq, reduceCtorEq] at hd ⊢
      obtain ⟨h1, h2, h3⟩ := hd
      subst h1 h2 h3
      simp
    | false =>
      rw [hb, if_neg (by simp)] at hd
      rw [if_pos (by simp), hd]
      rfl
  · rw [hs (by omega)]
    by_cases h1 : n < 0
    · rw [decide_eq_true h1, decide_eq_false (by omega)]; rfl
    · rw [decide_eq_false h1, decide_eq_true (by omega)]; rfl

theorem foi_lt (n : Int) : floatOfInt .f64 n < 18446744073709551616 := Ieee.Format.write_lt FloatKind.f64.format (.number (decide (n < 0)) n.natAbs 0)
theorem fop_lt (op : BinOp) (hop : op = .add ∨ op = .sub ∨ op = .mul ∨ op = .quo) (x y : Nat) : fop op .f64 x y < 18446744073709551616 := by
  unfold fop
  cases h : floatBits op .f64 x y with
  | none => exact (by decide : qnan .f64 < 18446744073709551616)
  | some r =>
    show r < 2 ^ FloatKind.f64.format.width
    rcases hop with rfl | rfl | rfl | rfl <;> simp only [floatBits] at h
    · exact Ieee.Format.add_lt _ h
    · exact Ieee.Format.sub_lt _ h
    · exact Ieee.Format.mul_lt _ h
    · exact Ieee.Format.div_lt _ h
theorem neg_lt {x : Nat} (h : x < 18446744073709551616) : Op.negFloat .f64 x < 18446744073709551616 := by
  show x ^^^ 2 ^ 63 < 2 ^ 64
  exact Nat.xor_lt_two_pow h (by decide)

abbrev m4 : Nat := 13839561654909534208
abbrev m2 : Nat := 13835058055282163712
/-- The six units: their floats, and what they stand for. -/
def unitB : Nat → Nat × Nat
  | 0 => (one64, 0)
  | 1 => (two64, 0)
  | 2 => (0, one64)
  | 3 => (m4, 0)
  | 4 => (0, m2)
  | _ => (one64, one64)
def unitI : Nat → Int × Int
  | 0 => (1, 0)
  | 1 => (2, 0)
  | 2 => (0, 1)
  | 3 => (-4, 0)
  | 4 => (0, -2)
  | _ => (1, 1)
theorem isI_m4 : isI .f64 m4 (-4) := ⟨true, 50, by decide +kernel, fun _ => rfl⟩
theorem isI_m2 : isI .f64 m2 (-2) := ⟨true, 51, by decide +kernel, fun _ => rfl⟩
abbrev nzero : Nat := 9223372036854775808
theorem isI_nz : isI .f64 nzero 0 := ⟨true, 1074, by decide +kernel, fun h => absurd rfl h⟩
theorem unit_isI (k : Nat) : isI .f64 (unitB k).1 (unitI k).1 ∧ isI .f64 (unitB k).2 (unitI k).2 := by
  match k with
  | 0 => exact ⟨isI_one, isI_0⟩
  | 1 => exact ⟨isI_two, isI_0⟩
  | 2 => exact ⟨isI_0, isI_one⟩
  | 3 => exact ⟨isI_m4, isI_0⟩
  | 4 => exact ⟨isI_0, isI_m2⟩
  | _ + 5 => exact ⟨isI_one, isI_one⟩
theorem unit_lt (k : Nat) : (unitB k).1 < 18446744073709551616 ∧ (unitB k).2 < 18446744073709551616 := by
  match k with
  | 0 => decide
  | 1 => decide
  | 2 => decide
  | 3 => decide
  | 4 => decide
  | _ + 5 => exact ⟨by show one64 < _; decide, by show one64 < _; decide⟩
theorem unit_bd (k : Nat) : -4 ≤ (unitI k).1 ∧ (unitI k).1 ≤ 2 ∧ -2 ≤ (unitI k).2 ∧ (unitI k).2 ≤ 1 := by
  match k with
  | 0 => decide
  | 1 => decide
  | 2 => decide
  | 3 => decide
  | 4 => decide
  | _ + 5 => exact ⟨by show (-4 : Int) ≤ 1; decide, by show (1 : Int) ≤ 2; decide, by show (-2 : Int) ≤ 1; decide, by show (1 : Int) ≤ 1; decide⟩
theorem unit_ok (k : Nat) : (finB (unitB k).1 && finB (unitB k).2 && !(eq0 (unitB k).1 && eq0 (unitB k).2)) = true := by
  match k with
  | 0 => decide +kernel
  | 1 => decide +kernel
  | 2 => decide +kernel
  | 3 => decide +kernel
  | 4 => decide +kernel
  | _ + 5 => show (finB one64 && finB one64 && !(eq0 one64 && eq0 one64)) = true; decide +kernel

theorem ov_core {a b R Dn δ : Nat} {N1 N2 ρ D X Y : Int} (h1 : isI .f64 a N1) (h2 : isI .f64 b N2) (hR : isI .f64 R ρ) (hD : isI .f64 Dn D) (hd : D.natAbs = 2 ^ δ) (eX : N1 + N2 * ρ = X * D) (eY : N2 - N1 * ρ = Y * D)
    (b1 : (N2 * ρ).natAbs < 16777216) (b2 : (N1 + N2 * ρ).natAbs < 16777216) (b3 : (N1 * ρ).natAbs < 16777216) (b4 : (N2 - N1 * ρ).natAbs < 16777216) (b5 : X.natAbs < 16777216) (b6 : Y.natAbs < 16777216) :
    isI .f64 (fop .quo .f64 (fop .add .f64 a (fop .mul .f64 b R)) Dn) X ∧ isI .f64 (fop .quo .f64 (fop .sub .f64 b (fop .mul .f64 a R)) Dn) Y :=
  ⟨(h1.fop_add (h2.fop_mul hR b1) b2).fop_quo hD eX hd b5, (h2.fop_sub (h1.fop_mul hR b3) b4).fop_quo hD eY hd b6⟩
theorem ov_core' {a b R Dn δ : Nat} {N1 N2 ρ D X Y : Int} (h1 : isI .f64 a N1) (h2 : isI .f64 b N2) (hR : isI .f64 R ρ) (hD : isI .f64 Dn D) (hd : D.natAbs = 2 ^ δ) (eX : N1 * ρ + N2 = X * D) (eY : N2 * ρ - N1 = Y * D)
    (b1 : (N1 * ρ).natAbs < 16777216) (b2 : (N1 * ρ + N2).natAbs < 16777216) (b3 : (N2 * ρ).natAbs < 16777216) (b4 : (N2 * ρ - N1).natAbs < 16777216) (b5 : X.natAbs < 16777216) (b6 : Y.natAbs < 16777216) :
    isI .f64 (fop .quo .f64 (fop .add .f64 (fop .mul .f64 a R) b) Dn) X ∧ isI .f64 (fop .quo .f64 (fop .sub .f64 (fop .mul .f64 b R) a) Dn) Y :=
  ⟨((h1.fop_mul hR b1).fop_add h2 b2).fop_quo hD eX hd b5, ((h2.fop_mul hR b3).fop_sub h1 b4).fop_quo hD eY hd b6⟩

theorem over_unit {t1 t2 : Nat} {X Y : Int} (hx0 : -128 ≤ X) (hx1 : X ≤ 127) (hy0 : -128 ≤ Y) (hy1 : Y ≤ 127) (k : Nat) (h1 : isI .f64 t1 (X * (unitI k).1 - Y * (unitI k).2)) (h2 : isI .f64 t2 (X * (unitI k).2 + Y * (unitI k).1)) :
    isI .f64 (ovRe t1 t2 (unitB k).1 (unitB k).2) X ∧ isI .f64 (ovIm t1 t2 (unitB k).1 (unitB k).2) Y := by
  match k with
  | 0 =>
    rw [show (unitI 0).1 = 1 from rfl, show (unitI 0).2 = 0 from rfl] at h1 h2
    rw [show (unitB 0).1 = one64 from rfl, show (unitB 0).2 = 0 from rfl]
    unfold ovRe ovIm
    rw [if_pos (by decide +kernel), if_pos (by decide +kernel), show fop .quo .f64 0 one64 = 0 by decide +kernel, show fop .add .f64 one64 (fop .mul .f64 0 0) = one64 by decide +kernel]
    exact ov_core (δ := 0) h1 h2 isI_0 isI_one rfl (by omega) (by omega) (by omega) (by omega) (by omega) (by omega) (by omega) (by omega)
  | 1 =>
    rw [show (unitI 1).1 = 2 from rfl, show (unitI 1).2 = 0 from rfl] at h1 h2
    rw [show (unitB 1).1 = two64 from rfl, show (unitB 1).2 = 0 from rfl]
    unfold ovRe ovIm
    rw [if_pos (by decide +kernel), if_pos (by decide +kernel), show fop .quo .f64 0 two64 = 0 by decide +kernel, show fop .add .f64 two64 (fop .mul .f64 0 0) = two64 by decide +kernel]
    exact ov_core (δ := 1) h1 h2 isI_0 isI_two rfl (by omega) (by omega) (by omega) (by omega) (by omega) (by omega) (by omega) (by omega)
  | 2 =>
    rw [show (unitI 2).1 = 0 from rfl, show (unitI 2).2 = 1 from rfl] at h1 h2
    rw [show (unitB 2).1 = 0 from rfl, show (unitB 2).2 = one64 from rfl]
    unfold ovRe ovIm
    rw [if_neg (by decide +kernel), if_neg (by decide +kernel), show fop .quo .f64 0 one64 = 0 by decide +kernel, show fop .add .f64 one64 (fop .mul .f64 0 0) = one64 by decide +kernel]
    exact ov_core' (δ := 0) h1 h2 isI_0 isI_one rfl (by omega) (by omega) (by omega) (by omega) (by omega) (by omega) (by omega) (by omega)
  | 3 =>
    rw [show (unitI 3).1 = -4 from rfl, show (unitI 3).2 = 0 from rfl] at h1 h2
    rw [show (unitB 3).1 = m4 from rfl, show (unitB 3).2 = 0 from rfl]
    unfold ovRe ovIm
    rw [if_pos (by decide +kernel), if_pos (by decide +kernel), show fop .quo .f64 0 m4 = nzero by decide +kernel, show fop .add .f64 m4 (fop .mul .f64 nzero 0) = m4 by decide +kernel]
    exact ov_core (δ := 2) h1 h2 isI_nz isI_m4 rfl (by omega) (by omega) (by omega) (by omega) (by omega) (by omega) (by omega) (by omega)
  | 4 =>
    rw [show (unitI 4).1 = 0 from rfl, show (unitI 4).2 = -2 from rfl] at h1 h2
    rw [show (unitB 4).1 = 0 from rfl, show (unitB 4).2 = m2 from rfl]
    unfold ovRe ovIm
    rw [if_neg (by decide +kernel), if_neg (by decide +kernel), show fop .quo .f64 0 m2 = nzero by decide +kernel, show fop .add .f64 m2 (fop .mul .f64 nzero 0) = m2 by decide +kernel]
    exact ov_core' (δ := 1) h1 h2 isI_nz isI_m2 rfl (by omega) (by omega) (by omega) (by omega) (by omega) (by omega) (by omega) (by omega)
  | _ + 5 =>
    replace h1 : isI .f64 t1 (X * 1 - Y * 1) := h1
    replace h2 : isI .f64 t2 (X * 1 + Y * 1) := h2
    show isI .f64 (ovRe t1 t2 one64 one64) X ∧ isI .f64 (ovIm t1 t2 one64 one64) Y
    unfold ovRe ovIm
    rw [if_pos (by decide +kernel), if_pos (by decide +kernel), show fop .quo .f64 one64 one64 = one64 by decide +kernel, show fop .add .f64 one64 (fop .mul .f64 one64 one64) = two64 by decide +kernel]
    exact ov_core (δ := 1) h1 h2 isI_one isI_two rfl (by omega) (by omega) (by omega) (by omega) (by omega) (by omega) (by omega) (by omega)

/-- The units as cells. -/
def unitCells : List Value := [.float .f64 one64, .float .f64 0, .float .f64 two64, .float .f64 0, .float .f64 0, .float .f64 one64, .float .f64 m4, .float .f64 0, .float .f64 0, .float .f64 m2, .float .f64 one64, .float .f64 one64]
theorem unit_cell {A : World} {g : Nat} (h : OwnV A g unitCells) {k : Nat} (hk : k < 6) : A.cell? ⟨g, k * 2, none⟩ = some (.float .f64 (unitB k).1) ∧ A.cell? ⟨g, k * 2 + 1, none⟩ = some (.float .f64 (unitB k).2) := by
  match k, hk with
  | 0, _ => exact ⟨h.cell rfl, h.cell rfl⟩
  | 1, _ => exact ⟨h.cell rfl, h.cell rfl⟩
  | 2, _ => exact ⟨h.cell rfl, h.cell rfl⟩
  | 3, _ => exact ⟨h.cell rfl, h.cell rfl⟩
  | 4, _ => exact ⟨h.cell rfl, h.cell rfl⟩
  | 5, _ => exact ⟨h.cell rfl, h.cell rfl⟩

/-- A product by a unit. -/
theorem times_unit {x y : Nat} {X Y : Int} (hx : isI .f64 x X) (hy : isI .f64 y Y) (hx0 : -128 ≤ X) (hx1 : X ≤ 127) (hy0 : -128 ≤ Y) (hy1 : Y ≤ 127) (k : Nat) :
    isI .f64 (tRe x y (unitB k).1 (unitB k).2) (X * (unitI k).1 - Y * (unitI k).2) ∧ isI .f64 (tIm x y (unitB k).1 (unitB k).2) (X * (unitI k).2 + Y * (unitI k).1) := by
  obtain ⟨u1, u2⟩ := unit_isI k
  obtain ⟨b1, b2, b3, b4⟩ := unit_bd k
  have P : ∀ m n : Int, -128 ≤ m → m ≤ 127 → -4 ≤ n → n ≤ 2 → -512 ≤ m * n ∧ m * n ≤ 512 := fun m n h1 h2 h3 h4 => by
    have : n = -4 ∨ n = -3 ∨ n = -2 ∨ n = -1 ∨ n = 0 ∨ n = 1 ∨ n = 2 := by omega
    rcases this with rfl | rfl | rfl | rfl | rfl | rfl | rfl <;> omega
  have p1 := P X (unitI k).1 hx0 hx1 b1 (by omega)
  have p2 := P X (unitI k).2 hx0 hx1 (by omega) (by omega)
  have p3 := P Y (unitI k).1 hy0 hy1 b1 (by omega)
  have p4 := P Y (unitI k).2 hy0 hy1 (by omega) (by omega)
  unfold tRe tIm
  exact ⟨(hx.fop_mul u1 (by omega)).fop_sub (hy.fop_mul u2 (by omega)) (by omega), (hx.fop_mul u2 (by omega)).fop_add (hy.fop_mul u1 (by omega)) (by omega)⟩

/-- A reply to a wave of no ratio. -/
def rpB (n : Nat) : Bool := rpD 0 (floatOfInt .f64 (n : Int)) == 0
theorem rpB_all : (List.range 256).all rpB = true := by decide +kernel
theorem rpD_zero {n : Nat} (hn : n < 256) : rpD 0 (floatOfInt .f64 (n : Int)) = 0 := by
  have h := List.all_eq_true.1 rpB_all n (by simp; exact hn)
  unfold rpB at h
  rwa [beq_iff_eq] at h
theorem rpC_zero : rpC 0 = one64 := by decide +kernel
theorem reply_ok : overOk one64 0 one64 0 = true := by decide +kernel
theorem reply_one : overRe one64 0 one64 0 = one64 := by decide +kernel
theorem over_none (x y : Nat) : overOk x y 0 0 = false := by
  unfold overOk
  rw [show eq0 0 = true by decide +kernel]
  simp

end Go.Proofs.Ytokmkhflfbkgjaa

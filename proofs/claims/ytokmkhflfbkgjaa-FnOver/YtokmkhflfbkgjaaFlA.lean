/- Floats: what is the same (the same bits, or both a NaN); the four operations up to that; what the walk wants of them. No statement about the program stands here. -/
import Derived.Test.YtokmkhflfbkgjaaKept
import Derived.Laws.FloatArith
import Derived.WalkLawsBesides
namespace Go.Proofs.Ytokmkhflfbkgjaa
open Go.RowKit

def fnan (k : FloatKind) (b : Nat) : Prop := (k.decode b).isNaN = true
def fsame (k : FloatKind) (x y : Nat) : Prop := x = y ∨ (fnan k x ∧ fnan k y)
def qnan : FloatKind → Nat
  | .f32 => 0x7fc00000
  | .f64 => 0x7ff8000000000000
theorem qnan_nan (k : FloatKind) : fnan k (qnan k) := by cases k <;> (unfold fnan; decide)

theorem fsame.refl (k : FloatKind) (x : Nat) : fsame k x x := Or.inl rfl
theorem fsame.symm {k : FloatKind} {x y : Nat} (h : fsame k x y) : fsame k y x := h.elim (fun e => Or.inl e.symm) (fun e => Or.inr ⟨e.2, e.1⟩)
theorem fsame.nan {k : FloatKind} {x y : Nat} (h : fsame k x y) (hx : fnan k x) : fnan k y := h.elim (fun e => e ▸ hx) (fun e => e.2)
theorem fsame.trans {k : FloatKind} {x y z : Nat} (h : fsame k x y) (h' : fsame k y z) : fsame k x z := by
  rcases h with rfl | ⟨h1, h2⟩
  · exact h'
  · exact Or.inr ⟨h1, h'.nan h2⟩

theorem isNaN_ex {d : Ieee.Datum} (h : d.isNaN = true) : ∃ s f, d = .nan s f := by
  cases d with
  | number _ _ _ => cases h
  | infinity _ => cases h
  | nan s f => exact ⟨s, f, rfl⟩

theorem bits_nan_l {op : BinOp} {k : FloatKind} {x : Nat} (hx : fnan k x) (y : Nat) : floatBits op k x y = none := by
  obtain ⟨s, f, e⟩ := isNaN_ex hx
  unfold FloatKind.decode at e
  unfold floatBits
  split
  · simp [Ieee.Format.add, e, Ieee.Datum.sum]
  · simp [Ieee.Format.sub, e, Ieee.Datum.sum]
  · simp [Ieee.Format.mul, e, Ieee.Datum.product]
  · simp [Ieee.Format.div, e, Ieee.Datum.quotient]
  · rfl

theorem bits_nan_r {op : BinOp} {k : FloatKind} {y : Nat} (hy : fnan k y) (x : Nat) : floatBits op k x y = none := by
  obtain ⟨s, f, e⟩ := isNaN_ex hy
  unfold FloatKind.decode at e
  unfold floatBits
  split
  · simp only [Ieee.Format.add, e]; cases (k.format.read x) <;> rfl
  · simp only [Ieee.Format.sub, e, Ieee.Datum.opposite]; cases (k.format.read x) <;> rfl
  · simp only [Ieee.Format.mul, e]; cases (k.format.read x) <;> rfl
  · simp only [Ieee.Format.div, e]; cases (k.format.read x) <;> rfl
  · rfl

theorem bits_same {op : BinOp} {k : FloatKind} {x x' y y' : Nat} (hx : fsame k x x') (hy : fsame k y y') : floatBits op k x y = floatBits op k x' y' := by
  rcases hx with rfl | ⟨h1, h2⟩
  · rcases hy with rfl | ⟨h1, h2⟩
    · rfl
    · rw [bits_nan_r h1, bits_nan_r h2]
  · rw [bits_nan_l h1, bits_nan_l h2]

/-- The operation, a NaN being one NaN. -/
def fop (op : BinOp) (k : FloatKind) (x y : Nat) : Nat := (floatBits op k x y).getD (qnan k)
theorem fop_same {op : BinOp} {k : FloatKind} {x x' y y' : Nat} (hx : fsame k x x') (hy : fsame k y y') : fop op k x y = fop op k x' y' := by unfold fop; rw [bits_same hx hy]

theorem cut_nan (k : FloatKind) (x y t : Nat) : fnan k ((Question.nanBits k x y).cut t) := by
  cases k
  · show ((FloatKind.f32).decode ((t % 2) * 2 ^ 31 + 0x7f800000 + 1 + (t / 2) % (2 ^ 23 - 1))).isNaN = true
    have h1 : (t / 2) % (2 ^ 23 - 1) < 2 ^ 23 - 1 := Nat.mod_lt _ (by decide)
    generalize (t / 2) % (2 ^ 23 - 1) = u at *
    have e : ((t % 2) * 2 ^ 31 + 0x7f800000 + 1 + u) % 2147483648 = 2139095041 + u := by omega
    unfold FloatKind.decode FloatKind.format Ieee.Format.read
    have s1 : Ieee.single.signWeight = 2147483648 := by decide
    have s2 : Ieee.single.binade = 8388608 := by decide
    have s3 : Ieee.single.infRung = 2139095040 := by decide
    simp only [s1, s2, s3, e]
    rw [if_neg (by omega), if_neg (by omega), if_neg (by omega)]
    rfl
  · show ((FloatKind.f64).decode ((t % 2) * 2 ^ 63 + 0x7ff0000000000000 + 1 + (t / 2) % (2 ^ 52 - 1))).isNaN = true
    have h1 : (t / 2) % (2 ^ 52 - 1) < 2 ^ 52 - 1 := Nat.mod_lt _ (by decide)
    generalize (t / 2) % (2 ^ 52 - 1) = u at *
    have e : ((t % 2) * 2 ^ 63 + 0x7ff0000000000000 + 1 + u) % 9223372036854775808 = 9218868437227405313 + u := by omega
    unfold FloatKind.decode FloatKind.format Ieee.Format.read
    have s1 : Ieee.double.signWeight = 9223372036854775808 := by decide
    have s2 : Ieee.double.binade = 4503599627370496 := by decide
    have s3 : Ieee.double.infRung = 9218868437227405312 := by decide
    simp only [s1, s2, s3, e]
    rw [if_neg (by omega), if_neg (by omega), if_neg (by omega)]
    rfl

/-- Whatever the operands: the operation up to which NaN; at most one draw. -/
theorem run_float_any {P : Program} (w : World) (op : BinOp) (hop : op = .add ∨ op = .sub ∨ op = .mul ∨ op = .quo) (t : TypeId) (k : FloatKind) (x y : Nat) :
    ∃ r n, (binOp op t (.float k x) (.float k y)).run P w = .ok (.float k r) (w.drewN n) ∧ fsame k r (fop op k x y) := by
  cases h : floatBits op k x y with
  | some r => exact ⟨r, 0, run_float_arith w op t k x y r h, Or.inl (by simp [fop, h])⟩
  | none =>
    refine ⟨(Question.nanBits k x y).cut (w.tape w.drawn (.nanBits k x y)), 1, ?_, Or.inr ⟨cut_nan k x y _, by simp only [fop, h]; exact qnan_nan k⟩⟩
    rcases hop with rfl | rfl | rfl | rfl <;> (simp only [floatBits] at h; simp [binOp, Op.floatArith, h, Question.forced]; rfl)

end Go.Proofs.Ytokmkhflfbkgjaa

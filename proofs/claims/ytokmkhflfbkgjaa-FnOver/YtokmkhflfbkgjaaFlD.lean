/- The walk's laws on floats: the four operations, conversions to the other size; what is read of a float that is the same. -/
import Derived.Test.YtokmkhflfbkgjaaFlC
import Derived.Maps.AppendAt
namespace Go.Proofs.Ytokmkhflfbkgjaa
open Go.RowKit

theorem run_store_float (P : Program) (w : World) (a : Addr) (m : Mode) (k : FloatKind) (b : Nat) : (store a (.float k b) m).run P w = stored P w a (.float k b) m := run_store P w a _ m rfl
theorem run_store_complex (P : Program) (w : World) (a : Addr) (m : Mode) (k : FloatKind) (b c : Nat) : (store a (.complex k b c) m).run P w = stored P w a (.complex k b c) m := run_store P w a _ m rfl

def isArith : BinOp → Bool
  | .add | .sub | .mul | .quo => true
  | _ => false
theorem isArith_or {op : BinOp} (h : isArith op = true) : op = .add ∨ op = .sub ∨ op = .mul ∨ op = .quo := by cases op <;> simp [isArith] at h ⊢

theorem wpList_float {P : Program} {ops : Array Oper} {Q : Exit → Act → World → Prop} {rest : List Oper} {o : Oper} {a : Act} {w : World} (hgd : o.guard = none) (op : BinOp) (t t' : TypeId) (s x : Operand) (ho : o.op = .binOp op t s x t') (hop' : isArith op = true)
    (k : FloatKind) (b1 b2 : Nat) (hs : a.eval s = .float k b1) (hx : a.eval x = .float k b2) (h : ∀ r n, fsame k r (fop op k b1 b2) → wpList P ops Q rest (a.put o.dst (.float k r)) (w.drewN n)) : wpList P ops Q (o :: rest) a w := by
  have hop := isArith_or hop'
  refine wpList_plain hgd fun K hK => ?_
  obtain ⟨r, n, hr, hsame⟩ := run_float_any (P := P) w op hop t k b1 b2
  have hg : (eqGuard op t s x (.float k b1) (.float k b2)).run P w = .ok () w := by rcases hop with rfl | rfl | rfl | rfl <;> simp [eqGuard]
  unfold Oper.wp execOp
  rw [ho]
  simp only [hs, hx, Sem.run_bind, hg, hr, Result.andThen_ok, Sem.run_pure]
  exact hK _ _ (h r n hsame)

theorem order_nan_l {k : FloatKind} {x : Nat} (h : fnan k x) (z : Nat) : k.format.order x z = none := by
  obtain ⟨s, f, e⟩ := isNaN_ex h
  unfold FloatKind.decode at e
  simp [Ieee.Format.order, e, Ieee.Datum.order]

theorem order_nan_r {k : FloatKind} {z : Nat} (h : fnan k z) (x : Nat) : k.format.order x z = none := by
  obtain ⟨s, f, e⟩ := isNaN_ex h
  unfold FloatKind.decode at e
  simp only [Ieee.Format.order, e]
  cases (k.format.read x) <;> rfl

theorem order_same {k : FloatKind} {x x' y y' : Nat} (h : fsame k x x') (h' : fsame k y y') : k.format.order x y = k.format.order x' y' := by
  rcases h with rfl | ⟨h1, h2⟩
  · rcases h' with rfl | ⟨h1, h2⟩
    · rfl
    · rw [order_nan_r h1, order_nan_r h2]
  · rw [order_nan_l h1, order_nan_l h2]

theorem order_self {k : FloatKind} {x : Nat} (h : ¬ fnan k x) : k.format.order x x = some .eq := by
  unfold fnan FloatKind.decode at h
  unfold Ieee.Format.order
  cases hd : k.format.read x with
  | nan s f => rw [hd] at h; exact absurd rfl h
  | infinity s => simp [Ieee.Datum.order]
  | number s m i => simp [Ieee.Datum.order]

/-- A float32 as a float64. -/
def up (b : Nat) : Nat := (floatToFloatBits .f32 b .f64).getD (qnan .f64)

theorem read_single (b : Nat) : (∃ s m e, FloatKind.f32.decode b = .number s m e ∧ m < 16777216 ∧ -149 ≤ e ∧ e ≤ 104) ∨ (∃ s, FloatKind.f32.decode b = .infinity s) ∨ fnan .f32 b := by
  unfold fnan FloatKind.decode FloatKind.format Ieee.Format.read
  have s2 : Ieee.single.binade = 8388608 := by decide
  have s3 : Ieee.single.infRung = 2139095040 := by decide
  have s4 : Ieee.single.leastPlace = -149 := by decide
  simp only [s2, s3, s4]
  generalize b % Ieee.single.signWeight = r
  generalize (b / Ieee.single.signWeight % 2 == 1) = s
  by_cases h1 : r < 8388608
  · exact Or.inl ⟨_, _, _, by rw [if_pos h1], by omega, by omega, by omega⟩
  · by_cases h2 : r < 2139095040
    · exact Or.inl ⟨_, _, _, by rw [if_neg h1, if_pos h2], by omega, by omega, by omega⟩
    · by_cases h3 : r = 2139095040
      · exact Or.inr (Or.inl ⟨_, by rw [if_neg h1, if_neg h2, if_pos h3]⟩)
      · exact Or.inr (Or.inr (by rw [if_neg h1, if_neg h2, if_neg h3]; rfl))

theorem enc_double (s : Bool) (m : Nat) (e : Int) (hm : m < 16777216) (h1 : -149 ≤ e) (h2 : e ≤ 104) : (FloatKind.f64.decode (FloatKind.f64.encode (.number s m e))).isInfinity = false := by
  by_cases h0 : m = 0
  · subst h0
    have e1 : FloatKind.f64.encode (.number s 0 e) = FloatKind.f64.encode (.number s 0 0) := by simp [FloatKind.encode, Ieee.Format.write, Ieee.Format.nearest]
    rw [e1, read_enc_zero]
    rfl
  · have hl : m.log2 < 24 := (Nat.log2_lt h0).2 (by simpa using hm)
    have q1 : FloatKind.f64.format.leastPlace = -1074 := by decide
    have q2 : FloatKind.f64.format.fractionBits = 52 := rfl
    have q3 : ((2 ^ FloatKind.f64.format.exponentBits - 1 : Nat) : Int) = 2047 := by decide
    have hr := read_nearest FloatKind.f64.format s m e (by omega) (Nat.lt_of_lt_of_le hm (by rw [q2]; decide)) (by rw [q1]; omega) (by rw [q1, q2, q3]; omega) (by decide)
    show (FloatKind.f64.format.read (FloatKind.f64.format.nearest s m e)).isInfinity = false
    rw [hr]
    rfl

theorem up_none {b : Nat} (h : floatToFloatBits .f32 b .f64 = none) : fnan .f32 b := by
  rcases read_single b with ⟨s, m, e, hd, hm, h1, h2⟩ | ⟨s, hd⟩ | hn
  · unfold floatToFloatBits at h
    rw [if_neg (by decide), hd] at h
    simp only [enc_double s m e hm h1 h2] at h
    cases h
  · unfold floatToFloatBits at h
    rw [if_neg (by decide), hd] at h
    cases h
  · exact hn

theorem up_nan {b : Nat} (h : fnan .f32 b) : floatToFloatBits .f32 b .f64 = none := by
  obtain ⟨s, f, e⟩ := isNaN_ex h
  unfold floatToFloatBits
  rw [if_neg (by decide), e]

theorem up_same {x y : Nat} (h : fsame .f32 x y) : fsame .f64 (up x) (up y) := by
  rcases h with rfl | ⟨h1, h2⟩
  · exact fsame.refl _ _
  · unfold up
    rw [up_nan h1, up_nan h2]
    exact fsame.refl _ _

theorem cut_nanConv (k : FloatKind) (x t : Nat) : fnan k ((Question.nanConv k x).cut t) := by cases k <;> exact cut_nan _ 0 0 t

theorem run_up {P : Program} (w : World) (src dst : TypeId) (b : Nat) (hs : (P.underlying src).isSome = true) (hd : P.underlying dst = some (.float .f64)) :
    ∃ r n, (convert src dst (.float .f32 b)).run P w = .ok (.float .f64 r) (w.drewN n) ∧ fsame .f64 r (up b) := by
  cases h : floatToFloatBits .f32 b .f64 with
  | some r => exact ⟨r, 0, run_convert_float_float w src dst .f32 .f64 b r hs hd h, Or.inl (by simp [up, h])⟩
  | none =>
    obtain ⟨s, f, e⟩ := isNaN_ex (up_none h)
    obtain ⟨u, hs'⟩ := Option.isSome_iff_exists.1 hs
    refine ⟨(Question.nanConv .f64 b).cut (w.tape w.drawn (.nanConv .f64 b)), 1, ?_, Or.inr ⟨cut_nanConv _ b _, by simp only [up, h]; exact qnan_nan _⟩⟩
    cases u <;> (simp [convert, run_underlying hs', run_underlying hd, Conv.floatToFloat, e, Question.forced]; rfl)

theorem wpList_up {P : Program} {ops : Array Oper} {Q : Exit → Act → World → Prop} {rest : List Oper} {o : Oper} {a : Act} {w : World} (hgd : o.guard = none) (src dst : TypeId) (s : Operand) (ho : o.op = .convert src dst s) (hs : (P.underlying src).isSome = true) (hd : P.underlying dst = some (.float .f64))
    (b : Nat) (hv : a.eval s = .float .f32 b) (h : ∀ r n, fsame .f64 r (up b) → wpList P ops Q rest (a.put o.dst (.float .f64 r)) (w.drewN n)) : wpList P ops Q (o :: rest) a w := by
  refine wpList_plain hgd fun K hK => ?_
  obtain ⟨r, n, hr, hsame⟩ := run_up (P := P) w src dst b hs hd
  unfold Oper.wp execOp
  rw [ho]
  simp only [hv, Sem.run_bind, hr, Result.andThen_ok, Sem.run_pure]
  exact hK _ _ (h r n hsame)

end Go.Proofs.Ytokmkhflfbkgjaa

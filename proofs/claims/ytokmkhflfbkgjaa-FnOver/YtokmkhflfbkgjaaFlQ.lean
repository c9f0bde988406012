/- The walk's laws on complex numbers: + and - part by part; the greater size. No statement about the program stands here. -/
import Derived.Test.YtokmkhflfbkgjaaFlP
import Derived.Laws.Cover3
import Derived.Laws.ComplexArith
namespace Go.Proofs.Ytokmkhflfbkgjaa
open Go.RowKit

theorem run_arith_any {P : Program} (w : World) (op : BinOp) (hop : op = .add ∨ op = .sub ∨ op = .mul ∨ op = .quo) (t : TypeId) (k : FloatKind) (x y : Nat) :
    ∃ r n, (Op.Complex.arith op k x y).run P w = .ok r (w.drewN n) ∧ fsame k r (fop op k x y) := by
  obtain ⟨r, n, hr, hs⟩ := run_float_any (P := P) w op hop t k x y
  refine ⟨r, n, ?_, hs⟩
  have hr' : (Op.floatArith op k x y).run P w = .ok (.float k r) (w.drewN n) := by
    rcases hop with rfl | rfl | rfl | rfl <;> simpa [binOp] using hr
  simp [Op.Complex.arith, hr']

def isSum : BinOp → Bool
  | .add | .sub => true
  | _ => false

theorem run_csum_any {P : Program} (w : World) (op : BinOp) (hop : isSum op = true) (t : TypeId) (k : FloatKind) (a b c d : Nat) :
    ∃ r s n, (binOp op t (.complex k a b) (.complex k c d)).run P w = .ok (.complex k r s) (w.drewN n) ∧ fsame k r (fop op k a c) ∧ fsame k s (fop op k b d) := by
  have hop2 : op = .add ∨ op = .sub := by cases op <;> simp [isSum] at hop ⊢
  have hop4 : op = .add ∨ op = .sub ∨ op = .mul ∨ op = .quo := by rcases hop2 with h | h <;> simp [h]
  obtain ⟨r, n1, h1, g1⟩ := run_arith_any (P := P) w op hop4 t k a c
  obtain ⟨s, n2, h2, g2⟩ := run_arith_any (P := P) (w.drewN n1) op hop4 t k b d
  refine ⟨r, s, n1 + n2, ?_, g1, g2⟩
  rcases hop2 with rfl | rfl <;> simp [binOp, Op.complexOp, h1, h2, World.drewN_drewN]

theorem wpList_csum {P : Program} {ops : Array Oper} {Q : Exit → Act → World → Prop} {rest : List Oper} {o : Oper} {a : Act} {w : World} (hgd : o.guard = none) (op : BinOp) (t t' : TypeId) (s x : Operand) (ho : o.op = .binOp op t s x t') (hop : isSum op = true)
    (k : FloatKind) (b1 b2 b3 b4 : Nat) (hs : a.eval s = .complex k b1 b2) (hx : a.eval x = .complex k b3 b4) (h : ∀ r i n, fsame k r (fop op k b1 b3) → fsame k i (fop op k b2 b4) → wpList P ops Q rest (a.put o.dst (.complex k r i)) (w.drewN n)) : wpList P ops Q (o :: rest) a w := by
  refine wpList_plain hgd fun K hK => ?_
  obtain ⟨r, i, n, hr, h1, h2⟩ := run_csum_any (P := P) w op hop t k b1 b2 b3 b4
  have hop2 : op = .add ∨ op = .sub := by cases op <;> simp [isSum] at hop ⊢
  have hg : (eqGuard op t s x (.complex k b1 b2) (.complex k b3 b4)).run P w = .ok () w := by rcases hop2 with rfl | rfl <;> simp [eqGuard]
  unfold Oper.wp execOp
  rw [ho]
  simp only [hs, hx, Sem.run_bind, hg, hr, Result.andThen_ok, Sem.run_pure]
  exact hK _ _ (h r i n h1 h2)

theorem run_upF {P : Program} (w : World) (b : Nat) : ∃ r n, (Conv.floatToFloat .f32 b .f64).run P w = .ok (.float .f64 r) (w.drewN n) ∧ fsame .f64 r (up b) := by
  cases h : floatToFloatBits .f32 b .f64 with
  | some r => exact ⟨r, 0, run_floatToFloat w h, Or.inl (by simp [up, h])⟩
  | none =>
    obtain ⟨s, f, e⟩ := isNaN_ex (up_none h)
    refine ⟨(Question.nanConv .f64 b).cut (w.tape w.drawn (.nanConv .f64 b)), 1, ?_, Or.inr ⟨cut_nanConv _ b _, by simp only [up, h]; exact qnan_nan _⟩⟩
    simp [Conv.floatToFloat, e, Question.forced]
    rfl

theorem run_cup {P : Program} (w : World) (src dst : TypeId) (a b : Nat) (hs : (P.underlying src).isSome = true) (hd : P.underlying dst = some (.complex .f64)) :
    ∃ r i n, (convert src dst (.complex .f32 a b)).run P w = .ok (.complex .f64 r i) (w.drewN n) ∧ fsame .f64 r (up a) ∧ fsame .f64 i (up b) := by
  obtain ⟨r, n1, h1, g1⟩ := run_upF (P := P) w a
  obtain ⟨i, n2, h2, g2⟩ := run_upF (P := P) (w.drewN n1) b
  obtain ⟨u, hs'⟩ := Option.isSome_iff_exists.1 hs
  refine ⟨r, i, n1 + n2, ?_, g1, g2⟩
  cases u <;> simp [convert, run_underlying hs', run_underlying hd, Conv.complexToComplex, h1, h2, World.drewN_drewN]

theorem wpList_cup {P : Program} {ops : Array Oper} {Q : Exit → Act → World → Prop} {rest : List Oper} {o : Oper} {a : Act} {w : World} (hgd : o.guard = none) (src dst : TypeId) (s : Operand) (ho : o.op = .convert src dst s) (hs : (P.underlying src).isSome = true) (hd : P.underlying dst = some (.complex .f64))
    (b c : Nat) (hv : a.eval s = .complex .f32 b c) (h : ∀ r i n, fsame .f64 r (up b) → fsame .f64 i (up c) → wpList P ops Q rest (a.put o.dst (.complex .f64 r i)) (w.drewN n)) : wpList P ops Q (o :: rest) a w := by
  refine wpList_plain hgd fun K hK => ?_
  obtain ⟨r, i, n, hr, h1, h2⟩ := run_cup (P := P) w src dst b c hs hd
  unfold Oper.wp execOp
  rw [ho]
  simp only [hv, Sem.run_bind, hr, Result.andThen_ok, Sem.run_pure]
  exact hK _ _ (h r i n h1 h2)

end Go.Proofs.Ytokmkhflfbkgjaa

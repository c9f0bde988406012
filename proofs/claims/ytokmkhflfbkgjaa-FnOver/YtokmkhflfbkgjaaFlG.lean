/- Contracts of the specification's Over and Reply. -/
import Derived.Test.YtokmkhflfbkgjaaFlF
import Derived.Deep.QuietTactic
import Derived.BigQuiet
namespace Go.Proofs.Ytokmkhflfbkgjaa
open Go.RowKit

attribute [local go_sem] run_store_float run_store_complex unary_neg_float

/-- Three boxes of two. -/
structure Box6 (w W : World) (a b c d e f : Value) : Prop where
  o1 : OwnV W w.heap.size [a, b]
  o2 : OwnV W (w.heap.size + 1) [c, d]
  o3 : OwnV W (w.heap.size + 1 + 1) [e, f]
  below : Below w.heap.size w W

theorem box6 (w : World) (a b c d e f : Value) (t1 t2 t3 : TypeId) (n : Nat) : Box6 w ((((w.alloc (.cells #[a, b] t1)).alloc (.cells #[c, d] t2)).alloc (.cells #[e, f] t3)).drewN n) a b c d e f := by
  refine ⟨OwnV.drewN (((ownV_alloc w #[a, b] t1).alloc _).alloc _) n, OwnV.drewN (OwnV.alloc ?_ _) n, OwnV.drewN ?_ n, below_drewN (below3 _ _ _ _) n⟩
  · have h := ownV_alloc (w.alloc (.cells #[a, b] t1)) #[c, d] t2
    simp only [World.size_alloc] at h
    exact h
  · have h := ownV_alloc ((w.alloc (.cells #[a, b] t1)).alloc (.cells #[c, d] t2)) #[e, f] t3
    simp only [World.size_alloc] at h
    exact h

def eq0 (x : Nat) : Bool := FloatKind.f64.format.order x 0 == some .eq
def overOk (a b c d : Nat) : Bool := finB a && finB b && finB c && finB d && !(eq0 c && eq0 d)
def geB (c d : Nat) : Bool := FloatKind.f64.format.order (sizeF c) (sizeF d) == some .gt || FloatKind.f64.format.order (sizeF c) (sizeF d) == some .eq
def ovRe (a b c d : Nat) : Nat :=
  if geB c d = true then fop .quo .f64 (fop .add .f64 a (fop .mul .f64 b (fop .quo .f64 d c))) (fop .add .f64 c (fop .mul .f64 (fop .quo .f64 d c) d))
  else fop .quo .f64 (fop .add .f64 (fop .mul .f64 a (fop .quo .f64 c d)) b) (fop .add .f64 d (fop .mul .f64 (fop .quo .f64 c d) c))
def ovIm (a b c d : Nat) : Nat :=
  if geB c d = true then fop .quo .f64 (fop .sub .f64 b (fop .mul .f64 a (fop .quo .f64 d c))) (fop .add .f64 c (fop .mul .f64 (fop .quo .f64 d c) d))
  else fop .quo .f64 (fop .sub .f64 (fop .mul .f64 b (fop .quo .f64 c d)) a) (fop .add .f64 d (fop .mul .f64 (fop .quo .f64 c d) c))
def overRe (a b c d : Nat) : Nat := if overOk a b c d = true then ovRe a b c d else 0
def overIm (a b c d : Nat) : Nat := if overOk a b c d = true then ovIm a b c d else 0

end Go.Proofs.Ytokmkhflfbkgjaa

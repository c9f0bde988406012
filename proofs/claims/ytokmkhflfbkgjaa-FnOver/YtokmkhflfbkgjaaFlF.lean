/- Contracts of the specification's Times, AddSmall, LessSmall, Barred, Alike, l4Finite, l4Size. -/
import Derived.Test.YtokmkhflfbkgjaaFlE
namespace Go.Proofs.Ytokmkhflfbkgjaa
open Go.RowKit

theorem unary_neg_float (k : FloatKind) (b : Nat) : Op.unary .neg (.float k b) = pure (.float k (Op.negFloat k b)) := rfl
theorem ret_float {k : FloatKind} {a b : Nat} (h : a = b) : Ending.returned (.float k a) = .returned (.float k b) := by rw [h]

attribute [local go_sem] run_store_float run_store_complex unary_neg_float

theorem neg_nan (k : FloatKind) (b : Nat) : ((k.decode (Op.negFloat k b)).isNaN) = (k.decode b).isNaN := by
  have h : Op.negFloat k b % k.format.signWeight = b % k.format.signWeight := by
    unfold Op.negFloat Ieee.Format.signWeight
    rw [Nat.xor_mod_two_pow, Nat.mod_self, Nat.xor_zero]
  unfold FloatKind.decode Ieee.Format.read
  simp only [h]
  by_cases h1 : b % k.format.signWeight < k.format.binade
  · simp only [if_pos h1]; rfl
  · by_cases h2 : b % k.format.signWeight < k.format.infRung
    · simp only [if_neg h1, if_pos h2]; rfl
    · by_cases h3 : b % k.format.signWeight = k.format.infRung
      · simp only [if_neg h1, if_neg h2, if_pos h3]; rfl
      · simp only [if_neg h1, if_neg h2, if_neg h3]; rfl

theorem neg_same {k : FloatKind} {x y : Nat} (h : fsame k x y) : fsame k (Op.negFloat k x) (Op.negFloat k y) := by
  rcases h with rfl | ⟨h1, h2⟩
  · exact fsame.refl _ _
  · exact Or.inr ⟨by unfold fnan; rw [neg_nan]; exact h1, by unfold fnan; rw [neg_nan]; exact h2⟩

theorem fop_to {op : BinOp} {k : FloatKind} {r x y x' y' : Nat} (h : fsame k r (fop op k x y)) (hx : fsame k x x') (hy : fsame k y y') : fsame k r (fop op k x' y') := by rw [← fop_same hx hy]; exact h

def tRe (a b c d : Nat) : Nat := fop .sub .f64 (fop .mul .f64 a c) (fop .mul .f64 b d)
def tIm (a b c d : Nat) : Nat := fop .add .f64 (fop .mul .f64 a d) (fop .mul .f64 b c)
theorem tRe_same {a b c d a' b' c' d' : Nat} (h1 : fsame .f64 a a') (h2 : fsame .f64 b b') (h3 : fsame .f64 c c') (h4 : fsame .f64 d d') : tRe a b c d = tRe a' b' c' d' := by unfold tRe; rw [fop_same h1 h3, fop_same h2 h4]
theorem tIm_same {a b c d a' b' c' d' : Nat} (h1 : fsame .f64 a a') (h2 : fsame .f64 b b') (h3 : fsame .f64 c c') (h4 : fsame .f64 d d') : tIm a b c d = tIm a' b' c' d' := by unfold tIm; rw [fop_same h1 h4, fop_same h2 h3]

theorem below3 (w : World) (o1 o2 o3 : Obj) : Below w.heap.size w (((w.alloc o1).alloc o2).alloc o3) := Below.step (Below.step (Below.alloc1 _ _) (Below.alloc1 _ _)) (Below.alloc1 _ _)

/-- Both parts are ==. -/
def alikeB (a b c d : Nat) : Bool := (FloatKind.f64.format.order a c == some .eq) && (FloatKind.f64.format.order b d == some .eq)

/-- x - x is 0. -/
def finB (x : Nat) : Bool := FloatKind.f64.format.order (fop .sub .f64 x x) 0 == some .eq

def sizeF (x : Nat) : Nat := if (FloatKind.f64.format.order x 0 == some .lt) = true then Op.negFloat .f64 x else x

end Go.Proofs.Ytokmkhflfbkgjaa

/- Over and what is the same; the contract of the specification's Reply. -/
import Derived.Test.YtokmkhflfbkgjaaFlG
namespace Go.Proofs.Ytokmkhflfbkgjaa
open Go.RowKit

attribute [local go_sem] run_store_float run_store_complex unary_neg_float

theorem finB_same {x y : Nat} (h : fsame .f64 x y) : finB x = finB y := by unfold finB; rw [fop_same h h]
theorem eq0_same {x y : Nat} (h : fsame .f64 x y) : eq0 x = eq0 y := by unfold eq0; rw [order_same h (fsame.refl .f64 0)]
theorem sizeF_same {x y : Nat} (h : fsame .f64 x y) : fsame .f64 (sizeF x) (sizeF y) := by
  unfold sizeF
  rw [order_same h (fsame.refl .f64 0)]
  split
  · exact neg_same h
  · exact h
theorem geB_same {x y x' y' : Nat} (h : fsame .f64 x x') (h' : fsame .f64 y y') : geB x y = geB x' y' := by unfold geB; rw [order_same (sizeF_same h) (sizeF_same h')]
theorem over_same {a b c d a' b' c' d' : Nat} (h1 : fsame .f64 a a') (h2 : fsame .f64 b b') (h3 : fsame .f64 c c') (h4 : fsame .f64 d d') :
    overOk a b c d = overOk a' b' c' d' ∧ overRe a b c d = overRe a' b' c' d' ∧ overIm a b c d = overIm a' b' c' d' := by
  have e1 : overOk a b c d = overOk a' b' c' d' := by unfold overOk; rw [finB_same h1, finB_same h2, finB_same h3, finB_same h4, eq0_same h3, eq0_same h4]
  have q1 : fop .quo .f64 d c = fop .quo .f64 d' c' := fop_same h4 h3
  have q2 : fop .quo .f64 c d = fop .quo .f64 c' d' := fop_same h3 h4
  have R := fun x => fsame.refl .f64 x
  refine ⟨e1, ?_, ?_⟩
  · unfold overRe ovRe
    rw [e1, geB_same h3 h4, q1, q2, fop_same (R (fop .quo .f64 d' c')) h4, fop_same (R (fop .quo .f64 c' d')) h3, fop_same h2 (R (fop .quo .f64 d' c')), fop_same h1 (R (fop .quo .f64 c' d')), fop_same h3 (R (fop .mul .f64 (fop .quo .f64 d' c') d')), fop_same h4 (R (fop .mul .f64 (fop .quo .f64 c' d') c')), fop_same h1 (R (fop .mul .f64 b' (fop .quo .f64 d' c'))), fop_same (R (fop .mul .f64 a' (fop .quo .f64 c' d'))) h2]
  · unfold overIm ovIm
    rw [e1, geB_same h3 h4, q1, q2, fop_same (R (fop .quo .f64 d' c')) h4, fop_same (R (fop .quo .f64 c' d')) h3, fop_same h1 (R (fop .quo .f64 d' c')), fop_same h2 (R (fop .quo .f64 c' d')), fop_same h3 (R (fop .mul .f64 (fop .quo .f64 d' c') d')), fop_same h4 (R (fop .mul .f64 (fop .quo .f64 c' d') c')), fop_same h2 (R (fop .mul .f64 a' (fop .quo .f64 d' c'))), fop_same (R (fop .mul .f64 b' (fop .quo .f64 c' d'))) h1]

/-- 1 and 2 as float64. -/
abbrev one64 : Nat := 4607182418800017408
abbrev two64 : Nat := 4611686018427387904
def rpC (ratio : Nat) : Nat := fop .sub .f64 one64 (fop .mul .f64 ratio ratio)
def rpD (ratio damp : Nat) : Nat := fop .mul .f64 (fop .mul .f64 two64 damp) ratio

end Go.Proofs.Ytokmkhflfbkgjaa

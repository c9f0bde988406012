/- Over and what is the same; the contract of the specification's Reply. -/
import Derived.Test.YteohkabenbaaaaaFlG
namespace Go.Proofs.Yteohkabenbaaaaa
open Go.RowKit

attribute [local go_sem] run_store_float run_store_complex unary_neg_float

theorem finB_same {x y : Nat} (h : fsame .f64 x y) : finB x = finB y := by unfold finB; rw [fop_same h h]
theorem eq0_same {x y : Nat} (h : fsame .f64 x y) : eq0 x = eq0 y := by unfold eq0; rw [order_same h (fsame.refl .f64 0)]
theorem sizeF_same {x y : Nat} (h : fsame .f64 x y) : fsame .f64 (sizeF x) (sizeF y) := by
  unfold sizeF
  rw [order_same h (fsame.refl .f64 0)]
  split
  · exact neg_same h
  · exact h
theorem geB_same {x y x' y' : Nat} (h : fsame .f64 x x') (h' : fsame .f64 y y') : geB x y = geB x' y' := by unfold geB; rw [order_same (sizeF_same h) (sizeF_same h')]
theorem over_same {a b c d a' b' c' d' : Nat} (h1 : fsame .f64 a a') (h2 : fsame .f64 b b') (h3 : fsame .f64 c c') (h4 : fsame .f64 d d') :
    overOk a b c d = overOk a' b' c' d' ∧ overRe a b c d = overRe a' b' c' d' ∧ overIm a b c d = overIm a' b' c' d' := by
  have e1 : overOk a b c d = overOk a' b' c' d' := by unfold overOk; rw [finB_same h1, finB_same h2, finB_same h3, finB_same h4, eq0_same h3, eq0_same h4]
  have q1 : fop .quo .f64 d c = fop .quo .f64 d' c' := fop_same h4 h3
  have q2 : fop .quo .f64 c d = fop .quo .f64 c' d' := fop_same h3 h4
  have R := fun x => fsame.refl .f64 x
  refine ⟨e1, ?_, ?_⟩
  · unfold overRe ovRe
    rw [e1, geB_same h3 h4, q1, q2, fop_same (R (fop .quo .f64 d' c')) h4, fop_same (R (fop .quo .f64 c' d')) h3, fop_same h2 (R (fop .quo .f64 d' c')), fop_same h1 (R (fop .quo .f64 c' d')), fop_same h3 (R (fop .mul .f64 (fop .quo .f64 d' c') d')), fop_same h4 (R (fop .mul .f64 (fop .quo .f64 c' d') c')), fop_same h1 (R (fop .mul .f64 b' (fop .quo .f64 d' c'))), fop_same (R (fop .mul .f64 a' (fop .quo .f64 c' d'))) h2]
  · unfold overIm ovIm
    rw [e1, geB_same h3 h4, q1, q2, fop_same (R (fop .quo .f64 d' c')) h4, fop_same (R (fop .quo .f64 c' d')) h3, fop_same h1 (R (fop .quo .f64 d' c')), fop_same h2 (R (fop .quo .f64 c' d')), fop_same h3 (R (fop .mul .f64 (fop .quo .f64 d' c') d')), fop_same h4 (R (fop .mul .f64 (fop .quo .f64 c' d') c')), fop_same h2 (R (fop .mul .f64 a' (fop .quo .f64 d' c'))), fop_same (R (fop .mul .f64 b' (fop .quo .f64 c' d'))) h1]

/-- 1 and 2 as float64. -/
abbrev one64 : Nat := 4607182418800017408
abbrev two64 : Nat := 4611686018427387904
def rpC (ratio : Nat) : Nat := fop .sub .f64 one64 (fop .mul .f64 ratio ratio)
def rpD (ratio damp : Nat) : Nat := fop .mul .f64 (fop .mul .f64 two64 damp) ratio

set_option maxHeartbeats 1600000 in
theorem specReply_any (x y : Nat) (w : World) :
    Calls Try.prog 50 #[.float .f64 x, .float .f64 y] w fun e w' => ∃ r s, e = .returned (.tuple #[vW r s, .bool (overOk one64 0 (rpC x) (rpD x y))]) ∧ fsame .f64 r (overRe one64 0 (rpC x) (rpD x y)) ∧ fsame .f64 s (overIm one64 0 (rpC x) (rpD x y)) ∧ Below w.heap.size w w' := by
  have HO := hide (ownV_alloc w #[.float .f64 0, .float .f64 0] 32)
  have HW := hide (Below.alloc1 w (.cells #[.float .f64 0, .float .f64 0] 32))
  go_enter Try.func50, Try.ntmps50
  go_wp2_with (first | (refine wpList_float rfl .mul _ _ _ _ rfl rfl .f64 x x rfl rfl ?_; intro r1 n1 h1) | (refine wpList_float rfl .mul _ _ _ _ rfl rfl .f64 two64 y rfl rfl ?_; intro r2 n2 h2) | (refine wpList_float rfl .mul _ _ _ _ rfl rfl .f64 _ x rfl rfl ?_; intro r3 n3 h3) | (refine wpList_float rfl .sub _ _ _ _ rfl rfl .f64 one64 _ rfl rfl ?_; intro r4 n4 h4))
  have g3 : fsame .f64 r3 (rpD x y) := fop_to h3 h2 (fsame.refl _ _)
  have g4 : fsame .f64 r4 (rpC x) := fop_to h4 (fsame.refl _ _) h1
  obtain ⟨q1, q2, q3⟩ := over_same (fsame.refl .f64 one64) (fsame.refl .f64 0) g4 g3
  have HC := hide fun V => specOver_any one64 0 r4 r3 V
  rw [q1, q2, q3] at HC
  obtain ⟨ok, eok⟩ : ∃ b, b = overOk one64 0 (rpC x) (rpD x y) := ⟨_, rfl⟩
  rw [← eok] at HC
  have EOK := hide eok
  clear eok
  unfold vW at HC
  refine (unhide HC _).mono ?_
  rintro e w1 ⟨r, s, rfl, hr, hs, hb⟩
  have HO1 := hide (OwnV.step (OwnV.drewN (unhide HO) (n1 + n2 + n3 + n4)) hb)
  replace HW := hide (Below.step (below_drewN (unhide HW) (n1 + n2 + n3 + n4)) hb)
  have c0 := (unhide HO1).cell (i := 0) rfl
  have c1 := (unhide HO1).cell (i := 1) rfl
  have f0 := (unhide HO1).frozen
  clear hb HC HO h1 h2 h3 h4 g3 g4 q1 q2 q3
  go_wp2
  have hc := (OwnV.set (unhide HO1) 0 (.float .f64 r) (by simp)).set 1 (.float .f64 s) (by simp)
  have k0 := hc.cell (i := 0) rfl
  have k1 := hc.cell (i := 1) rfl
  refine bodyPost_ret (v := .tuple #[vW r s, .bool ok]) (by simp [results, Try.results50, go_sem, vW, k0, k1]) rfl ⟨r, s, by rw [unhide EOK], hr, hs, ?_⟩
  exact ((unhide HW).setCell (p := ⟨w.heap.size, 0, none⟩) (Nat.le_refl _) _).setCell (p := ⟨w.heap.size, 1, none⟩) (Nat.le_refl _) _

end Go.Proofs.Yteohkabenbaaaaa

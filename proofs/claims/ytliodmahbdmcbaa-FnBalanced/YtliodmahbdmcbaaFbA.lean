/- What is balanced, in numbers: twice the weights end at 0; one weight more does not; what is greatest lies in its list. -/
import Derived.Test.YtliodmahbdmcbaaSgD
import Derived.Test.YtliodmahbdmcbaaSgE
namespace Go.Proofs.Ytliodmahbdmcbaa
open Go.RowKit

def dbl (W : List Int) : List Int := W.map (2 * ·)

theorem dbl_get (W : List Int) (i : Nat) : (dbl W).getD i 0 = 2 * W.getD i 0 := by
  by_cases h : i < W.length
  · simp [dbl, List.getD, h]
  · simp [dbl, List.getD, h]

theorem shAt_zero (W : List Int) : ∀ k, shAt W (dbl W) k = 0
  | 0 => rfl
  | k + 1 => by rw [shAt_succ, shAt_zero W k, dbl_get]; omega

theorem beAt_zero (W : List Int) (st : Int) : ∀ k, beAt W (dbl W) st k = 0
  | 0 => rfl
  | k + 1 => by rw [beAt_succ, beAt_zero W st k, shAt_zero, shAt_zero]; simp

/-- Weights as FnBalanced draws them. -/
def wOk (W : List Int) : Prop := W.length ≤ 8 ∧ ∀ x ∈ W, 0 ≤ x ∧ x ≤ 255

theorem shOk_dbl {W B : List Int} (h : wOk W) (hl : B.length = W.length) (hB : ∀ x ∈ B, 0 ≤ x ∧ x ≤ 765) : shOk W B = true := by
  simp only [shOk, Bool.and_eq_true, decide_eq_true_eq]
  refine ⟨⟨⟨hl.symm, by have := h.1; omega⟩, List.all_eq_true.2 fun x hx => ?_⟩, List.all_eq_true.2 fun x hx => ?_⟩
  · have := h.2 x hx; exact inB_mk (by omega) (by omega)
  · have := hB x hx; exact inB_mk (by omega) (by omega)

theorem dbl_bd {W : List Int} (h : wOk W) : ∀ x ∈ dbl W, 0 ≤ x ∧ x ≤ 765 := fun x hx => by
  simp only [dbl, List.mem_map] at hx
  obtain ⟨y, hy, rfl⟩ := hx
  have := h.2 y hy; omega

theorem bal_true {W : List Int} {st : Int} (h : wOk W) (h1 : 0 < W.length) (s0 : 1 ≤ st) (s1 : st ≤ 100) : balanced W (dbl W) st = true := by
  rw [balanced, beOk, shOk_dbl h (by simp [dbl]) (dbl_bd h), inB_mk s0 s1, shAt_zero, beAt_zero]
  simp [h1]

theorem bal_five {W : List Int} {st : Int} : balanced (W ++ [5]) (dbl W ++ [0]) st = false := by
  have h : shAt (W ++ [5]) (dbl W ++ [0]) (W ++ [5]).length = 10 := by
    have e : ∀ k, k ≤ W.length → shAt (W ++ [5]) (dbl W ++ [0]) k = 0 := by
      intro k
      induction k with
      | zero => intro _; rfl
      | succ k ih =>
        intro hk
        rw [shAt_succ, ih (by omega)]
        have a : (W ++ [5]).getD k 0 = W.getD k 0 := by simp [List.getD, List.getElem?_append, show k < W.length by omega]
        have b : (dbl W ++ [0]).getD k 0 = (dbl W).getD k 0 := by simp [List.getD, List.getElem?_append, dbl, show k < W.length by omega]
        rw [a, b, dbl_get]; omega
    have el : (W ++ [5]).length = W.length + 1 := by simp
    rw [el, shAt_succ, e _ (Nat.le_refl _)]
    have a : (W ++ [5]).getD W.length 0 = 5 := by simp [List.getD]
    have b : (dbl W ++ [0]).getD W.length 0 = 0 := by simp [List.getD, dbl]
    rw [a, b]; rfl
  rw [balanced, h]; simp

theorem bal_none (st : Int) : balanced [] [] st = false := by simp [balanced]

theorem set_get (W : List Int) (z : Int) (i : Nat) (h0 : 0 < i) : ((dbl W).set 0 z).getD i 0 = 2 * W.getD i 0 := by
  rw [← dbl_get]
  simp [List.getD, show ¬ 0 = i by omega]

theorem shAt_set {W : List Int} (z : Int) : ∀ k, k + 1 ≤ W.length → shAt W ((dbl W).set 0 z) (k + 1) = 2 * W.getD 0 0 - z
  | 0, h => by
    rw [shAt_succ]
    have : ((dbl W).set 0 z).getD 0 0 = z := by simp [List.getD, dbl, show 0 < W.length by omega]
    rw [this]; simp [shAt, sumTo]
  | k + 1, h => by rw [shAt_succ, shAt_set z k (by omega), set_get W z (k + 1) (by omega)]; omega

theorem set_bd {W : List Int} (h : wOk W) {z : Int} (z0 : 0 ≤ z) (z1 : z ≤ 765) : ∀ x ∈ (dbl W).set 0 z, 0 ≤ x ∧ x ≤ 765 := fun x hx => by
  rcases List.mem_or_eq_of_mem_set hx with h1 | h1
  · exact dbl_bd h x h1
  · omega

/-- What is greatest in size: its place lies in the list, and none is greater. -/
theorem gSt_max (L : List Int) : ∀ k, 0 < k → 0 ≤ (gSt L k).1 ∧ (gSt L k).1 < k ∧ L.getD (gSt L k).1.toNat 0 = (gSt L k).2 ∧ ∀ i, i < k → (L.getD i 0).natAbs ≤ (gSt L k).2.natAbs
  | 0, h => by omega
  | k + 1, _ => by
    unfold gSt
    split
    · rename_i hc
      refine ⟨by dsimp only; omega, by dsimp only; omega, by simp, fun i hi => ?_⟩
      dsimp only
      by_cases e : i = k
      · subst e; omega
      · have h0 : 0 < k := by omega
        obtain ⟨a, b, c, d⟩ := gSt_max L k h0
        have := d i (by omega)
        rcases hc with hc | hc <;> omega
    · rename_i hc
      have h0 : 0 < k := by
        by_cases e : k = 0
        · subst e; exact absurd (Or.inl (by simp [gSt])) hc
        · omega
      obtain ⟨a, b, c, d⟩ := gSt_max L k h0
      refine ⟨a, by omega, c, fun i hi => ?_⟩
      by_cases e : i = k
      · subst e; exact Nat.le_of_not_lt (fun h => hc (Or.inr h))
      · exact d i (by omega)

theorem lsize_any (x : Int) (w : World) (h0 : -9223372036854775807 ≤ x) (h1 : x ≤ 9223372036854775807) : Calls Try.prog 19 #[.int .i64 x] w fun e w' => e = .returned (.int .i64 x.natAbs) ∧ w = w' := by
  by_cases hx : x < 0
  · go_enter Try.func19, Try.ntmps19
    go_wp2
    go_ret
    exact ⟨ret_int (by omega), rfl⟩
  · go_enter Try.func19, Try.ntmps19
    go_wp2
    go_ret
    exact ⟨ret_int (by omega), rfl⟩

end Go.Proofs.Ytliodmahbdmcbaa

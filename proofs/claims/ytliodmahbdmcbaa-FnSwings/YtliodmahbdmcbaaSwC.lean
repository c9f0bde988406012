/- The contract of the program's Swings. -/
import Derived.Test.YtliodmahbdmcbaaSwB
import Derived.Test.YtliodmahbdmcbaaSgT4
namespace Go.Proofs.Ytliodmahbdmcbaa
open Go.RowKit Go.Shelf

attribute [local go_sem] Oper.semAt_some

/-- Swings are told as long as the last turn has gone back far enough. -/
def red : Nat → List Int → List Sw → List Int × List Sw
  | 0, xs, out => (xs, out)
  | n + 1, xs, out => if closedB xs = true then red n (closeS xs) (out ++ [swing xs]) else (xs, out)
def pushS (s : List Int × List Sw) (n : Int) : List Int × List Sw := red (s.1.length + 1) (s.1 ++ [n]) s.2
def swSt (ts : List Int) : List Int × List Sw := ts.foldl pushS ([], [])
theorem swSt_snoc (ts : List Int) (n : Int) : swSt (ts ++ [n]) = pushS (swSt ts) n := by simp [swSt]
def halves (xs : List Int) : List Sw := (List.range (xs.length - 1)).map fun i => (((xs.getD i 0 - xs.getD (i + 1) 0).natAbs : Int), true)
def swingsOf (L : List Int) : List Sw := (swSt (turnsOf L)).2 ++ halves (swSt (turnsOf L)).1

theorem closedB_len {xs : List Int} (h : closedB xs = true) : 3 ≤ xs.length := by
  simp only [closedB, Bool.and_eq_true, decide_eq_true_eq] at h
  exact h.1

theorem red_stop {n : Nat} {xs : List Int} {out : List Sw} (h : closedB xs = false) : red n xs out = (xs, out) := by
  cases n with
  | zero => rfl
  | succ n => rw [red, if_neg (by simp [h])]

theorem red_go {n : Nat} {xs : List Int} {out : List Sw} (h : closedB xs = true) : red (n + 1) xs out = red n (closeS xs) (out ++ [swing xs]) := by rw [red, if_pos h]

/-- With as many steps as numbers it comes to its end. -/
theorem red_inv : ∀ (n : Nat) (xs : List Int) (out : List Sw), lvl xs → xs.length ≤ n → lvl (red n xs out).1 ∧ (red n xs out).2.length + (red n xs out).1.length ≤ out.length + xs.length
  | 0, xs, out, h, _ => ⟨h, Nat.le_refl _⟩
  | n + 1, xs, out, h, hn => by
    unfold red
    split
    · rename_i hc
      obtain ⟨h1, h2⟩ := closeS_lvl h (closedB_len hc)
      obtain ⟨h3, h4⟩ := red_inv n (closeS xs) (out ++ [swing xs]) h1 (by omega)
      refine ⟨h3, ?_⟩
      simp only [List.length_append, List.length_singleton] at h4
      omega
    · exact ⟨h, Nat.le_refl _⟩

theorem swSt_inv (ts : List Int) (hl : ts.length ≤ 201) (hb : ∀ x ∈ ts, -1000000000 ≤ x ∧ x ≤ 1000000000) : ∀ k, k ≤ ts.length → lvl (swSt (ts.take k)).1 ∧ (swSt (ts.take k)).2.length + (swSt (ts.take k)).1.length ≤ k
  | 0, _ => by simp [swSt, lvl]
  | k + 1, hk => by
    obtain ⟨i1, i2⟩ := swSt_inv ts hl hb k (by omega)
    have e : ts.take (k + 1) = ts.take k ++ [ts.getD k 0] := by rw [List.take_add_one]; simp [List.getD, show k < ts.length by omega]
    rw [e, swSt_snoc]
    have hlv : lvl ((swSt (ts.take k)).1 ++ [ts.getD k 0]) := by
      refine ⟨by simp; omega, fun x hx => ?_⟩
      rcases List.mem_append.1 hx with hx | hx
      · exact i1.2 x hx
      · simp only [List.mem_singleton] at hx
        subst hx
        exact hb _ (by rw [getD_lt (show k < ts.length by omega)]; exact List.getElem_mem _)
    obtain ⟨r1, r2⟩ := red_inv ((swSt (ts.take k)).1.length + 1) _ (swSt (ts.take k)).2 hlv (by simp)
    refine ⟨r1, ?_⟩
    show (red _ _ _).2.length + (red _ _ _).1.length ≤ _
    simp only [List.length_append, List.length_singleton] at r2
    omega

end Go.Proofs.Ytliodmahbdmcbaa

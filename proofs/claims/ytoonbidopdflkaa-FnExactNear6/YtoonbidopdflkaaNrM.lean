/- Features by their distance, and by id among those as far: mathematics of Near6. No statement about the program stands here. -/
import Derived.Test.YtoonbidopdflkaaChE
namespace Go.Proofs.Ytoonbidopdflkaa

def nrLt (x y : Int) (a b : FeatureT) : Prop := nrAt a x y < nrAt b x y ∨ (nrAt a x y = nrAt b x y ∧ a.1 < b.1)
def nrH (F : List FeatureT) (x y : Int) : Nat → List FeatureT
  | 0 => []
  | d + 1 => nrH F x y d ++ F.filter (fun f => decide (nrAt f x y = d))

theorem filter_two {α : Type} (p q r : α → Bool) (h : ∀ a, r a = (p a || q a)) (hd : ∀ a, (p a && q a) = false) : ∀ l : List α, (l.filter r).Perm (l.filter p ++ l.filter q)
  | [] => List.Perm.refl _
  | a :: l => by
    have ih := filter_two p q r h hd l
    have h1 := h a
    have h2 := hd a
    cases hp : p a <;> cases hq : q a <;> rw [hp, hq] at h1 h2
    · simp only [List.filter_cons, hp, hq, h1]; simpa using ih
    · simp only [List.filter_cons, hp, hq, h1]
      simp only [Bool.or_true, if_true, Bool.false_eq_true, if_false]
      exact (List.Perm.cons a ih).trans List.perm_middle.symm
    · simp only [List.filter_cons, hp, hq, h1]
      simp only [Bool.or_false, if_true, Bool.false_eq_true, if_false, List.cons_append]
      exact List.Perm.cons a ih
    · cases h2

theorem eq_of_perm {α : Type} {R : α → α → Prop} (hR : ∀ a b, R a b → R b a → False) : ∀ {l1 l2 : List α}, l1.Perm l2 → l1.Pairwise R → l2.Pairwise R → l1 = l2
  | [], l2, h, _, _ => (List.nil_perm.1 h).symm
  | a :: t1, [], h, _, _ => by have := h.length_eq; simp at this
  | a :: t1, b :: t2, h, h1, h2 => by
    rw [List.pairwise_cons] at h1 h2
    have hab : a = b := by
      apply Classical.byContradiction
      intro hne
      have ha : a ∈ b :: t2 := h.subset List.mem_cons_self
      have hb : b ∈ a :: t1 := h.symm.subset List.mem_cons_self
      rcases List.mem_cons.1 ha with e | ha
      · exact hne e
      rcases List.mem_cons.1 hb with e | hb
      · exact hne e.symm
      exact hR a b (h1.1 b hb) (h2.1 a ha)
    subst hab
    rw [eq_of_perm hR (List.Perm.cons_inv h) h1.2 h2.2]

theorem nearR_take (F : List FeatureT) (x y : Int) (d : Nat) : ∀ k, k ≤ F.length → nearR F x y d k = ((F.take k).filter (fun f => decide (nrAt f x y = d))).map (·.1)
  | 0, _ => by simp [nearR]
  | k + 1, hk => by
    have ih := nearR_take F x y d k (by omega)
    have hlt : k < F.length := by omega
    have e : F.take (k + 1) = F.take k ++ [F.getD k default] := by rw [List.take_add_one, List.getElem?_eq_getElem hlt, getD_lt hlt]; rfl
    rw [nearR, ih, e, List.filter_append, List.map_append]
    generalize F.getD k default = z
    by_cases h : nrAt z x y = d
    · rw [if_pos h]; simp [h]
    · rw [if_neg h]; simp [h]
theorem nearD_H (F : List FeatureT) (x y : Int) : ∀ n, nearD F x y n = (nrH F x y n).map (·.1)
  | 0 => rfl
  | d + 1 => by rw [nearD, nrH, nearD_H F x y d, nearR_take F x y d F.length (Nat.le_refl _), List.take_length, List.map_append]
theorem nrAt_pos (f : FeatureT) (x y : Int) : 0 ≤ nrAt f x y := by unfold nrAt; omega
theorem nrH_lt (F : List FeatureT) (x y : Int) : ∀ n a, a ∈ nrH F x y n → nrAt a x y < n
  | 0, a, h => by simp [nrH] at h
  | d + 1, a, h => by
    rw [nrH, List.mem_append] at h
    rcases h with h | h
    · have := nrH_lt F x y d a h; omega
    · have := of_decide_eq_true (List.mem_filter.1 h).2; omega
theorem nrH_perm (F : List FeatureT) (x y : Int) : ∀ n, (nrH F x y n).Perm (F.filter (fun f => decide (nrAt f x y < n)))
  | 0 => by
    have : F.filter (fun f => decide (nrAt f x y < (0 : Nat))) = [] := by
      rw [List.filter_eq_nil_iff]
      intro a _
      have := nrAt_pos a x y
      simp; omega
    rw [this]; exact List.Perm.refl _
  | d + 1 => by
    have ih := nrH_perm F x y d
    refine List.Perm.trans ?_ (filter_two (fun f => decide (nrAt f x y < d)) (fun f => decide (nrAt f x y = d)) (fun f => decide (nrAt f x y < (d + 1 : Nat))) (fun a => ?_) (fun a => ?_) F).symm
    · exact List.Perm.append_right _ ih
    · rw [← Bool.decide_or, decide_eq_decide]; omega
    · rw [← Bool.decide_and, decide_eq_false_iff_not]; omega
theorem nrH_pair (F : List FeatureT) (x y : Int) (hF : F.Pairwise (fun a b => a.1 < b.1)) : ∀ n, (nrH F x y n).Pairwise (nrLt x y)
  | 0 => List.Pairwise.nil
  | d + 1 => by
    rw [nrH, List.pairwise_append]
    refine ⟨nrH_pair F x y hF d, ?_, fun a ha b hb => ?_⟩
    · refine List.Pairwise.imp_of_mem (fun {a b} ha hb h => ?_) (hF.filter _)
      have h1 := of_decide_eq_true (List.mem_filter.1 ha).2
      have h2 := of_decide_eq_true (List.mem_filter.1 hb).2
      exact Or.inr ⟨by omega, h⟩
    · have h1 := nrH_lt F x y d a ha
      have h2 := of_decide_eq_true (List.mem_filter.1 hb).2
      exact Or.inl (by omega)

theorem near_sorted (F S : List FeatureT) (x y : Int) (n : Nat) (hF : F.Pairwise (fun a b => a.1 < b.1)) (hp : S.Perm F) (hs : S.Pairwise (fun a b => ¬ nrLt x y b a)) :
    (S.filter (fun f => decide (nrAt f x y < n))).map (·.1) = nearD F x y n := by
  rw [nearD_H]
  congr 1
  refine eq_of_perm (R := nrLt x y) (fun a b h1 h2 => by unfold nrLt at h1 h2; omega) ((hp.filter _).trans (nrH_perm F x y n).symm) ?_ (nrH_pair F x y hF n)
  refine List.Pairwise.filter _ ?_
  have hne : S.Pairwise (fun a b => a.1 ≠ b.1) := by
    have h1 : F.Pairwise (fun a b => a.1 ≠ b.1) := hF.imp (fun h => by omega)
    exact (List.Perm.pairwise_iff (fun {a b} h => fun e => h e.symm) hp).2 h1
  refine (List.Pairwise.and hs hne).imp (fun {a b} h => ?_)
  unfold nrLt at h ⊢
  omega

/-- The ids of a right chart are ascending. -/
theorem chart_asc {c : Ch} (h : chartB c = true) : c.F.Pairwise (fun a b => a.1 < b.1) := by
  simp only [chartB, Bool.and_eq_true] at h
  have step : ∀ i, i + 1 < c.F.length → (c.F.getD i default).1 < (c.F.getD (i + 1) default).1 := fun i hi => by
    have hf := List.all_eq_true.1 h.2 (i + 1) (by simpa using hi)
    simp only [featsB, Bool.and_eq_true, Bool.or_eq_true, decide_eq_true_eq] at hf
    rcases hf.2 with e | e
    · omega
    · simpa using e
  have all : ∀ k i, i + k + 1 < c.F.length → (c.F.getD i default).1 < (c.F.getD (i + k + 1) default).1 := fun k => by
    induction k with
    | zero => exact fun i hi => step i hi
    | succ k ih =>
        intro i hi
        have h1 := ih i (by omega)
        have h2 := step (i + k + 1) (by omega)
        exact Int.lt_trans h1 h2
  rw [List.pairwise_iff_getElem]
  intro i j hi hj hij
  have := all (j - i - 1) i (by omega)
  rw [show i + (j - i - 1) + 1 = j by omega, getD_lt hi, getD_lt hj] at this
  exact this

end Go.Proofs.Ytoonbidopdflkaa

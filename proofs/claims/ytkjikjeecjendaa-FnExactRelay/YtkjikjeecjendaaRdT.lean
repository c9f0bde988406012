/- Calls that go round: the mathematics of both ways of reckoning them. No statement about the program stands here. -/
import Derived.Test.YtkjikjeecjendaaRdR
namespace Go.Proofs.Ytkjikjeecjendaa
open Go.RowKit

noncomputable def relayV (L : List Rad) (fr : Int) : List Int :=
  @ite _ (radsB L = true ∧ inB fr 0 ((L.length : Int) - 1) = true) (Classical.propDecidable _) (@dite _ (∃ P, Wave9 L fr.toNat P) (Classical.propDecidable _) (fun h => Classical.choose h) (fun _ => [])) []
noncomputable def relayB (L : List Rad) (fr : Int) : Bool := radsB L && inB fr 0 ((L.length : Int) - 1)
theorem relayV_no {L : List Rad} {fr : Int} (h : ¬ (radsB L = true ∧ inB fr 0 ((L.length : Int) - 1) = true)) : relayV L fr = [] := by unfold relayV; rw [if_neg h]
theorem relayV_eq {L : List Rad} {f : Nat} {P : List Int} (h1 : radsB L = true) (h2 : inB (f : Int) 0 ((L.length : Int) - 1) = true) (hP : Wave9 L f P) : relayV L f = P := by
  have hex : ∃ P, Wave9 L ((f : Int)).toNat P := ⟨P, by rw [Int.toNat_natCast]; exact hP⟩
  unfold relayV
  rw [if_pos ⟨h1, h2⟩, dif_pos hex]
  have := Classical.choose_spec hex
  have hP' : Wave9 L ((f : Int)).toNat P := by rw [Int.toNat_natCast]; exact hP
  exact Wave9.one this hP'
theorem relayV_len (L : List Rad) (fr : Int) : (relayV L fr).length ≤ 24 := by
  unfold relayV
  split
  · rename_i h
    split
    · rename_i hex
      have h1 := (Classical.choose_spec hex).len
      have h2 := (of_pB (p := RadsOk L) h.1).2.1
      omega
    · simp
  · simp

/-- Fewer than all. -/
theorem countP_lt {α : Type} {p q : α → Bool} (l : List α) (h : ∀ x, p x = true → q x = true) (a : α) (ha : a ∈ l) (hq : q a = true) (hp : p a = false) : l.countP p < l.countP q := by
  induction l with
  | nil => simp at ha
  | cons b l ih =>
    have hle : l.countP p ≤ l.countP q := List.countP_mono_left fun x _ => h x
    rw [List.countP_cons, List.countP_cons]
    rcases List.mem_cons.1 ha with e | e
    · subst e
      rw [hq, hp]
      simp
      omega
    · have := ih e
      by_cases hb : p b = true
      · rw [hb, h b hb]; simp; omega
      · rw [if_neg hb]
        split <;> omega

/-- Level by level, as the specification goes. -/
structure Lev (L : List Rad) (f d i : Nat) (P : List Int) : Prop where
  len : P.length = L.length
  low : ∀ v, v < L.length → -1 ≤ P.getD v 0
  zero : ∀ v, v < L.length → (P.getD v 0 = 0 ↔ v = f)
  pred : ∀ v, v < L.length → 0 < P.getD v 0 → ∃ u, Edge L u v ∧ P.getD u 0 = P.getD v 0 - 1
  up : ∀ v, v < L.length → P.getD v 0 ≤ (d : Int) + 1
  rel0 : ∀ u v, Edge L u v → 0 ≤ P.getD u 0 → P.getD u 0 < d → 0 ≤ P.getD v 0 ∧ P.getD v 0 ≤ P.getD u 0 + 1
  rel1 : ∀ u v, Edge L u v → u < i → P.getD u 0 = d → 0 ≤ P.getD v 0
theorem getD_set (P : List Int) (j : Nat) (x : Int) (v : Nat) (hj : j < P.length) : (P.set j x).getD v 0 = if v = j then x else P.getD v 0 := by
  by_cases e : v = j
  · subst e; rw [if_pos rfl]; simp [List.getD, hj]
  · rw [if_neg e]; simp [List.getD, List.getElem?_set_ne (show j ≠ v by omega)]
theorem Lev.start (L : List Rad) (f : Nat) (hf : f < L.length) : Lev L f 0 0 ((List.replicate L.length (-1)).set f 0) := by
  have hg : ∀ v, v < L.length → ((List.replicate L.length (-1 : Int)).set f 0).getD v 0 = if v = f then 0 else -1 := fun v hv => by
    rw [getD_set _ _ _ _ (by simpa using hf)]
    split
    · rfl
    · simp [List.getD, hv]
  refine ⟨by simp, fun v hv => ?_, fun v hv => ?_, fun v hv h => ?_, fun v hv => ?_, fun u v hE h1 h2 => ?_, fun u v hE h => by omega⟩
  · rw [hg v hv]; split <;> omega
  · rw [hg v hv]
    constructor
    · intro h; split at h
      · assumption
      · omega
    · intro h; rw [if_pos h]
  · rw [hg v hv] at h; split at h <;> omega
  · rw [hg v hv]; split <;> omega
  · omega
/-- One is told. -/
theorem Lev.put {L : List Rad} {f d i j : Nat} {P : List Int} (h : Lev L f d i P) (hE : Edge L i j) (hi : P.getD i 0 = d) (hj : P.getD j 0 < 0) : Lev L f d i (P.set j ((d : Int) + 1)) := by
  have hjl : j < P.length := by rw [h.len]; exact hE.2.1
  have g : ∀ v, (P.set j ((d : Int) + 1)).getD v 0 = if v = j then (d : Int) + 1 else P.getD v 0 := fun v => getD_set P j _ v hjl
  refine ⟨by rw [List.length_set]; exact h.len, fun v hv => ?_, fun v hv => ?_, fun v hv hp => ?_, fun v hv => ?_, fun u v hE' h1 h2 => ?_, fun u v hE' h1 h2 => ?_⟩
  · rw [g]; split
    · omega
    · exact h.low v hv
  · rw [g]
    by_cases e : v = j
    · rw [if_pos e]
      constructor
      · intro h0; omega
      · intro h0
        have := (h.zero v hv).2 h0
        rw [e] at this
        omega
    · rw [if_neg e]; exact h.zero v hv
  · rw [g] at hp
    by_cases e : v = j
    · subst e
      refine ⟨i, hE, ?_⟩
      rw [g, g, if_pos rfl, if_neg (fun e => by rw [e] at hi; omega), hi]
      omega
    · rw [if_neg e] at hp
      obtain ⟨u, hu, hpu⟩ := h.pred v hv hp
      refine ⟨u, hu, ?_⟩
      rw [g, g, if_neg e, if_neg (fun e => by rw [e] at hpu; omega)]
      exact hpu
  · rw [g]; split
    · omega
    · exact h.up v hv
  · rw [g] at h1 h2
    by_cases e : u = j
    · rw [if_pos e] at h2; omega
    · rw [if_neg e] at h1 h2
      obtain ⟨q1, q2⟩ := h.rel0 u v hE' h1 h2
      rw [g, g, if_neg e, if_neg (fun e => by rw [e] at q1; omega)]
      exact ⟨q1, q2⟩
  · rw [g] at h2
    by_cases e : u = j
    · rw [if_pos e] at h2; omega
    · rw [if_neg e] at h2
      have q1 := h.rel1 u v hE' h1 h2
      rw [g]
      split <;> omega
theorem Lev.next {L : List Rad} {f d i : Nat} {P : List Int} (h : Lev L f d i P) (hr : P.getD i 0 = d → ∀ k, k < (rHe L i).length → ∀ v : Nat, (rHe L i).getD k 0 = (v : Int) → 0 ≤ P.getD v 0) : Lev L f d (i + 1) P :=
  ⟨h.len, h.low, h.zero, h.pred, h.up, h.rel0, fun u v hE h1 h2 => by
    by_cases e : u = i
    · subst e
      obtain ⟨_, _, k, hk, hv⟩ := hE
      exact hr h2 k hk v hv
    · exact h.rel1 u v hE (by omega) h2⟩
theorem Lev.level {L : List Rad} {f d : Nat} {P : List Int} (h : Lev L f d L.length P) : Lev L f (d + 1) 0 P :=
  ⟨h.len, h.low, h.zero, h.pred, fun v hv => by have := h.up v hv; omega, fun u v hE h1 h2 => by
    by_cases e : P.getD u 0 = d
    · have q1 := h.rel1 u v hE hE.1 e
      have q2 := h.up v hE.2.1
      exact ⟨q1, by omega⟩
    · exact h.rel0 u v hE h1 (by omega), fun u v hE h1 => by omega⟩
theorem Lev.done {L : List Rad} {f : Nat} {P : List Int} (h : Lev L f L.length 0 P) : Wave9 L f P := by
  -- as many places as levels
  have cnt : ∀ (j v : Nat), v < L.length → P.getD v 0 = (j : Int) → j + 1 ≤ (List.range L.length).countP (fun x => decide (0 ≤ P.getD x 0 ∧ P.getD x 0 ≤ (j : Int))) := by
    intro j
    induction j with
    | zero =>
      intro v hv hp
      have := List.countP_pos_iff (p := fun x => decide (0 ≤ P.getD x 0 ∧ P.getD x 0 ≤ ((0 : Nat) : Int))) (l := List.range L.length) |>.2 ⟨v, List.mem_range.2 hv, by show decide (0 ≤ P.getD v 0 ∧ P.getD v 0 ≤ ((0 : Nat) : Int)) = true; rw [decide_eq_true_eq]; omega⟩
      omega
    | succ j ih =>
      intro v hv hp
      obtain ⟨u, hE, hu⟩ := h.pred v hv (by omega)
      have h1 := ih u hE.1 (by omega)
      have h2 := countP_lt (p := fun x => decide (0 ≤ P.getD x 0 ∧ P.getD x 0 ≤ (j : Int))) (q := fun x => decide (0 ≤ P.getD x 0 ∧ P.getD x 0 ≤ ((j + 1 : Nat) : Int))) (List.range L.length) (fun x hx => by
        rw [decide_eq_true_eq] at hx ⊢
        omega) v (List.mem_range.2 hv) (by rw [decide_eq_true_eq]; omega) (by rw [decide_eq_false_iff_not]; omega)
      omega
  have bound : ∀ v, v < L.length → P.getD v 0 < (L.length : Int) := fun v hv => by
    rcases Int.lt_or_le (P.getD v 0) (L.length : Int) with hlt | hge
    · exact hlt
    · have hup := h.up v hv
      obtain ⟨j, hj⟩ : ∃ j : Nat, P.getD v 0 = (j : Int) := ⟨(P.getD v 0).toNat, by omega⟩
      have h1 := cnt j v hv hj
      have h2 := List.countP_le_length (p := fun x => decide (0 ≤ P.getD x 0 ∧ P.getD x 0 ≤ (j : Int))) (l := List.range L.length)
      rw [List.length_range] at h2
      omega
  exact ⟨h.len, h.low, h.zero, h.pred, fun u v hE hu => h.rel0 u v hE hu (bound u hE.1)⟩

end Go.Proofs.Ytkjikjeecjendaa

/- Cheapest ways by a heap, in numbers: what is held from one taking to the next; in the end the costs are proved. Mathematics; no statement about the program stands here. -/
import Derived.Test.YtdpcacfgbjllhaaSeH
import Derived.Test.YtdpcacfgbjllhaaHpM
namespace Go.Proofs.Ytdpcacfgbjllhaa
open Go.RowKit

/-- Costs M that are told for good, reaches L in the heap, none below t; E p q: p by way of q has not been looked at yet. -/
structure Dj (s : Se) (x : Nat) (M : List Int) (L : List Rc) (t : Int) (E : Nat → Nat → Prop) : Prop where
  len : M.length = s.D.length
  t0 : 0 ≤ t
  low : ∀ p, p < s.D.length → -1 ≤ M.getD p 0
  land : ∀ p, p < s.D.length → s.D.getD p 0 = 0 → M.getD p 0 = -1
  top : ∀ p, p < s.D.length → M.getD p 0 ≤ t
  ent : ∀ e, e ∈ L → ∃ p : Nat, e.2 = (p : Int) ∧ p < s.D.length ∧ 0 < s.D.getD p 0 ∧ t ≤ e.1 ∧ e.1 ≤ 1000 * (cnt M : Int) ∧ ((p = x ∧ e.1 = 0) ∨ ∃ q, q < s.D.length ∧ 0 ≤ M.getD q 0 ∧ nextB s.wd (p : Int) (q : Int) = true ∧ e.1 = M.getD q 0 + s.D.getD p 0)
  beg : M.getD x 0 = 0 ∨ ((0, (x : Int)) ∈ L ∧ ∀ e, e ∈ L → e = (0, (x : Int)))
  cov : ∀ p q, p < s.D.length → q < s.D.length → 0 ≤ M.getD q 0 → 0 < s.D.getD p 0 → nextB s.wd (p : Int) (q : Int) = true → 0 ≤ M.getD p 0 ∨ (M.getD q 0 + s.D.getD p 0, (p : Int)) ∈ L ∨ E p q
  rel : ∀ p q, p < s.D.length → q < s.D.length → 0 ≤ M.getD q 0 → 0 ≤ M.getD p 0 → nextB s.wd (p : Int) (q : Int) = true → M.getD p 0 ≤ M.getD q 0 + s.D.getD p 0
  came : ∀ p, p < s.D.length → 0 ≤ M.getD p 0 → p = x ∨ ∃ q, q < s.D.length ∧ 0 ≤ M.getD q 0 ∧ nextB s.wd (p : Int) (q : Int) = true ∧ M.getD q 0 + s.D.getD p 0 ≤ M.getD p 0
  high : ∀ p, p < s.D.length → 0 ≤ M.getD p 0 → M.getD p 0 + 1000 ≤ 1000 * (cnt M : Int)

theorem Dj.cnt_le {s : Se} {x : Nat} {M : List Int} {L : List Rc} {t : Int} {E : Nat → Nat → Prop} (h : Dj s x M L t E) : cnt M ≤ s.D.length := by rw [← h.len]; exact List.countP_le_length
theorem cnt_none (n : Nat) : cnt (List.replicate n (-1)) = 0 := by
  unfold cnt
  rw [List.countP_eq_zero]
  intro a ha
  rw [List.eq_of_mem_replicate ha]
  simp
theorem repl_at {n p : Nat} (h : p < n) : (List.replicate n (-1 : Int)).getD p 0 = -1 := by simp [List.getD, h]
theorem dj_start {s : Se} {x : Nat} (hx : x < s.D.length) (hd : 0 < s.D.getD x 0) : Dj s x (List.replicate s.D.length (-1)) [(0, (x : Int))] 0 (fun _ _ => False) where
  len := by simp
  t0 := by omega
  low := fun p hp => by rw [repl_at hp]; omega
  land := fun p hp _ => repl_at hp
  top := fun p hp => by rw [repl_at hp]; omega
  ent := fun e he => by
    rw [List.mem_singleton] at he
    subst he
    exact ⟨x, rfl, hx, hd, by simp, by rw [cnt_none]; simp, Or.inl ⟨rfl, rfl⟩⟩
  beg := Or.inr ⟨by simp, fun e he => by simpa using he⟩
  cov := fun p q hp hq h0 => by rw [repl_at hq] at h0; omega
  rel := fun p q hp hq h0 => by rw [repl_at hq] at h0; omega
  came := fun p hp h0 => by rw [repl_at hp] at h0; omega
  high := fun p hp h0 => by rw [repl_at hp] at h0; omega
/-- What is taken is told already. -/
theorem Dj.old {s : Se} {x : Nat} {M : List Int} {L L' : List Rc} {t : Int} {c : Int} {p : Nat} (h : Dj s x M L t (fun _ _ => False)) (hm : ∀ e, e ∈ L ↔ e ∈ L' ∨ e = (c, (p : Int))) (hp : 0 ≤ M.getD p 0) : Dj s x M L' t (fun _ _ => False) where
  len := h.len
  t0 := h.t0
  low := h.low
  land := h.land
  top := h.top
  ent := fun e he => h.ent e ((hm e).2 (Or.inl he))
  beg := by
    rcases h.beg with h1 | ⟨h1, h2⟩
    · exact Or.inl h1
    · have hc := h2 _ ((hm (c, (p : Int))).2 (Or.inr rfl))
      simp only [Prod.mk.injEq] at hc
      have ep : p = x := by omega
      subst ep
      by_cases hz : M.getD p 0 = 0
      · exact Or.inl hz
      · exfalso
        obtain ⟨p', e1, e2, e3, f4, -⟩ := h.ent _ h1
        have hpp : p = p' := by simp at e1; omega
        subst hpp
        have := h.top p e2
        simp at f4
        omega
  cov := fun p' q h1 h2 h3 h4 h5 => by
    rcases h.cov p' q h1 h2 h3 h4 h5 with h6 | h6 | h6
    · exact Or.inl h6
    · rcases (hm _).1 h6 with h7 | h7
      · exact Or.inr (Or.inl h7)
      · simp only [Prod.mk.injEq] at h7
        have : p' = p := by omega
        exact Or.inl (by rw [this]; exact hp)
    · exact h6.elim
  rel := h.rel
  came := h.came
  high := h.high
/-- What is taken is told for good. -/
theorem Dj.settle {s : Se} {x : Nat} {M : List Int} {L L' : List Rc} {t : Int} {c : Int} {p : Nat} (hn : SeaN s) (h : Dj s x M L t (fun _ _ => False)) (hm : ∀ e, e ∈ L ↔ e ∈ L' ∨ e = (c, (p : Int))) (hl : ∀ e, e ∈ L → c ≤ e.1) (hp : M.getD p 0 < 0) : Dj s x (M.set p c) L' c (fun _ q => q = p) ∧ cnt (M.set p c) = cnt M + 1 ∧ p < s.D.length ∧ 0 ≤ c ∧ c ≤ 1000 * (cnt M : Int) ∧ (M.set p c).getD x 0 = 0 := by
  have hin : (c, (p : Int)) ∈ L := (hm _).2 (Or.inr rfl)
  obtain ⟨p', e1, hpn, hdp, htc, hcb, hw⟩ := h.ent _ hin
  have epp : p = p' := by simp at e1; omega
  subst epp
  have hc0 : 0 ≤ c := by have := h.t0; simp at htc; omega
  simp only at htc hcb hw
  have hpM : p < M.length := by rw [h.len]; exact hpn
  have hcn : cnt (M.set p c) = cnt M + 1 := by
    have hc := countP_set (f := fun m => decide (0 ≤ m)) hpM c
    rw [if_neg (show ¬ decide (0 ≤ M.getD p 0) = true by rw [decide_eq_true_eq]; omega), if_pos (show decide (0 ≤ c) = true by rw [decide_eq_true_eq]; exact hc0)] at hc
    unfold cnt
    omega
  have hat : ∀ r, (M.set p c).getD r 0 = if r = p then c else M.getD r 0 := fun r => getD_set hpM c
  have hne : ∀ r, 0 ≤ M.getD r 0 → r ≠ p := fun r h0 e => by rw [e] at h0; omega
  have hsame : ∀ r, 0 ≤ M.getD r 0 → (M.set p c).getD r 0 = M.getD r 0 := fun r h0 => by rw [hat, if_neg (hne r h0)]
  have hx0 : (M.set p c).getD x 0 = 0 := by
    rcases h.beg with h1 | ⟨h1, h2⟩
    · rw [hsame x (by omega)]; exact h1
    · have h3 := h2 _ hin
      simp only [Prod.mk.injEq] at h3
      rw [hat, if_pos (by omega)]
      exact h3.1
  refine ⟨⟨by rw [List.length_set]; exact h.len, hc0, fun r hr => ?_, fun r hr hz => ?_, fun r hr => ?_, fun e he => ?_, Or.inl hx0, fun r q hr hq h0 hd hx => ?_, fun r q hr hq h0 h1 hx => ?_, fun r hr h0 => ?_, fun r hr h0 => ?_⟩, hcn, hpn, hc0, hcb, hx0⟩
  · rw [hat]; split
    · omega
    · exact h.low r hr
  · rw [hat, if_neg (fun e => by rw [e] at hz; omega)]; exact h.land r hr hz
  · rw [hat]; split
    · omega
    · have := h.top r hr; omega
  · have heL := (hm e).2 (Or.inl he)
    obtain ⟨r, f1, f2, f3, f4, f5, f6⟩ := h.ent e heL
    refine ⟨r, f1, f2, f3, hl e heL, by rw [hcn]; omega, ?_⟩
    rcases f6 with f6 | ⟨q, q1, q2, q3, q4⟩
    · exact Or.inl f6
    · exact Or.inr ⟨q, q1, by rw [hsame q q2]; exact q2, q3, by rw [hsame q q2]; exact q4⟩
  · by_cases eq : q = p
    · exact Or.inr (Or.inr eq)
    · rw [hat, if_neg eq] at h0
      rw [hat q, if_neg eq]
      rcases h.cov r q hr hq h0 hd hx with h6 | h6 | h6
      · left; rw [hsame r h6]; exact h6
      · rcases (hm _).1 h6 with h7 | h7
        · exact Or.inr (Or.inl h7)
        · simp only [Prod.mk.injEq] at h7
          left
          rw [hat, if_pos (by omega)]
          exact hc0
      · exact h6.elim
  · have hdr := (hn.cost r hr).1
    by_cases er : r = p
    · by_cases eq : q = p
      · rw [er, eq, next_self] at hx; cases hx
      · rw [hat r, if_pos er, hat q, if_neg eq]
        rw [hat q, if_neg eq] at h0
        rcases h.cov r q hr hq h0 (by rw [er]; exact hdp) hx with h6 | h6 | h6
        · rw [er] at h6; omega
        · exact hl _ h6
        · exact h6.elim
    · rw [hat r, if_neg er]
      rw [hat r, if_neg er] at h1
      by_cases eq : q = p
      · rw [hat q, if_pos eq]
        have := h.top r hr
        omega
      · rw [hat q, if_neg eq]
        rw [hat q, if_neg eq] at h0
        exact h.rel r q hr hq h0 h1 hx
  · by_cases er : r = p
    · rw [hat r, if_pos er]
      rcases hw with ⟨w1, -⟩ | ⟨q, q1, q2, q3, q4⟩
      · left; omega
      · exact Or.inr ⟨q, q1, by rw [hsame q q2]; exact q2, by rw [er]; exact q3, by rw [hsame q q2, er]; omega⟩
    · rw [hat r, if_neg er] at h0 ⊢
      rcases h.came r hr h0 with h1 | ⟨q, q1, q2, q3, q4⟩
      · left; exact h1
      · exact Or.inr ⟨q, q1, by rw [hsame q q2]; exact q2, q3, by rw [hsame q q2]; exact q4⟩
  · rw [hcn]
    by_cases er : r = p
    · rw [hat r, if_pos er]; omega
    · rw [hat r, if_neg er] at h0 ⊢
      have := h.high r hr h0
      omega
/-- A pair that has been looked at. -/
theorem Dj.less {s : Se} {x : Nat} {M : List Int} {L : List Rc} {t : Int} {E E' : Nat → Nat → Prop} (h : Dj s x M L t E) (hE : ∀ p q, p < s.D.length → q < s.D.length → E p q → nextB s.wd (p : Int) (q : Int) = true → 0 < s.D.getD p 0 → M.getD p 0 < 0 → E' p q) : Dj s x M L t E' where
  len := h.len
  t0 := h.t0
  low := h.low
  land := h.land
  top := h.top
  ent := h.ent
  beg := h.beg
  cov := fun p q h1 h2 h3 h4 h5 => by
    rcases h.cov p q h1 h2 h3 h4 h5 with h6 | h6 | h6
    · exact Or.inl h6
    · exact Or.inr (Or.inl h6)
    · by_cases h7 : 0 ≤ M.getD p 0
      · exact Or.inl h7
      · exact Or.inr (Or.inr (hE p q h1 h2 h6 h5 h4 (by omega)))
  rel := h.rel
  came := h.came
  high := h.high
theorem Dj.push {s : Se} {x : Nat} {M : List Int} {L L' : List Rc} {t : Int} {E E' : Nat → Nat → Prop} {p q : Nat} (hn : SeaN s) (h : Dj s x M L t E) (hp : p < s.D.length) (hq : q < s.D.length) (hq0 : M.getD q 0 = t) (hd : 0 < s.D.getD p 0) (hx : nextB s.wd (p : Int) (q : Int) = true) (hx0 : M.getD x 0 = 0)
    (hm : ∀ e, e ∈ L' ↔ e ∈ L ∨ e = (t + s.D.getD p 0, (p : Int))) (hE : ∀ p' q', E p' q' → (p' = p ∧ q' = q) ∨ E' p' q') : Dj s x M L' t E' where
  len := h.len
  t0 := h.t0
  low := h.low
  land := h.land
  top := h.top
  ent := fun e he => by
    rcases (hm e).1 he with h1 | h1
    · exact h.ent e h1
    · subst h1
      have h0 := h.t0
      have hh := h.high q hq (by omega)
      have hc := (hn.cost p hp).2
      exact ⟨p, rfl, hp, hd, by show t ≤ t + s.D.getD p 0; omega, by show t + s.D.getD p 0 ≤ _; omega, Or.inr ⟨q, hq, by omega, hx, by show t + s.D.getD p 0 = _; omega⟩⟩
  beg := Or.inl hx0
  cov := fun p' q' h1 h2 h3 h4 h5 => by
    rcases h.cov p' q' h1 h2 h3 h4 h5 with h6 | h6 | h6
    · exact Or.inl h6
    · exact Or.inr (Or.inl ((hm _).2 (Or.inl h6)))
    · rcases hE p' q' h6 with ⟨e1, e2⟩ | h7
      · refine Or.inr (Or.inl ((hm _).2 (Or.inr ?_)))
        rw [e1, e2, hq0]
      · exact Or.inr (Or.inr h7)
  rel := h.rel
  came := h.came
  high := h.high
theorem Dj.proved {s : Se} {x : Nat} {M : List Int} {t : Int} (hn : SeaN s) (hs : seaB s = true) (hx : x < s.D.length) (hxd : 0 < s.D.getD x 0) (h : Dj s x M [] t (fun _ _ => False)) : provesB s (x : Int) M = true := by
  have h0 : M.getD x 0 = 0 := by
    rcases h.beg with h1 | ⟨h1, -⟩
    · exact h1
    · simp at h1
  have hc := h.high x hx (by omega)
  have hbf : BF s x M := ⟨h.len, h0, h.low, h.land, h.came, fun p hp => by
    by_cases h1 : 0 ≤ M.getD p 0
    · exact h.high p hp h1
    · omega⟩
  refine hbf.proved hn hs hx (by omega) (fun p q hp hq hd hq0 hxn => ?_)
  rcases h.cov p q hp hq hq0 hd hxn with h6 | h6 | h6
  · exact ⟨h6, h.rel p q hp hq hq0 h6 hxn⟩
  · simp at h6
  · exact h6.elim

end Go.Proofs.Ytdpcacfgbjllhaa

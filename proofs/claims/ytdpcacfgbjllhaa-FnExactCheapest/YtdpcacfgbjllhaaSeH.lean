/- Costs that are proved are one list alone; rounds of costs that only fall end in costs that are proved. Mathematics; no statement about the program stands here. -/
import Derived.Test.YtdpcacfgbjllhaaSeE
namespace Go.Proofs.Ytdpcacfgbjllhaa
open Go.RowKit

theorem next_comm (wd a b : Int) : nextB wd a b = nextB wd b a := by
  unfold nextB
  rw [show (a % wd - b % wd) * (a % wd - b % wd) = (b % wd - a % wd) * (b % wd - a % wd) by rw [← Int.neg_mul_neg]; congr 1 <;> omega, show (a / wd - b / wd) * (a / wd - b / wd) = (b / wd - a / wd) * (b / wd - a / wd) by rw [← Int.neg_mul_neg]; congr 1 <;> omega]
theorem next_self (wd a : Int) : nextB wd a a = false := by unfold nextB; simp
/-- What provesB says of each place. -/
structure Prov (s : Se) (x : Nat) (M : List Int) : Prop where
  n : SeaN s
  len : M.length = s.D.length
  at0 : M.getD x 0 = 0
  low : ∀ p, p < s.D.length → -1 ≤ M.getD p 0
  land : ∀ p, p < s.D.length → s.D.getD p 0 = 0 → M.getD p 0 = -1
  bear : ∀ p q, p < s.D.length → q < s.D.length → 0 ≤ M.getD p 0 → s.D.getD q 0 ≠ 0 → nextB s.wd (p : Int) (q : Int) = true → 0 ≤ M.getD q 0 ∧ M.getD q 0 - s.D.getD q 0 ≤ M.getD p 0
  came : ∀ p, p < s.D.length → 0 ≤ M.getD p 0 → p = x ∨ ∃ q, q < s.D.length ∧ s.D.getD q 0 ≠ 0 ∧ nextB s.wd (p : Int) (q : Int) = true ∧ M.getD q 0 = M.getD p 0 - s.D.getD p 0
theorem proves_prov {s : Se} {x : Nat} {M : List Int} (h : provesB s (x : Int) M = true) : Prov s x M := by
  unfold provesB at h
  rw [Bool.and_eq_true, List.all_eq_true] at h
  obtain ⟨hn, ⟨xi, ex, hx, h0⟩, hl⟩ := prov0_n h.1
  have hP : ∀ p, p < s.D.length → placeP s (x : Int) M p = true := fun p hp => h.2 p (by rw [List.mem_range]; exact hp)
  have hx' : x = xi := by omega
  subst hx'
  refine ⟨hn, hl, h0, fun p hp => ?_, fun p hp hd => ?_, fun p q hp hq hm hd hx => ?_, fun p hp hm => ?_⟩
  all_goals
    have := hP p hp
    unfold placeP at this
    simp only [Bool.and_eq_true, Bool.or_eq_true, Bool.not_eq_true', decide_eq_true_eq, decide_eq_false_iff_not] at this
    obtain ⟨h1, h2, h3⟩ := this
  · exact h1
  · rcases h2 with h2 | h2
    · exact absurd hd h2
    · exact h2
  · rcases h3 with h3 | ⟨h3, -⟩
    · omega
    have := List.all_eq_true.1 h3 q (by rw [List.mem_range]; exact hq)
    unfold bearB at this
    rw [hx] at this
    simp only [Bool.and_eq_true, Bool.or_eq_true, Bool.not_true, decide_eq_true_eq] at this
    rcases this with h5 | h5 | h5
    · exact absurd h5 hd
    · exact absurd h5 (by simp)
    · exact h5
  · rcases h3 with h3 | ⟨-, h3⟩
    · omega
    unfold reachB at h3
    rw [Bool.or_eq_true, decide_eq_true_eq, List.any_eq_true] at h3
    rcases h3 with h3 | ⟨q, hq, hc⟩
    · left; omega
    · right
      rw [List.mem_range] at hq
      unfold comeB at hc
      simp only [Bool.and_eq_true, Bool.not_eq_true', decide_eq_true_eq, decide_eq_false_iff_not] at hc
      exact ⟨q, hq, hc.1, hc.2.1, hc.2.2⟩
theorem Prov.le {s : Se} {x : Nat} {M N : List Int} (h : Prov s x M) (h' : Prov s x N) : ∀ (k p : Nat), p < s.D.length → 0 ≤ M.getD p 0 → M.getD p 0 ≤ (k : Int) → 0 ≤ N.getD p 0 ∧ N.getD p 0 ≤ M.getD p 0 := by
  intro k
  induction k with
  | zero =>
    intro p hp h0 hk
    rcases h.came p hp h0 with rfl | ⟨q, hq, hd, hx, he⟩
    · rw [h'.at0, h.at0]; omega
    · have hdp := (h.n.cost p hp).1
      have hpz : s.D.getD p 0 ≠ 0 := fun e => by have := h.land p hp e; omega
      have := h.low q hq
      have hbq := h.bear p q hp hq h0 hd hx
      omega
  | succ k ih =>
    intro p hp h0 hk
    rcases h.came p hp h0 with rfl | ⟨q, hq, hd, hx, he⟩
    · rw [h'.at0, h.at0]; omega
    · have hdp := (h.n.cost p hp).1
      have hpz : s.D.getD p 0 ≠ 0 := fun e => by have := h.land p hp e; omega
      have hbq := (h.bear p q hp hq h0 hd hx).1
      have h1 := ih q hq hbq (by omega)
      have h2 := h'.bear q p hq hp h1.1 hpz (by rw [next_comm]; exact hx)
      omega
theorem prov_one {s : Se} {x : Nat} {M N : List Int} (h : Prov s x M) (h' : Prov s x N) : M = N := by
  apply List.ext_getElem?
  intro p
  by_cases hp : p < s.D.length
  · have e : M.getD p 0 = N.getD p 0 := by
      by_cases h0 : 0 ≤ M.getD p 0
      · have h1 := h.le h' (M.getD p 0).toNat p hp h0 (by omega)
        have h2 := h'.le h (N.getD p 0).toNat p hp h1.1 (by omega)
        omega
      · by_cases h1 : 0 ≤ N.getD p 0
        · have := (h'.le h (N.getD p 0).toNat p hp h1 (by omega)).1
          omega
        · have := h.low p hp
          have := h'.low p hp
          omega
    have hM : p < M.length := by rw [h.len]; exact hp
    have hN : p < N.length := by rw [h'.len]; exact hp
    rw [getD_lt hM, getD_lt hN] at e
    rw [List.getElem?_eq_getElem hM, List.getElem?_eq_getElem hN, e]
  · rw [List.getElem?_eq_none (by rw [h.len]; omega), List.getElem?_eq_none (by rw [h'.len]; omega)]

/-- How many places are reached. -/
def cnt (M : List Int) : Nat := M.countP (fun m => decide (0 ≤ m))
/-- What can still fall. -/
def mu (M : List Int) : Nat := (M.map (fun m => if m < 0 then 144001 else m.toNat)).sum
theorem countP_set {f : Int → Bool} {M : List Int} {p : Nat} (hp : p < M.length) (v : Int) : (M.set p v).countP f + (if f (M.getD p 0) = true then 1 else 0) = M.countP f + (if f v = true then 1 else 0) := by
  induction M generalizing p with
  | nil => simp at hp
  | cons a t ih =>
    cases p with
    | zero => simp [List.countP_cons, List.getD]; omega
    | succ p =>
      have := ih (p := p) (by simpa using hp)
      simp only [List.set_cons_succ, List.countP_cons]
      have e : (a :: t).getD (p + 1) 0 = t.getD p 0 := by simp [List.getD]
      rw [e]
      omega
theorem sum_set {f : Int → Nat} {M : List Int} {p : Nat} (hp : p < M.length) (v : Int) : ((M.set p v).map f).sum + f (M.getD p 0) = (M.map f).sum + f v := by
  induction M generalizing p with
  | nil => simp at hp
  | cons a t ih =>
    cases p with
    | zero => simp [List.getD]; omega
    | succ p =>
      have := ih (p := p) (by simpa using hp)
      simp only [List.set_cons_succ, List.map_cons, List.sum_cons]
      have e : (a :: t).getD (p + 1) 0 = t.getD p 0 := by simp [List.getD]
      rw [e]
      omega
theorem getD_set {M : List Int} {p r : Nat} (hp : p < M.length) (v : Int) : (M.set p v).getD r 0 = if r = p then v else M.getD r 0 := by
  rw [List.getD_eq_getElem?_getD, List.getElem?_set]
  by_cases e : p = r
  · rw [if_pos e, if_pos hp, if_pos e.symm]; rfl
  · rw [if_neg e, if_neg (fun h => e h.symm), List.getD_eq_getElem?_getD]

/-- The costs along the rounds. -/
structure BF (s : Se) (x : Nat) (M : List Int) : Prop where
  len : M.length = s.D.length
  at0 : M.getD x 0 = 0
  low : ∀ p, p < s.D.length → -1 ≤ M.getD p 0
  land : ∀ p, p < s.D.length → s.D.getD p 0 = 0 → M.getD p 0 = -1
  came : ∀ p, p < s.D.length → 0 ≤ M.getD p 0 → p = x ∨ ∃ q, q < s.D.length ∧ 0 ≤ M.getD q 0 ∧ nextB s.wd (p : Int) (q : Int) = true ∧ M.getD q 0 + s.D.getD p 0 ≤ M.getD p 0
  high : ∀ p, p < s.D.length → M.getD p 0 + 1000 ≤ 1000 * (cnt M : Int)
theorem BF.cnt_le {s : Se} {x : Nat} {M : List Int} (h : BF s x M) : cnt M ≤ s.D.length := by rw [← h.len]; exact List.countP_le_length
theorem BF.put {s : Se} {x : Nat} {M : List Int} (hn : SeaN s) (h : BF s x M) {p q : Nat} (hp : p < s.D.length) (hq : q < s.D.length) (hq0 : 0 ≤ M.getD q 0) (hd : 0 < s.D.getD p 0) (hx : nextB s.wd (p : Int) (q : Int) = true) (hlt : M.getD p 0 < 0 ∨ M.getD q 0 + s.D.getD p 0 < M.getD p 0) :
    BF s x (M.set p (M.getD q 0 + s.D.getD p 0)) ∧ mu (M.set p (M.getD q 0 + s.D.getD p 0)) < mu M := by
  have hpM : p < M.length := by rw [h.len]; exact hp
  have hpx : p ≠ x := fun e => by subst e; rw [h.at0] at hlt; omega
  have hqp : q ≠ p := fun e => by rw [e, next_self] at hx; cases hx
  have hc := countP_set (f := fun m => decide (0 ≤ m)) hpM (M.getD q 0 + s.D.getD p 0)
  have hs := sum_set (f := fun m => if m < 0 then 144001 else m.toNat) hpM (M.getD q 0 + s.D.getD p 0)
  have hcm := (hn.cost p hp).2
  have hh := h.high q hq
  have hle := h.cnt_le
  have hn144 := hn.le
  rw [if_pos (show decide (0 ≤ M.getD q 0 + s.D.getD p 0) = true by rw [decide_eq_true_eq]; omega)] at hc
  have hcnt : cnt M ≤ cnt (M.set p (M.getD q 0 + s.D.getD p 0)) ∧ (M.getD p 0 < 0 → cnt (M.set p (M.getD q 0 + s.D.getD p 0)) = cnt M + 1) := by
    unfold cnt
    by_cases e : M.getD p 0 < 0
    · rw [if_neg (show ¬ decide (0 ≤ M.getD p 0) = true by rw [decide_eq_true_eq]; omega)] at hc; omega
    · rw [if_pos (show decide (0 ≤ M.getD p 0) = true by rw [decide_eq_true_eq]; omega)] at hc; omega
  have hcs : cnt (M.set p (M.getD q 0 + s.D.getD p 0)) ≤ s.D.length := by
    have : (M.set p (M.getD q 0 + s.D.getD p 0)).length = s.D.length := by rw [List.length_set, h.len]
    rw [← this]
    exact List.countP_le_length
  have hv : M.getD q 0 + s.D.getD p 0 + 1000 ≤ 1000 * (cnt (M.set p (M.getD q 0 + s.D.getD p 0)) : Int) := by
    rcases hlt with e | e
    · rw [hcnt.2 e]; omega
    · have := h.high p hp; omega
  constructor
  · refine ⟨by rw [List.length_set]; exact h.len, by rw [getD_set hpM, if_neg (fun e => hpx e.symm)]; exact h.at0, fun r hr => ?_, fun r hr hz => ?_, fun r hr h0 => ?_, fun r hr => ?_⟩
    · rw [getD_set hpM]
      split
      · omega
      · exact h.low r hr
    · rw [getD_set hpM, if_neg (fun e => by rw [e] at hz; omega)]
      exact h.land r hr hz
    · by_cases e : r = p
      · right
        refine ⟨q, hq, ?_, by rw [e]; exact hx, ?_⟩
        · rw [getD_set hpM, if_neg hqp]; exact hq0
        · rw [getD_set hpM, if_neg hqp, getD_set hpM, if_pos e, e]; omega
      · rw [getD_set hpM, if_neg e] at h0
        rcases h.came r hr h0 with h1 | ⟨q', hq', h1, h2, h3⟩
        · left; exact h1
        · right
          refine ⟨q', hq', ?_, h2, ?_⟩
          · rw [getD_set hpM]
            split
            · omega
            · exact h1
          · rw [getD_set hpM, getD_set hpM, if_neg e]
            split
            · next e' => subst e'; omega
            · exact h3
    · rw [getD_set hpM]
      split
      · exact hv
      · have := h.high r hr; omega
  · unfold mu
    by_cases e : M.getD p 0 < 0
    · rw [if_pos e, if_neg (by omega)] at hs; omega
    · rw [if_neg e, if_neg (by omega)] at hs; omega
/-- Nothing falls at p by way of q. -/
def Rest (s : Se) (M : List Int) (p q : Nat) : Prop := 0 < s.D.getD p 0 → 0 ≤ M.getD q 0 → nextB s.wd (p : Int) (q : Int) = true → 0 ≤ M.getD p 0 ∧ M.getD p 0 ≤ M.getD q 0 + s.D.getD p 0
theorem BF.proved {s : Se} {x : Nat} {M : List Int} (hn : SeaN s) (hs : seaB s = true) (hx : x < s.D.length) (hxd : s.D.getD x 0 ≠ 0) (h : BF s x M) (hr : ∀ p q, p < s.D.length → q < s.D.length → Rest s M p q) : provesB s (x : Int) M = true := by
  refine provesB_all ?_ (fun p hp => ?_)
  · unfold prov0B onB costAt
    rw [hs, inB_mk (by omega) (by omega)]
    simp only [Int.toNat_natCast]
    rw [decide_eq_false hxd, decide_eq_true h.len, decide_eq_true h.at0]
    rfl
  · by_cases h0 : 0 ≤ M.getD p 0
    case neg => exact placeP_none (by have := h.low p hp; omega)
    have hd : s.D.getD p 0 ≠ 0 := fun e => by have := h.land p hp e; omega
    have hdp := (hn.cost p hp).1
    refine placeP_yes h0 hd (fun q hq => ?_) ?_
    · unfold bearB
      by_cases hz : s.D.getD q 0 = 0
      · rw [decide_eq_true hz]; rfl
      cases hxn : nextB s.wd (p : Int) (q : Int) with
      | false => simp
      | true =>
        have hdq := (hn.cost q hq).1
        have := hr q p hq hp (by omega) h0 (by rw [next_comm]; exact hxn)
        rw [decide_eq_true this.1, decide_eq_true (show M.getD q 0 - s.D.getD q 0 ≤ M.getD p 0 by omega)]
        simp
    · unfold reachB
      rcases h.came p hp h0 with h1 | ⟨q, hq, h1, h2, h3⟩
      · rw [decide_eq_true (by omega)]; rfl
      rw [Bool.or_eq_true]
      right
      rw [List.any_eq_true]
      refine ⟨q, by rw [List.mem_range]; exact hq, ?_⟩
      have h4 := hr p q hp hq (by omega) h1 h2
      have hqz : s.D.getD q 0 ≠ 0 := fun e => by have := h.land q hq e; omega
      unfold comeB
      rw [h2, decide_eq_false hqz, decide_eq_true (show M.getD q 0 = M.getD p 0 - s.D.getD p 0 by omega)]
      rfl
theorem bf_start {s : Se} {x : Nat} (hx : x < s.D.length) (hxd : s.D.getD x 0 ≠ 0) : BF s x ((List.replicate s.D.length (-1)).set x 0) := by
  have hl : x < (List.replicate s.D.length (-1 : Int)).length := by simpa using hx
  have hg : ∀ r, r < s.D.length → (List.replicate s.D.length (-1 : Int)).getD r 0 = -1 := fun r hr => by simp [List.getD, hr]
  have hc : cnt ((List.replicate s.D.length (-1 : Int)).set x 0) = 1 := by
    have h := countP_set (f := fun m => decide (0 ≤ m)) hl 0
    rw [hg x hx] at h
    have h0 : (List.replicate s.D.length (-1 : Int)).countP (fun m => decide (0 ≤ m)) = 0 := by
      rw [List.countP_eq_zero]
      intro a ha
      rw [List.eq_of_mem_replicate ha]
      simp
    rw [h0] at h
    unfold cnt
    simp at h
    omega
  refine ⟨by simp, by rw [getD_set hl, if_pos rfl], fun p hp => ?_, fun p hp hz => ?_, fun p hp h0 => ?_, fun p hp => ?_⟩
  · rw [getD_set hl]; split
    · omega
    · rw [hg p hp]; omega
  · rw [getD_set hl, if_neg (fun e => hxd (by rw [← e]; exact hz)), hg p hp]
  · rw [getD_set hl] at h0
    split at h0
    · next e => left; exact e
    · rw [hg p hp] at h0; omega
  · rw [hc, getD_set hl]; split
    · omega
    · rw [hg p hp]; omega

end Go.Proofs.Ytdpcacfgbjllhaa

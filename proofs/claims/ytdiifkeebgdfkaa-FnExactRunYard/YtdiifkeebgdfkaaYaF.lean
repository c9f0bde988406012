/- Ops on piles (the topmost box first) are ops on the yard's stacks. No statement about the program stands here. -/
import Derived.Test.YtdiifkeebgdfkaaYaE
import Derived.Test.YtdiifkeebgdfkaaYbD
namespace Go.Proofs.Ytdiifkeebgdfkaa

section
variable {f : Int → Int} {R : List (List Int)}
theorem pil_id (r : List Int) : pil idF r = r.reverse := by
  have : idF = id := rfl
  rw [pil, this, List.map_id]
theorem pilF_set (i : Nat) (r : List Int) : pilF f (R.set i r) = (pilF f R).set i (pil f r) := by simp [pilF, List.map_set]
theorem pil_snoc (r : List Int) (x : Int) : pil f (r ++ [x]) = f x :: pil f r := by simp [pil]
theorem pil_top {r : List Int} (h : 0 < r.length) : pil f r = f (r.getLastD 0) :: pil f r.dropLast := by
  rw [← pil_snoc, last_split h]
theorem pilF_row {s : Nat} (h : s < R.length) : ((pilF f R).getD s []).length = (R.getD s []).length := by rw [pilF_get f h, pil_len]
theorem pilF_lens (s : Nat) : ((pilF f R).getD s []).length = (R.getD s []).length := by
  by_cases h : s < R.length
  · exact pilF_row h
  · rw [List.getD, List.getD, List.getElem?_eq_none (by rw [pilF_len]; omega), List.getElem?_eq_none (by omega)]
/-- A box is put on. -/
theorem put_pil {b : Nat} (hb : b < R.length) (x : Int) : (pilF f R).set b (f x :: (pilF f R).getD b []) = pilF f (R.set b (R.getD b [] ++ [x])) := by
  rw [pilF_set, pil_snoc, pilF_get f hb]
/-- The topmost box is lifted. -/
theorem lift_pil {a : Nat} (xs : List Int) (x : Int) (ha : a < R.length) (h : (pilF f R).getD a [] = x :: xs) : 0 < (R.getD a []).length ∧ x = f ((R.getD a []).getLastD 0) ∧ (pilF f R).set a xs = pilF f (R.set a (R.getD a []).dropLast) := by
  rw [pilF_get f ha] at h
  have hl : 0 < (R.getD a []).length := by
    have := congrArg List.length h
    rw [pil_len, List.length_cons] at this
    omega
  rw [pil_top hl] at h
  simp only [List.cons.injEq] at h
  exact ⟨hl, h.1.symm, by rw [pilF_set, h.2]⟩
theorem shift_two {a b : Nat} (hab : a ≠ b) : (R.set a (R.getD a []).dropLast).set b ((R.set a (R.getD a []).dropLast).getD b [] ++ [(R.getD a []).getLastD 0]) = shiftY R a b := by
  rw [rowset_ne (fun e => hab e.symm)]
  unfold shiftY
  exact List.set_comm _ _ hab
end

theorem low_congr {H : Int} {R P : List (List Int)} {s : Int} (h : ∀ i : Nat, (i : Int) ≠ s → (P.getD i []).length = (R.getD i []).length) : ∀ k, lowY H P s k = lowY H R s k
  | 0 => rfl
  | k + 1 => by
    simp only [lowY]
    rw [low_congr h k]
    by_cases hk : (k : Int) = s
    · simp [hk]
    · rw [h k hk]
      rcases lowY_bd H R s k with e | ⟨h1, h2, h3, _⟩
      · simp [e]
      · rw [h (lowY H R s k).toNat (by omega)]

/-- Where a box stands in piles. -/
def pwP : List (List Int) → Int → Option Nat
  | [], _ => none
  | p :: P, x => if x ∈ p then some 0 else (pwP P x).map (· + 1)
def pwV (P : List (List Int)) (x : Int) : Int := match pwP P x with | some s => (s : Int) | none => -1
theorem pwP_none : ∀ {P : List (List Int)} {x : Int}, (∀ s, s < P.length → x ∉ P.getD s []) → pwP P x = none
  | [], _, _ => rfl
  | p :: P, x, h => by
    have h0 := h 0 (by simp)
    rw [List.getD_cons_zero] at h0
    have hr := pwP_none (P := P) (x := x) (fun s hs => by
      have := h (s + 1) (by simp; omega)
      rwa [List.getD_cons_succ] at this)
    simp [pwP, h0, hr]
theorem pwP_some : ∀ {P : List (List Int)} {x : Int} {s : Nat}, s < P.length → (∀ j, j < s → x ∉ P.getD j []) → x ∈ P.getD s [] → pwP P x = some s
  | [], _, _, h, _, _ => by simp at h
  | p :: P, x, 0, _, _, hx => by
    rw [List.getD_cons_zero] at hx
    simp [pwP, hx]
  | p :: P, x, s + 1, hs, hj, hx => by
    rw [List.getD_cons_succ] at hx
    have h0 := hj 0 (by omega)
    rw [List.getD_cons_zero] at h0
    have := pwP_some (P := P) (x := x) (s := s) (by simpa using hs) (fun j h => by
      have := hj (j + 1) (by omega)
      rwa [List.getD_cons_succ] at this) hx
    simp [pwP, h0, this]
theorem pwP_find : ∀ (R : List (List Int)) (x : Int), pwP (pilF idF R) x = (findB R x).map (·.1)
  | [], _ => rfl
  | r :: R, x => by
    have ih := pwP_find R x
    have e : pilF idF (r :: R) = pil idF r :: pilF idF R := rfl
    have em : x ∈ pil idF r ↔ x ∈ r := by rw [pil_id, List.mem_reverse]
    rw [e]
    by_cases hm : x ∈ r
    · have := em.2 hm
      simp [pwP, findB, hm, this]
    · have := fun z => hm (em.1 z)
      simp only [pwP, if_neg this, findB, if_neg hm, ih, Option.map_map]
      rfl
theorem pwV_none {P : List (List Int)} {x : Int} (h : ∀ s, s < P.length → x ∉ P.getD s []) : pwV P x = -1 := by rw [pwV, pwP_none h]
theorem pwV_some {P : List (List Int)} {x : Int} {s : Nat} (h1 : s < P.length) (h2 : ∀ j, j < s → x ∉ P.getD j []) (h3 : x ∈ P.getD s []) : pwV P x = (s : Int) := by rw [pwV, pwP_some h1 h2 h3]
theorem pwV_find (R : List (List Int)) (x : Int) : pwV (pilF idF R) x = match findB R x with | some p => (p.1 : Int) | none => -1 := by
  rw [pwV, pwP_find]
  cases findB R x <;> rfl

/-- What is wrong with an op ahead of all that it does. -/
def fltY (H : Int) (R : List (List Int)) (k b s : Int) : Int :=
  if opB R.length k b s = false then 1
  else if k = 1 ∧ (findB R b).isSome = true then 2
  else if k = 2 ∧ (findB R b).isSome = false then 3
  else if k = 3 ∧ (R.getD b.toNat []).length = 0 then 3
  else if k ≠ 2 ∧ H ≤ ((R.getD s.toNat []).length : Int) then 4
  else 0

theorem flt_bad {H : Int} {R : List (List Int)} {k b s : Int} (h : opB R.length k b s = false) : fltY H R k b s = 1 := by rw [fltY, if_pos h]
section
variable {H : Int} {R : List (List Int)} {b s : Int}
theorem flt_in (h : opB R.length 1 b s = true) : fltY H R 1 b s = if (findB R b).isSome = true then 2 else if H ≤ ((R.getD s.toNat []).length : Int) then 4 else 0 := by
  rw [fltY, if_neg (by rw [h]; simp)]
  by_cases h1 : (findB R b).isSome = true <;> simp [h1]
theorem flt_out (h : opB R.length 2 b s = true) : fltY H R 2 b s = if (findB R b).isSome = true then 0 else 3 := by
  rw [fltY, if_neg (by rw [h]; simp)]
  by_cases h1 : (findB R b).isSome = true <;> simp [h1]
theorem flt_sh (h : opB R.length 3 b s = true) : fltY H R 3 b s = if (R.getD b.toNat []).length = 0 then 3 else if H ≤ ((R.getD s.toNat []).length : Int) then 4 else 0 := by
  rw [fltY, if_neg (by rw [h]; simp)]
  rw [if_neg (by omega), if_neg (by omega)]
  by_cases h1 : (R.getD b.toNat []).length = 0
  · rw [if_pos ⟨rfl, h1⟩, if_pos h1]
  · rw [if_neg (fun e => h1 e.2), if_neg h1]
    by_cases h2 : H ≤ ((R.getD s.toNat []).length : Int)
    · rw [if_pos ⟨by omega, h2⟩, if_pos h2]
    · rw [if_neg (fun e => h2 e.2), if_neg h2]
end

/-- An op that has a fault changes nothing. -/
theorem do_flt {H : Int} {R : List (List Int)} {k b s : Int} (h : YOk H R) (hf : fltY H R k b s ≠ 0) : doY H R k b s = (R, 0, fltY H R k b s) := by
  cases ho : opB R.length k b s with
  | false => rw [flt_bad ho, doY, if_pos (fun e => by rw [ho] at e; simp at e)]
  | true =>
    rw [doY, if_neg (fun e => e ⟨h, ho⟩)]
    by_cases h1 : k = 1
    · subst h1
      rw [flt_in ho] at hf ⊢
      obtain ⟨a1, a2, _⟩ := opB_in ho
      have hl := h.low s.toNat (by omega)
      rw [if_pos rfl]
      by_cases hs : (findB R b).isSome = true
      · rw [if_pos hs, if_pos hs]
      · rw [if_neg hs, if_neg hs] at *
        by_cases hh : H ≤ ((R.getD s.toNat []).length : Int)
        · rw [if_pos hh, if_pos (by omega)]
        · rw [if_neg hh] at hf; exact absurd rfl hf
    · by_cases h3 : k = 3
      · subst h3
        rw [flt_sh ho] at hf ⊢
        obtain ⟨a1, a2, _⟩ := opB_sh ho
        have hl := h.low s.toNat (by omega)
        rw [if_neg h1, if_pos rfl]
        by_cases hs : (R.getD b.toNat []).length = 0
        · rw [if_pos hs, if_pos hs]
        · rw [if_neg hs, if_neg hs] at *
          by_cases hh : H ≤ ((R.getD s.toNat []).length : Int)
          · rw [if_pos hh, if_pos (by omega)]
          · rw [if_neg hh] at hf; exact absurd rfl hf
      · have h2 := opB_kind ho h1 h3
        subst h2
        rw [flt_out ho] at hf ⊢
        rw [if_neg h1, if_neg h3]
        cases hb : findB R b with
        | none => simp
        | some p => rw [hb] at hf; simp at hf
theorem do_in {H : Int} {R : List (List Int)} {b s : Int} (h : YOk H R) (hf : fltY H R 1 b s = 0) : (0 ≤ s ∧ s < R.length) ∧ ((R.getD s.toNat []).length : Int) < H ∧ doY H R 1 b s = (R.set s.toNat (R.getD s.toNat [] ++ [b]), 0, 0) := by
  cases ho : opB R.length 1 b s with
  | false => rw [flt_bad ho] at hf; cases hf
  | true =>
    obtain ⟨a1, a2, _⟩ := opB_in ho
    rw [flt_in ho] at hf
    by_cases hs : (findB R b).isSome = true
    · rw [if_pos hs] at hf; cases hf
    · rw [if_neg hs] at hf
      by_cases hh : H ≤ ((R.getD s.toNat []).length : Int)
      · rw [if_pos hh] at hf; cases hf
      · refine ⟨⟨a1, a2⟩, by omega, ?_⟩
        rw [doY, if_neg (fun e => e ⟨h, ho⟩), if_pos rfl, if_neg hs, if_neg (by omega)]
theorem do_sh {H : Int} {R : List (List Int)} {b s : Int} (h : YOk H R) (hf : fltY H R 3 b s = 0) : (0 ≤ s ∧ s < R.length) ∧ (0 ≤ b ∧ b < R.length) ∧ b ≠ s ∧ 0 < (R.getD b.toNat []).length ∧ ((R.getD s.toNat []).length : Int) < H ∧ doY H R 3 b s = (shiftY R b.toNat s.toNat, 0, 0) := by
  cases ho : opB R.length 3 b s with
  | false => rw [flt_bad ho] at hf; cases hf
  | true =>
    obtain ⟨a1, a2, a3, a4, a5⟩ := opB_sh ho
    rw [flt_sh ho] at hf
    by_cases hs : (R.getD b.toNat []).length = 0
    · rw [if_pos hs] at hf; cases hf
    · rw [if_neg hs] at hf
      by_cases hh : H ≤ ((R.getD s.toNat []).length : Int)
      · rw [if_pos hh] at hf; cases hf
      · refine ⟨⟨a1, a2⟩, ⟨a3, a4⟩, a5, by omega, by omega, ?_⟩
        rw [doY, if_neg (fun e => e ⟨h, ho⟩), if_neg (by omega), if_pos rfl, if_neg hs, if_neg (by omega)]
theorem do_out {H : Int} {R : List (List Int)} {b s : Int} (h : YOk H R) (hf : fltY H R 2 b s = 0) : ∃ p, findB R b = some p ∧ doY H R 2 b s = match offY H p.1 ((R.getD p.1 []).length - (p.2 + 1)) R with | none => (R, 0, 4) | some M => (M.set p.1 ((M.getD p.1 []).take p.2), ((R.getD p.1 []).length - (p.2 + 1) : Nat), 0) := by
  have ho : opB R.length 2 b s = true := by simp [opB]
  rw [flt_out ho] at hf
  cases hb : findB R b with
  | none => rw [hb] at hf; simp at hf
  | some p =>
    refine ⟨p, rfl, ?_⟩
    rw [doY, if_neg (fun e => e ⟨h, ho⟩), if_neg (by omega), if_neg (by omega), hb]
    rfl
theorem flt_kind {H : Int} {R : List (List Int)} {k b s : Int} (hf : fltY H R k b s = 0) : k = 1 ∨ k = 2 ∨ k = 3 := by
  cases ho : opB R.length k b s with
  | false => rw [flt_bad ho] at hf; cases hf
  | true =>
    by_cases h1 : k = 1
    · exact Or.inl h1
    · by_cases h3 : k = 3
      · exact Or.inr (Or.inr h3)
      · exact Or.inr (Or.inl (opB_kind ho h1 h3))

/-- In a right yard the box that is found is at its place alone: above it stand others. -/
theorem above_ne {H : Int} {R : List (List Int)} {x : Int} {p : Nat × Nat} (h : YOk H R) (hp : findB R x = some p) {t : Nat} (h1 : p.2 < t) (h2 : t < (R.getD p.1 []).length) : (R.getD p.1 []).getD t 0 ≠ x := by
  obtain ⟨a1, a2, a3⟩ := findB_at hp
  have hn : (R.getD p.1 []).Nodup := by
    rw [getD_lt a1]
    exact (List.sublist_flatten_of_mem (List.getElem_mem a1)).nodup h.one
  intro e
  rw [getD_lt h2] at e
  rw [getD_lt a2] at a3
  have := (List.pairwise_iff_getElem.1 hn p.2 t a2 h2 h1)
  exact this (a3.trans e.symm)

end Go.Proofs.Ytdiifkeebgdfkaa

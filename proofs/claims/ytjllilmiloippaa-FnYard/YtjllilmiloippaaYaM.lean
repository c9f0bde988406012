/- Yards in numbers: what is right, where a box is found, what an op does; what blocks. No statement about the program stands here. -/
import Derived.Test.YtjllilmiloippaaBase
namespace Go.Proofs.Ytjllilmiloippaa

/-- A yard that is right. -/
structure YOk (H : Int) (R : List (List Int)) : Prop where
  h1 : 1 ≤ H
  h2 : H ≤ 6
  n1 : 1 ≤ R.length
  n2 : R.length ≤ 12
  low : ∀ s, s < R.length → ((R.getD s []).length : Int) ≤ H
  box : ∀ s, s < R.length → ∀ t, t < (R.getD s []).length → 1 ≤ (R.getD s []).getD t 0 ∧ (R.getD s []).getD t 0 ≤ 1000000
  one : R.flatten.Nodup

noncomputable instance (H : Int) (R : List (List Int)) : Decidable (YOk H R) := Classical.propDecidable _
noncomputable def yardB (H : Int) (R : List (List Int)) : Bool := decide (YOk H R)

theorem mem_flat {R : List (List Int)} {x : Int} : x ∈ R.flatten ↔ ∃ s, s < R.length ∧ x ∈ R.getD s [] := by
  rw [List.mem_flatten]
  constructor
  · rintro ⟨l, hl, hx⟩
    obtain ⟨s, hs, rfl⟩ := List.mem_iff_getElem.1 hl
    exact ⟨s, hs, by rw [getD_lt hs]; exact hx⟩
  · rintro ⟨s, hs, hx⟩
    rw [getD_lt hs] at hx
    exact ⟨_, List.getElem_mem hs, hx⟩

theorem mem_at {L : List Int} {x : Int} : x ∈ L ↔ ∃ t, t < L.length ∧ L.getD t 0 = x := by
  rw [List.mem_iff_getElem]
  constructor
  · rintro ⟨t, ht, rfl⟩; exact ⟨t, ht, getD_lt ht⟩
  · rintro ⟨t, ht, rfl⟩; exact ⟨t, ht, (getD_lt ht).symm⟩

/-- How often x stands in the first k stacks, and in the first j of stack k. -/
def cnt (R : List (List Int)) (x : Int) (k : Nat) : Nat := ((R.take k).flatten).count x

theorem cnt_zero (R : List (List Int)) (x : Int) : cnt R x 0 = 0 := by simp [cnt]
theorem cnt_succ {R : List (List Int)} {k : Nat} (x : Int) (h : k < R.length) : cnt R x (k + 1) = cnt R x k + (R.getD k []).count x := by
  unfold cnt
  rw [List.take_add_one, List.flatten_append, List.count_append, getD_lt h, List.getElem?_eq_getElem h]
  simp
theorem cnt_all (R : List (List Int)) (x : Int) : cnt R x R.length = R.flatten.count x := by simp [cnt]
theorem count_take_succ {L : List Int} {j : Nat} (x : Int) (h : j < L.length) : (L.take (j + 1)).count x = (L.take j).count x + if L.getD j 0 = x then 1 else 0 := by
  rw [List.take_add_one, List.count_append, getD_lt h, List.getElem?_eq_getElem h]
  by_cases e : L[j] = x <;> simp [e]

theorem cnt_mem {R : List (List Int)} {x : Int} (h : x ∈ R.flatten) : 1 ≤ R.flatten.count x := List.count_pos_iff.2 h
theorem nodup_cnt {L : List Int} : L.Nodup ↔ ∀ x, x ∈ L → L.count x = 1 := by
  rw [List.nodup_iff_count]
  constructor
  · intro h x hx
    have := h x
    have := List.count_pos_iff.2 hx
    omega
  · intro h x
    by_cases hx : x ∈ L
    · rw [h x hx]; exact Nat.le_refl _
    · rw [List.count_eq_zero.2 hx]; omega

/-- Where a box is. -/
def findB : List (List Int) → Int → Option (Nat × Nat)
  | [], _ => none
  | r :: R, x => if x ∈ r then some (0, r.idxOf x) else (findB R x).map fun p => (p.1 + 1, p.2)

theorem findB_none : ∀ {R : List (List Int)} {x : Int}, (∀ s, s < R.length → x ∉ R.getD s []) → findB R x = none
  | [], _, _ => rfl
  | r :: R, x, h => by
    have h0 := h 0 (by simp)
    rw [List.getD_cons_zero] at h0
    have hr := findB_none (R := R) (x := x) (fun s hs => by
      have := h (s + 1) (by simp; omega)
      rwa [List.getD_cons_succ] at this)
    simp [findB, h0, hr]

theorem idx_at : ∀ {L : List Int} {x : Int} {t : Nat}, t < L.length → L.getD t 0 = x → (∀ u, u < t → L.getD u 0 ≠ x) → L.idxOf x = t
  | [], _, _, h, _, _ => by simp at h
  | y :: L, x, 0, _, h, _ => by
    rw [List.getD_cons_zero] at h
    subst h
    simp
  | y :: L, x, t + 1, ht, h, hu => by
    have h0 := hu 0 (by omega)
    rw [List.getD_cons_zero] at h0
    rw [List.getD_cons_succ] at h
    have := idx_at (L := L) (x := x) (t := t) (by simpa using ht) h (fun u hlt => by
      have := hu (u + 1) (by omega)
      rwa [List.getD_cons_succ] at this)
    have hb : (y == x) = false := by simpa using h0
    rw [List.idxOf_cons, hb, this]; rfl

theorem findB_some : ∀ {R : List (List Int)} {x : Int} {s t : Nat}, s < R.length → (∀ j, j < s → x ∉ R.getD j []) → t < (R.getD s []).length → (R.getD s []).getD t 0 = x → (∀ u, u < t → (R.getD s []).getD u 0 ≠ x) → findB R x = some (s, t)
  | [], _, _, _, h, _, _, _, _ => by simp at h
  | r :: R, x, 0, t, _, _, ht, hx, hu => by
    rw [List.getD_cons_zero] at ht hx hu
    have hm : x ∈ r := mem_at.2 ⟨t, ht, hx⟩
    simp [findB, hm, idx_at ht hx hu]
  | r :: R, x, s + 1, t, hs, hj, ht, hx, hu => by
    rw [List.getD_cons_succ] at ht hx hu
    have h0 := hj 0 (by omega)
    rw [List.getD_cons_zero] at h0
    have := findB_some (R := R) (x := x) (s := s) (t := t) (by simpa using hs) (fun j h => by
      have := hj (j + 1) (by omega)
      rwa [List.getD_cons_succ] at this) ht hx hu
    simp [findB, h0, this]

noncomputable def findV (H : Int) (R : List (List Int)) (x : Int) : Int × Int × Bool :=
  if YOk H R then match findB R x with
    | some p => ((p.1 : Int), (p.2 : Int), true)
    | none => (-1, -1, false)
  else (-1, -1, false)

/-- What was found lies there. -/
theorem findB_at : ∀ {R : List (List Int)} {x : Int} {p : Nat × Nat}, findB R x = some p → p.1 < R.length ∧ p.2 < (R.getD p.1 []).length ∧ (R.getD p.1 []).getD p.2 0 = x
  | [], _, _, h => by simp [findB] at h
  | r :: R, x, p, h => by
    by_cases hm : x ∈ r
    · simp [findB, hm] at h
      subst h
      have hlt : r.idxOf x < r.length := List.idxOf_lt_length_iff.2 hm
      exact ⟨by simp, by simpa using hlt, by rw [List.getD_cons_zero, getD_lt hlt]; exact List.getElem_idxOf hlt⟩
    · cases hf : findB R x with
      | none => simp [findB, hm, hf] at h
      | some q =>
        simp [findB, hm, hf] at h
        subst h
        obtain ⟨h1, h2, h3⟩ := findB_at hf
        exact ⟨by simpa using h1, by simpa using h2, by simpa using h3⟩
theorem findB_mem {R : List (List Int)} {x : Int} : (findB R x).isSome = true ↔ x ∈ R.flatten := by
  constructor
  · intro h
    obtain ⟨p, hp⟩ := Option.isSome_iff_exists.1 h
    obtain ⟨h1, h2, h3⟩ := findB_at hp
    exact mem_flat.2 ⟨p.1, h1, mem_at.2 ⟨p.2, h2, h3⟩⟩
  · intro h
    cases hf : findB R x with
    | some p => rfl
    | none =>
      exfalso
      revert h hf
      induction R with
      | nil => simp
      | cons r R ih =>
        intro h hf
        by_cases hm : x ∈ r
        · simp [findB, hm] at hf
        · simp [findB, hm] at hf
          exact ih (by simpa [hm] using h) hf

/-- The topmost box of stack a goes onto stack b. -/
def shiftY (R : List (List Int)) (a b : Nat) : List (List Int) := (R.set b (R.getD b [] ++ [(R.getD a []).getLastD 0])).set a ((R.getD a []).dropLast)

/-- The first of the lowest stacks that are not full, but for s, among the first k. -/
def lowY (H : Int) (R : List (List Int)) (s : Int) : Nat → Int
  | 0 => -1
  | k + 1 => if (k : Int) ≠ s ∧ ((R.getD k []).length : Int) < H ∧ (lowY H R s k < 0 ∨ (R.getD k []).length < (R.getD (lowY H R s k).toNat []).length) then (k : Int) else lowY H R s k

theorem lowY_bd (H : Int) (R : List (List Int)) (s : Int) : ∀ k, lowY H R s k = -1 ∨ (0 ≤ lowY H R s k ∧ lowY H R s k < k ∧ lowY H R s k ≠ s ∧ ((R.getD (lowY H R s k).toNat []).length : Int) < H)
  | 0 => Or.inl rfl
  | k + 1 => by
    simp only [lowY]
    split
    · rename_i h
      exact Or.inr ⟨by omega, by omega, h.1, by rw [Int.toNat_natCast]; exact h.2.1⟩
    · rcases lowY_bd H R s k with h | ⟨h1, h2, h3⟩
      · exact Or.inl h
      · exact Or.inr ⟨h1, by omega, h3⟩

/-- n boxes are taken off stack s, one behind the other; none where one finds no room. -/
def offY (H : Int) (s : Nat) : Nat → List (List Int) → Option (List (List Int))
  | 0, R => some R
  | n + 1, R => if lowY H R s R.length < 0 then none else offY H s n (shiftY R s (lowY H R s R.length).toNat)

def opB (n : Nat) (k b s : Int) : Bool := (k == 1 && (decide (0 ≤ s ∧ s < n) && decide (1 ≤ b ∧ b ≤ 1000000))) || k == 2 || (k == 3 && (decide (0 ≤ s ∧ s < n) && decide (0 ≤ b ∧ b < n) && b != s))

/-- The yard behind an op, how many were reshuffled, the code. -/
noncomputable def doY (H : Int) (R : List (List Int)) (k b s : Int) : List (List Int) × Int × Int :=
  if ¬ (YOk H R ∧ opB R.length k b s = true) then (R, 0, 1)
  else if k = 1 then
    if (findB R b).isSome = true then (R, 0, 2)
    else if ((R.getD s.toNat []).length : Int) = H then (R, 0, 4)
    else (R.set s.toNat (R.getD s.toNat [] ++ [b]), 0, 0)
  else if k = 3 then
    if (R.getD b.toNat []).length = 0 then (R, 0, 3)
    else if ((R.getD s.toNat []).length : Int) = H then (R, 0, 4)
    else (shiftY R b.toNat s.toNat, 0, 0)
  else match findB R b with
    | none => (R, 0, 3)
    | some p => match offY H p.1 ((R.getD p.1 []).length - (p.2 + 1)) R with
      | none => (R, 0, 4)
      | some M => (M.set p.1 ((M.getD p.1 []).take p.2), ((R.getD p.1 []).length - (p.2 + 1) : Nat), 0)

/-- The yard behind k ops; the codes; the sum. -/
noncomputable def stY (H : Int) (R : List (List Int)) (L : List (Int × Int × Int)) : Nat → List (List Int) × Int
  | 0 => (R, 0)
  | k + 1 => let p := stY H R L k; let o := L.getD k default; ((doY H p.1 o.1 o.2.1 o.2.2).1, p.2 + (doY H p.1 o.1 o.2.1 o.2.2).2.1)
noncomputable def cdY (H : Int) (R : List (List Int)) (L : List (Int × Int × Int)) (k : Nat) : Int := let p := stY H R L k; let o := L.getD k default; (doY H p.1 o.1 o.2.1 o.2.2).2.2

end Go.Proofs.Ytjllilmiloippaa

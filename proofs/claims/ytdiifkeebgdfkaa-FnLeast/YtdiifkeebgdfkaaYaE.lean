/- What an op of a yard keeps: boxes are neither made nor lost. No statement about the program stands here. -/
import Derived.Test.YtdiifkeebgdfkaaYaM
namespace Go.Proofs.Ytdiifkeebgdfkaa

theorem set_flat_count : ∀ (R : List (List Int)) (i : Nat) (r : List Int) (x : Int), i < R.length → (R.set i r).flatten.count x + (R.getD i []).count x = R.flatten.count x + r.count x
  | [], i, r, x, h => by simp at h
  | q :: R, 0, r, x, _ => by
    rw [List.set_cons_zero, List.flatten_cons, List.flatten_cons, List.count_append, List.count_append, List.getD_cons_zero]; omega
  | q :: R, i + 1, r, x, h => by
    have := set_flat_count R i r x (by simpa using h)
    rw [List.set_cons_succ, List.flatten_cons, List.flatten_cons, List.count_append, List.count_append, List.getD_cons_succ]; omega
theorem set_flat_len : ∀ (R : List (List Int)) (i : Nat) (r : List Int), i < R.length → (R.set i r).flatten.length + (R.getD i []).length = R.flatten.length + r.length
  | [], i, r, h => by simp at h
  | q :: R, 0, r, _ => by
    rw [List.set_cons_zero, List.flatten_cons, List.flatten_cons, List.length_append, List.length_append, List.getD_cons_zero]; omega
  | q :: R, i + 1, r, h => by
    have := set_flat_len R i r (by simpa using h)
    rw [List.set_cons_succ, List.flatten_cons, List.flatten_cons, List.length_append, List.length_append, List.getD_cons_succ]; omega

theorem last_split {l : List Int} (h : 0 < l.length) : l.dropLast ++ [l.getLastD 0] = l := by
  have hne : l ≠ [] := by intro e; subst e; simp at h
  have h1 : l.getLastD 0 = l.getLast hne := by
    cases l with
    | nil => exact absurd rfl hne
    | cons a l => rfl
  rw [h1]
  exact List.dropLast_concat_getLast hne

theorem rowset_self {R : List (List Int)} {row : List Int} {b : Nat} (hb : b < R.length) : (R.set b row).getD b [] = row := by simp [List.getD, hb]
theorem rowset_ne {R : List (List Int)} {row : List Int} {b i : Nat} (e : i ≠ b) : (R.set b row).getD i [] = R.getD i [] := by simp [List.getD, List.getElem?_set_ne (fun x => e x.symm)]

section
variable {H : Int} {R : List (List Int)} {a b : Nat}
theorem shift_len : (shiftY R a b).length = R.length := by simp [shiftY]
theorem shift_row_a (ha : a < R.length) : (shiftY R a b).getD a [] = (R.getD a []).dropLast := by
  unfold shiftY
  exact rowset_self (by rw [List.length_set]; exact ha)
theorem shift_row_b (hb : b < R.length) (hab : a ≠ b) : (shiftY R a b).getD b [] = R.getD b [] ++ [(R.getD a []).getLastD 0] := by
  unfold shiftY
  rw [rowset_ne (fun e => hab e.symm), rowset_self hb]
theorem shift_row_o {i : Nat} (h1 : i ≠ a) (h2 : i ≠ b) : (shiftY R a b).getD i [] = R.getD i [] := by
  unfold shiftY
  rw [rowset_ne h1, rowset_ne h2]
theorem shift_count (ha : a < R.length) (hb : b < R.length) (hab : a ≠ b) (hne : 0 < (R.getD a []).length) (x : Int) : (shiftY R a b).flatten.count x = R.flatten.count x := by
  have h1 := set_flat_count R b (R.getD b [] ++ [(R.getD a []).getLastD 0]) x hb
  have h2 := set_flat_count (R.set b (R.getD b [] ++ [(R.getD a []).getLastD 0])) a ((R.getD a []).dropLast) x (by rw [List.length_set]; exact ha)
  rw [rowset_ne hab] at h2
  have h3 : (R.getD a []).count x = (R.getD a []).dropLast.count x + [(R.getD a []).getLastD 0].count x := by
    rw [← List.count_append, last_split hne]
  rw [List.count_append] at h1
  unfold shiftY
  omega
theorem shift_flen (ha : a < R.length) (hb : b < R.length) (hab : a ≠ b) (hne : 0 < (R.getD a []).length) : (shiftY R a b).flatten.length = R.flatten.length := by
  have h1 := set_flat_len R b (R.getD b [] ++ [(R.getD a []).getLastD 0]) hb
  have h2 := set_flat_len (R.set b (R.getD b [] ++ [(R.getD a []).getLastD 0])) a ((R.getD a []).dropLast) (by rw [List.length_set]; exact ha)
  rw [rowset_ne hab] at h2
  rw [List.length_append] at h1
  have h3 : (R.getD a []).dropLast.length = (R.getD a []).length - 1 := List.length_dropLast
  simp only [List.length_singleton] at h1
  unfold shiftY
  omega

theorem YOk.of_rows {R' : List (List Int)} (h : YOk H R) (hl : R'.length = R.length) (low : ∀ s, s < R.length → ((R'.getD s []).length : Int) ≤ H) (mem : ∀ x, x ∈ R'.flatten → 1 ≤ x ∧ x ≤ 1000000) (cnt : ∀ x, R'.flatten.count x ≤ 1) : YOk H R' :=
  ⟨h.h1, h.h2, by rw [hl]; exact h.n1, by rw [hl]; exact h.n2, fun s hs => low s (hl ▸ hs), fun s hs t ht => mem _ (mem_flat.2 ⟨s, hs, mem_at.2 ⟨t, ht, rfl⟩⟩), List.nodup_iff_count.2 cnt⟩
theorem YOk.range (h : YOk H R) {x : Int} (hx : x ∈ R.flatten) : 1 ≤ x ∧ x ≤ 1000000 := by
  obtain ⟨s, hs, hm⟩ := mem_flat.1 hx
  obtain ⟨t, ht, rfl⟩ := mem_at.1 hm
  exact h.box s hs t ht
theorem YOk.of_count {R' : List (List Int)} (h : YOk H R) (hl : R'.length = R.length) (low : ∀ s, s < R.length → ((R'.getD s []).length : Int) ≤ H) (cnt : ∀ x, R'.flatten.count x ≤ R.flatten.count x) : YOk H R' :=
  h.of_rows hl low (fun x hx => h.range (List.count_pos_iff.1 (Nat.lt_of_lt_of_le (List.count_pos_iff.2 hx) (cnt x)))) (fun x => Nat.le_trans (cnt x) (List.nodup_iff_count.1 h.one x))

theorem shift_ok (h : YOk H R) (ha : a < R.length) (hb : b < R.length) (hab : a ≠ b) (hne : 0 < (R.getD a []).length) (hlt : ((R.getD b []).length : Int) < H) : YOk H (shiftY R a b) := by
  refine h.of_count shift_len (fun s hs => ?_) (fun x => Nat.le_of_eq (shift_count ha hb hab hne x))
  by_cases e1 : s = a
  · subst e1
    rw [shift_row_a hs, List.length_dropLast]
    have := h.low s hs
    omega
  · by_cases e2 : s = b
    · subst e2
      rw [shift_row_b hs hab, List.length_append, List.length_singleton]
      omega
    · rw [shift_row_o e1 e2]; exact h.low s hs
theorem cut_ok {t : Nat} (h : YOk H R) (ha : a < R.length) : YOk H (R.set a ((R.getD a []).take t)) := by
  refine h.of_count (by rw [List.length_set]) (fun s hs => ?_) (fun x => ?_)
  · by_cases e : s = a
    · subst e
      rw [rowset_self hs, List.length_take]
      have := h.low s hs
      omega
    · rw [rowset_ne e]; exact h.low s hs
  · have h1 := set_flat_count R a ((R.getD a []).take t) x ha
    have h2 : ((R.getD a []).take t).count x ≤ (R.getD a []).count x := (List.take_sublist t _).count_le x
    omega
theorem in_ok {x : Int} (h : YOk H R) (ha : a < R.length) (hx : x ∉ R.flatten) (h1 : 1 ≤ x) (h2 : x ≤ 1000000) (hlt : ((R.getD a []).length : Int) < H) : YOk H (R.set a (R.getD a [] ++ [x])) := by
  have hc := fun y => set_flat_count R a (R.getD a [] ++ [x]) y ha
  have h0 : R.flatten.count x = 0 := List.count_eq_zero.2 hx
  refine h.of_rows (by rw [List.length_set]) (fun s hs => ?_) (fun y hy => ?_) (fun y => ?_)
  · by_cases e : s = a
    · subst e
      rw [rowset_self hs, List.length_append, List.length_singleton]; omega
    · rw [rowset_ne e]; exact h.low s hs
  · have h3 := hc y
    rw [List.count_append] at h3
    have h4 := List.count_pos_iff.2 hy
    by_cases e : x = y
    · subst e; exact ⟨h1, h2⟩
    · have : [x].count y = 0 := List.count_eq_zero.2 (by simpa using fun e' => e e'.symm)
      exact h.range (List.count_pos_iff.1 (by omega))
  · have h3 := hc y
    rw [List.count_append] at h3
    have h5 := List.nodup_iff_count.1 h.one y
    by_cases e : x = y
    · subst e
      have : [x].count x = 1 := by simp
      omega
    · have : [x].count y = 0 := List.count_eq_zero.2 (by simpa using fun e' => e e'.symm)
      omega
end

theorem low_lt {H : Int} {R : List (List Int)} {s : Nat} (h : ¬ lowY H R s R.length < 0) : (lowY H R s R.length).toNat < R.length ∧ s ≠ (lowY H R s R.length).toNat ∧ ((R.getD (lowY H R s R.length).toNat []).length : Int) < H ∧ lowY H R s R.length = ((lowY H R s R.length).toNat : Int) := by
  rcases lowY_bd H R s R.length with e | ⟨h1, h2, h3, h4⟩
  · omega
  · exact ⟨by omega, by omega, h4, by omega⟩

theorem dropLast_take {l : List Int} : l.dropLast = l.take (l.length - 1) := by rw [List.dropLast_eq_take]

theorem off_ok {H : Int} {s : Nat} : ∀ {n : Nat} {R M : List (List Int)}, offY H s n R = some M → YOk H R → s < R.length → n ≤ (R.getD s []).length → YOk H M ∧ M.length = R.length ∧ M.getD s [] = (R.getD s []).take ((R.getD s []).length - n) ∧ M.flatten.length = R.flatten.length
  | 0, R, M, h, hy, hs, _ => by
    simp only [offY, Option.some.injEq] at h
    subst h
    exact ⟨hy, rfl, by rw [Nat.sub_zero, List.take_length], rfl⟩
  | n + 1, R, M, h, hy, hs, hn => by
    simp only [offY] at h
    by_cases hl : lowY H R s R.length < 0
    · rw [if_pos hl] at h; cases h
    · rw [if_neg hl] at h
      obtain ⟨h1, h2, h3, _⟩ := low_lt hl
      have hne : 0 < (R.getD s []).length := by omega
      have hrow := shift_row_a (R := R) (b := (lowY H R s R.length).toNat) hs
      have hlr : ((shiftY R s (lowY H R s R.length).toNat).getD s []).length = (R.getD s []).length - 1 := by rw [hrow, List.length_dropLast]
      obtain ⟨g1, g2, g3, g4⟩ := off_ok h (shift_ok hy hs h1 h2 hne h3) (by rw [shift_len]; exact hs) (by omega)
      refine ⟨g1, g2.trans shift_len, ?_, g4.trans (shift_flen hs h1 h2 hne)⟩
      rw [g3, hlr, hrow, dropLast_take, List.take_take]
      congr 1
      omega

theorem do_len (H : Int) (R : List (List Int)) (k b s : Int) : (doY H R k b s).1.length = R.length := by
  unfold doY
  split
  · rfl
  rename_i hy
  have hy := Classical.not_not.1 hy
  split
  · split
    · rfl
    · split
      · rfl
      · simp
  split
  · split
    · rfl
    · split
      · rfl
      · exact shift_len
  split
  · rfl
  · rename_i p hp
    split
    · rfl
    · rename_i M hM
      obtain ⟨h1, h2, _⟩ := findB_at hp
      obtain ⟨_, h3, _⟩ := off_ok hM hy.1 h1 (by omega)
      simpa using h3

theorem opB_in {n : Nat} {b s : Int} (h : opB n 1 b s = true) : 0 ≤ s ∧ s < n ∧ 1 ≤ b ∧ b ≤ 1000000 := by
  simp [opB] at h; omega
theorem opB_sh {n : Nat} {b s : Int} (h : opB n 3 b s = true) : 0 ≤ s ∧ s < n ∧ 0 ≤ b ∧ b < n ∧ b ≠ s := by
  simp [opB] at h; omega
theorem opB_kind {n : Nat} {k b s : Int} (h : opB n k b s = true) (h1 : k ≠ 1) (h3 : k ≠ 3) : k = 2 := by
  simp [opB, h1, h3] at h; exact h

theorem do_ok {H : Int} {R : List (List Int)} (h : YOk H R) (k b s : Int) : YOk H (doY H R k b s).1 := by
  unfold doY
  split
  · exact h
  rename_i hy
  have hy := Classical.not_not.1 hy
  split
  · rename_i hk
    subst hk
    obtain ⟨h1, h2, h3, h4⟩ := opB_in hy.2
    split
    · exact h
    · rename_i hf
      split
      · exact h
      · rename_i hl
        have hs : s.toNat < R.length := by omega
        have := h.low _ hs
        exact in_ok h hs (fun e => hf (findB_mem.2 e)) h3 h4 (by omega)
  split
  · rename_i hk
    subst hk
    obtain ⟨h1, h2, h3, h4, h5⟩ := opB_sh hy.2
    split
    · exact h
    · rename_i hl
      split
      · exact h
      · rename_i hf
        have hs : s.toNat < R.length := by omega
        have := h.low _ hs
        exact shift_ok h (by omega) hs (by omega) (by omega) (by omega)
  split
  · exact h
  · rename_i p hp
    split
    · exact h
    · rename_i M hM
      obtain ⟨h1, h2, _⟩ := findB_at hp
      obtain ⟨g1, g2, _⟩ := off_ok hM h h1 (by omega)
      exact cut_ok g1 (by omega)

theorem st_ok {H : Int} {R : List (List Int)} (h : YOk H R) (L : List (Int × Int × Int)) : ∀ k, YOk H (stY H R L k).1
  | 0 => h
  | k + 1 => do_ok (st_ok h L k) _ _ _
theorem st_len (H : Int) (R : List (List Int)) (L : List (Int × Int × Int)) : ∀ k, (stY H R L k).1.length = R.length
  | 0 => rfl
  | k + 1 => (do_len ..).trans (st_len H R L k)
theorem do_bad {H : Int} {R : List (List Int)} (h : ¬ YOk H R) (k b s : Int) : doY H R k b s = (R, 0, 1) := by
  unfold doY
  rw [if_pos (fun e => h e.1)]
theorem st_bad {H : Int} {R : List (List Int)} (h : ¬ YOk H R) (L : List (Int × Int × Int)) : ∀ k, stY H R L k = (R, 0)
  | 0 => rfl
  | k + 1 => by simp only [stY, st_bad h L k, do_bad h]; rfl
theorem cd_bad {H : Int} {R : List (List Int)} (h : ¬ YOk H R) (L : List (Int × Int × Int)) (k : Nat) : cdY H R L k = 1 := by
  simp only [cdY, st_bad h L k, do_bad h]

/-- How many are reshuffled is no great number. -/
theorem do_many {H : Int} {R : List (List Int)} (k b s : Int) : 0 ≤ (doY H R k b s).2.1 ∧ (doY H R k b s).2.1 ≤ 6 := by
  unfold doY
  split
  · exact ⟨by dsimp only; omega, by dsimp only; omega⟩
  rename_i hy
  have hy := Classical.not_not.1 hy
  split
  · split
    · exact ⟨by dsimp only; omega, by dsimp only; omega⟩
    · split <;> exact ⟨by dsimp only; omega, by dsimp only; omega⟩
  split
  · split
    · exact ⟨by dsimp only; omega, by dsimp only; omega⟩
    · split <;> exact ⟨by dsimp only; omega, by dsimp only; omega⟩
  split
  · exact ⟨by dsimp only; omega, by dsimp only; omega⟩
  · rename_i p hp
    split
    · exact ⟨by dsimp only; omega, by dsimp only; omega⟩
    · obtain ⟨h1, h2, _⟩ := findB_at hp
      have := hy.1.low _ h1
      have := hy.1.h2
      exact ⟨by dsimp only; omega, by dsimp only; omega⟩
theorem st_many {H : Int} {R : List (List Int)} (L : List (Int × Int × Int)) : ∀ k : Nat, 0 ≤ (stY H R L k).2 ∧ (stY H R L k).2 ≤ 6 * k
  | 0 => ⟨Int.le_refl _, Int.le_refl _⟩
  | k + 1 => by
    have h1 := st_many (H := H) (R := R) L k
    have h2 := do_many (H := H) (R := (stY H R L k).1) (L.getD k default).1 (L.getD k default).2.1 (L.getD k default).2.2
    simp only [stY]
    omega

end Go.Proofs.Ytdiifkeebgdfkaa

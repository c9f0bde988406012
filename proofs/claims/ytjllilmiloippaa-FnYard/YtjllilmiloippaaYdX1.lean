/- FnYard: the program's DoYard. Laid together by wip/layyd.py. -/
import Derived.Test.YtjllilmiloippaaYaM
import Derived.Test.YtjllilmiloippaaYbD
import Derived.Test.YtjllilmiloippaaCpK
import Derived.Test.YtjllilmiloippaaYbS
import Derived.Test.YtjllilmiloippaaYaD
import Derived.Test.YtjllilmiloippaaRYardOp
import Derived.Deep.DeepCutAuto
import Derived.Test.YtjllilmiloippaaOwnHull
namespace Go.Proofs.Ytjllilmiloippaa

theorem set_flat_count : ∀ (R : List (List Int)) (i : Nat) (r : List Int) (x : Int), i < R.length → (R.set i r).flatten.count x + (R.getD i []).count x = R.flatten.count x + r.count x
  | [], i, r, x, h => by simp at h
  | q :: R, 0, r, x, _ => by
    rw [List.set_cons_zero, List.flatten_cons, List.flatten_cons, List.count_append, List.count_append, List.getD_cons_zero]; omega
  | q :: R, i + 1, r, x, h => by
    have := set_flat_count R i r x (by simpa using h)
    rw [List.set_cons_succ, List.flatten_cons, List.flatten_cons, List.count_append, List.count_append, List.getD_cons_succ]; omega
theorem set_flat_len : ∀ (R : List (List Int)) (i : Nat) (r : List Int), i < R.length → (R.set i r).flatten.length + (R.getD i []).length = R.flatten.length + r.length
  | [], i, r, h => by simp at h
  | q :: R, 0, r, _ => by
    rw [List.set_cons_zero, List.flatten_cons, List.flatten_cons, List.length_append, List.length_append, List.getD_cons_zero]; omega
  | q :: R, i + 1, r, h => by
    have := set_flat_len R i r (by simpa using h)
    rw [List.set_cons_succ, List.flatten_cons, List.flatten_cons, List.length_append, List.length_append, List.getD_cons_succ]; omega

theorem last_split {l : List Int} (h : 0 < l.length) : l.dropLast ++ [l.getLastD 0] = l := by
  have hne : l ≠ [] := by intro e; subst e; simp at h
  have h1 : l.getLastD 0 = l.getLast hne := by
    cases l with
    | nil => exact absurd rfl hne
    | cons a l => rfl
  rw [h1]
  exact List.dropLast_concat_getLast hne

theorem rowset_self {R : List (List Int)} {row : List Int} {b : Nat} (hb : b < R.length) : (R.set b row).getD b [] = row := by simp [List.getD, hb]
theorem rowset_ne {R : List (List Int)} {row : List Int} {b i : Nat} (e : i ≠ b) : (R.set b row).getD i [] = R.getD i [] := by simp [List.getD, List.getElem?_set_ne (fun x => e x.symm)]

section
variable {H : Int} {R : List (List Int)} {a b : Nat}
theorem shift_len : (shiftY R a b).length = R.length := by simp [shiftY]
theorem shift_row_a (ha : a < R.length) : (shiftY R a b).getD a [] = (R.getD a []).dropLast := by
  unfold shiftY
  exact rowset_self (by rw [List.length_set]; exact ha)
theorem shift_row_b (hb : b < R.length) (hab : a ≠ b) : (shiftY R a b).getD b [] = R.getD b [] ++ [(R.getD a []).getLastD 0] := by
  unfold shiftY
  rw [rowset_ne (fun e => hab e.symm), rowset_self hb]
theorem shift_row_o {i : Nat} (h1 : i ≠ a) (h2 : i ≠ b) : (shiftY R a b).getD i [] = R.getD i [] := by
  unfold shiftY
  rw [rowset_ne h1, rowset_ne h2]
theorem shift_count (ha : a < R.length) (hb : b < R.length) (hab : a ≠ b) (hne : 0 < (R.getD a []).length) (x : Int) : (shiftY R a b).flatten.count x = R.flatten.count x := by
  have h1 := set_flat_count R b (R.getD b [] ++ [(R.getD a []).getLastD 0]) x hb
  have h2 := set_flat_count (R.set b (R.getD b [] ++ [(R.getD a []).getLastD 0])) a ((R.getD a []).dropLast) x (by rw [List.length_set]; exact ha)
  rw [rowset_ne hab] at h2
  have h3 : (R.getD a []).count x = (R.getD a []).dropLast.count x + [(R.getD a []).getLastD 0].count x := by
    rw [← List.count_append, last_split hne]
  rw [List.count_append] at h1
  unfold shiftY
  omega
theorem shift_flen (ha : a < R.length) (hb : b < R.length) (hab : a ≠ b) (hne : 0 < (R.getD a []).length) : (shiftY R a b).flatten.length = R.flatten.length := by
  have h1 := set_flat_len R b (R.getD b [] ++ [(R.getD a []).getLastD 0]) hb
  have h2 := set_flat_len (R.set b (R.getD b [] ++ [(R.getD a []).getLastD 0])) a ((R.getD a []).dropLast) (by rw [List.length_set]; exact ha)
  rw [rowset_ne hab] at h2
  rw [List.length_append] at h1
  have h3 : (R.getD a []).dropLast.length = (R.getD a []).length - 1 := List.length_dropLast
  simp only [List.length_singleton] at h1
  unfold shiftY
  omega

theorem YOk.of_rows {R' : List (List Int)} (h : YOk H R) (hl : R'.length = R.length) (low : ∀ s, s < R.length → ((R'.getD s []).length : Int) ≤ H) (mem : ∀ x, x ∈ R'.flatten → 1 ≤ x ∧ x ≤ 1000000) (cnt : ∀ x, R'.flatten.count x ≤ 1) : YOk H R' :=
  ⟨h.h1, h.h2, by rw [hl]; exact h.n1, by rw [hl]; exact h.n2, fun s hs => low s (hl ▸ hs), fun s hs t ht => mem _ (mem_flat.2 ⟨s, hs, mem_at.2 ⟨t, ht, rfl⟩⟩), List.nodup_iff_count.2 cnt⟩
theorem YOk.range (h : YOk H R) {x : Int} (hx : x ∈ R.flatten) : 1 ≤ x ∧ x ≤ 1000000 := by
  obtain ⟨s, hs, hm⟩ := mem_flat.1 hx
  obtain ⟨t, ht, rfl⟩ := mem_at.1 hm
  exact h.box s hs t ht
theorem YOk.of_count {R' : List (List Int)} (h : YOk H R) (hl : R'.length = R.length) (low : ∀ s, s < R.length → ((R'.getD s []).length : Int) ≤ H) (cnt : ∀ x, R'.flatten.count x ≤ R.flatten.count x) : YOk H R' :=
  h.of_rows hl low (fun x hx => h.range (List.count_pos_iff.1 (Nat.lt_of_lt_of_le (List.count_pos_iff.2 hx) (cnt x)))) (fun x => Nat.le_trans (cnt x) (List.nodup_iff_count.1 h.one x))

theorem shift_ok (h : YOk H R) (ha : a < R.length) (hb : b < R.length) (hab : a ≠ b) (hne : 0 < (R.getD a []).length) (hlt : ((R.getD b []).length : Int) < H) : YOk H (shiftY R a b) := by
  refine h.of_count shift_len (fun s hs => ?_) (fun x => Nat.le_of_eq (shift_count ha hb hab hne x))
  by_cases e1 : s = a
  · subst e1
    rw [shift_row_a hs, List.length_dropLast]
    have := h.low s hs
    omega
  · by_cases e2 : s = b
    · subst e2
      rw [shift_row_b hs hab, List.length_append, List.length_singleton]
      omega
    · rw [shift_row_o e1 e2]; exact h.low s hs
theorem cut_ok {t : Nat} (h : YOk H R) (ha : a < R.length) : YOk H (R.set a ((R.getD a []).take t)) := by
  refine h.of_count (by rw [List.length_set]) (fun s hs => ?_) (fun x => ?_)
  · by_cases e : s = a
    · subst e
      rw [rowset_self hs, List.length_take]
      have := h.low s hs
      omega
    · rw [rowset_ne e]; exact h.low s hs
  · have h1 := set_flat_count R a ((R.getD a []).take t) x ha
    have h2 : ((R.getD a []).take t).count x ≤ (R.getD a []).count x := (List.take_sublist t _).count_le x
    omega
theorem in_ok {x : Int} (h : YOk H R) (ha : a < R.length) (hx : x ∉ R.flatten) (h1 : 1 ≤ x) (h2 : x ≤ 1000000) (hlt : ((R.getD a []).length : Int) < H) : YOk H (R.set a (R.getD a [] ++ [x])) := by
  have hc := fun y => set_flat_count R a (R.getD a [] ++ [x]) y ha
  have h0 : R.flatten.count x = 0 := List.count_eq_zero.2 hx
  refine h.of_rows (by rw [List.length_set]) (fun s hs => ?_) (fun y hy => ?_) (fun y => ?_)
  · by_cases e : s = a
    · subst e
      rw [rowset_self hs, List.length_append, List.length_singleton]; omega
    · rw [rowset_ne e]; exact h.low s hs
  · have h3 := hc y
    rw [List.count_append] at h3
    have h4 := List.count_pos_iff.2 hy
    by_cases e : x = y
    · subst e; exact ⟨h1, h2⟩
    · have : [x].count y = 0 := List.count_eq_zero.2 (by simpa using fun e' => e e'.symm)
      exact h.range (List.count_pos_iff.1 (by omega))
  · have h3 := hc y
    rw [List.count_append] at h3
    have h5 := List.nodup_iff_count.1 h.one y
    by_cases e : x = y
    · subst e
      have : [x].count x = 1 := by simp
      omega
    · have : [x].count y = 0 := List.count_eq_zero.2 (by simpa using fun e' => e e'.symm)
      omega
end

theorem low_lt {H : Int} {R : List (List Int)} {s : Nat} (h : ¬ lowY H R s R.length < 0) : (lowY H R s R.length).toNat < R.length ∧ s ≠ (lowY H R s R.length).toNat ∧ ((R.getD (lowY H R s R.length).toNat []).length : Int) < H ∧ lowY H R s R.length = ((lowY H R s R.length).toNat : Int) := by
  rcases lowY_bd H R s R.length with e | ⟨h1, h2, h3, h4⟩
  · omega
  · exact ⟨by omega, by omega, h4, by omega⟩

theorem dropLast_take {l : List Int} : l.dropLast = l.take (l.length - 1) := by rw [List.dropLast_eq_take]

theorem off_ok {H : Int} {s : Nat} : ∀ {n : Nat} {R M : List (List Int)}, offY H s n R = some M → YOk H R → s < R.length → n ≤ (R.getD s []).length → YOk H M ∧ M.length = R.length ∧ M.getD s [] = (R.getD s []).take ((R.getD s []).length - n) ∧ M.flatten.length = R.flatten.length
  | 0, R, M, h, hy, hs, _ => by
    simp only [offY, Option.some.injEq] at h
    subst h
    exact ⟨hy, rfl, by rw [Nat.sub_zero, List.take_length], rfl⟩
  | n + 1, R, M, h, hy, hs, hn => by
    simp only [offY] at h
    by_cases hl : lowY H R s R.length < 0
    · rw [if_pos hl] at h; cases h
    · rw [if_neg hl] at h
      obtain ⟨h1, h2, h3, _⟩ := low_lt hl
      have hne : 0 < (R.getD s []).length := by omega
      have hrow := shift_row_a (R := R) (b := (lowY H R s R.length).toNat) hs
      have hlr : ((shiftY R s (lowY H R s R.length).toNat).getD s []).length = (R.getD s []).length - 1 := by rw [hrow, List.length_dropLast]
      obtain ⟨g1, g2, g3, g4⟩ := off_ok h (shift_ok hy hs h1 h2 hne h3) (by rw [shift_len]; exact hs) (by omega)
      refine ⟨g1, g2.trans shift_len, ?_, g4.trans (shift_flen hs h1 h2 hne)⟩
      rw [g3, hlr, hrow, dropLast_take, List.take_take]
      congr 1
      omega

theorem do_len (H : Int) (R : List (List Int)) (k b s : Int) : (doY H R k b s).1.length = R.length := by
  unfold doY
  split
  · rfl
  rename_i hy
  have hy := Classical.not_not.1 hy
  split
  · split
    · rfl
    · split
      · rfl
      · simp
  split
  · split
    · rfl
    · split
      · rfl
      · exact shift_len
  split
  · rfl
  · rename_i p hp
    split
    · rfl
    · rename_i M hM
      obtain ⟨h1, h2, _⟩ := findB_at hp
      obtain ⟨_, h3, _⟩ := off_ok hM hy.1 h1 (by omega)
      simpa using h3

theorem opB_in {n : Nat} {b s : Int} (h : opB n 1 b s = true) : 0 ≤ s ∧ s < n ∧ 1 ≤ b ∧ b ≤ 1000000 := by
  simp [opB] at h; omega
theorem opB_sh {n : Nat} {b s : Int} (h : opB n 3 b s = true) : 0 ≤ s ∧ s < n ∧ 0 ≤ b ∧ b < n ∧ b ≠ s := by
  simp [opB] at h; omega
theorem opB_kind {n : Nat} {k b s : Int} (h : opB n k b s = true) (h1 : k ≠ 1) (h3 : k ≠ 3) : k = 2 := by
  simp [opB, h1, h3] at h; exact h

theorem do_ok {H : Int} {R : List (List Int)} (h : YOk H R) (k b s : Int) : YOk H (doY H R k b s).1 := by
  unfold doY
  split
  · exact h
  rename_i hy
  have hy := Classical.not_not.1 hy
  split
  · rename_i hk
    subst hk
    obtain ⟨h1, h2, h3, h4⟩ := opB_in hy.2
    split
    · exact h
    · rename_i hf
      split
      · exact h
      · rename_i hl
        have hs : s.toNat < R.length := by omega
        have := h.low _ hs
        exact in_ok h hs (fun e => hf (findB_mem.2 e)) h3 h4 (by omega)
  split
  · rename_i hk
    subst hk
    obtain ⟨h1, h2, h3, h4, h5⟩ := opB_sh hy.2
    split
    · exact h
    · rename_i hl
      split
      · exact h
      · rename_i hf
        have hs : s.toNat < R.length := by omega
        have := h.low _ hs
        exact shift_ok h (by omega) hs (by omega) (by omega) (by omega)
  split
  · exact h
  · rename_i p hp
    split
    · exact h
    · rename_i M hM
      obtain ⟨h1, h2, _⟩ := findB_at hp
      obtain ⟨g1, g2, _⟩ := off_ok hM h h1 (by omega)
      exact cut_ok g1 (by omega)

theorem st_ok {H : Int} {R : List (List Int)} (h : YOk H R) (L : List (Int × Int × Int)) : ∀ k, YOk H (stY H R L k).1
  | 0 => h
  | k + 1 => do_ok (st_ok h L k) _ _ _
theorem st_len (H : Int) (R : List (List Int)) (L : List (Int × Int × Int)) : ∀ k, (stY H R L k).1.length = R.length
  | 0 => rfl
  | k + 1 => (do_len ..).trans (st_len H R L k)
theorem do_bad {H : Int} {R : List (List Int)} (h : ¬ YOk H R) (k b s : Int) : doY H R k b s = (R, 0, 1) := by
  unfold doY
  rw [if_pos (fun e => h e.1)]
theorem st_bad {H : Int} {R : List (List Int)} (h : ¬ YOk H R) (L : List (Int × Int × Int)) : ∀ k, stY H R L k = (R, 0)
  | 0 => rfl
  | k + 1 => by simp only [stY, st_bad h L k, do_bad h]; rfl
theorem cd_bad {H : Int} {R : List (List Int)} (h : ¬ YOk H R) (L : List (Int × Int × Int)) (k : Nat) : cdY H R L k = 1 := by
  simp only [cdY, st_bad h L k, do_bad h]

/-- How many are reshuffled is no great number. -/
theorem do_many {H : Int} {R : List (List Int)} (k b s : Int) : 0 ≤ (doY H R k b s).2.1 ∧ (doY H R k b s).2.1 ≤ 6 := by
  unfold doY
  split
  · exact ⟨by dsimp only; omega, by dsimp only; omega⟩
  rename_i hy
  have hy := Classical.not_not.1 hy
  split
  · split
    · exact ⟨by dsimp only; omega, by dsimp only; omega⟩
    · split <;> exact ⟨by dsimp only; omega, by dsimp only; omega⟩
  split
  · split
    · exact ⟨by dsimp only; omega, by dsimp only; omega⟩
    · split <;> exact ⟨by dsimp only; omega, by dsimp only; omega⟩
  split
  · exact ⟨by dsimp only; omega, by dsimp only; omega⟩
  · rename_i p hp
    split
    · exact ⟨by dsimp only; omega, by dsimp only; omega⟩
    · obtain ⟨h1, h2, _⟩ := findB_at hp
      have := hy.1.low _ h1
      have := hy.1.h2
      exact ⟨by dsimp only; omega, by dsimp only; omega⟩
theorem st_many {H : Int} {R : List (List Int)} (L : List (Int × Int × Int)) : ∀ k : Nat, 0 ≤ (stY H R L k).2 ∧ (stY H R L k).2 ≤ 6 * k
  | 0 => ⟨Int.le_refl _, Int.le_refl _⟩
  | k + 1 => by
    have h1 := st_many (H := H) (R := R) L k
    have h2 := do_many (H := H) (R := (stY H R L k).1) (L.getD k default).1 (L.getD k default).2.1 (L.getD k default).2.2
    simp only [stY]
    omega

end Go.Proofs.Ytjllilmiloippaa

namespace Go.Proofs.Ytjllilmiloippaa
open Go.RowKit

def emB (P : List (List Int)) (s : Nat) : Bool := decide ((P.getD s []).length = 0)
def fuB (H : Int) (P : List (List Int)) (s : Nat) : Bool := decide (H ≤ ((P.getD s []).length : Int))

theorem Gnd.recs {w : World} {g cap : Nat} {Z : List (Option Addr × Nat)} {P : List (List Int)} (h : Gnd w g Z P) (hc1 : P.length ≤ cap) (hc2 : cap ≤ maxLen) : RecsIn 2 ePl w (.slice (some ⟨g, 0, none⟩) P.length cap) Z :=
  ⟨some ⟨g, 0, none⟩, cap, by rw [h.len], by rw [h.len]; exact hc1, hc2, fun i hi => ⟨g, 0, rfl, fun j hj => by rw [Nat.zero_add]; exact h.top.cell (recCells_get hi hj)⟩⟩

set_option maxHeartbeats 1600000 in
theorem withoutI_any (g : Nat) (q : Option Addr) (n : Nat) (x : Int) (w : World) (hl : OwnV w g [.int .i64 x, .pointer q]) (hn : n ≤ 1048576) :
    Calls Try.prog 108 #[plV (some ⟨g, 0, none⟩) (n + 1)] w fun e w' => e = .returned (plV q n) ∧ Below w.heap.size w w' := by
  unfold plV
  have hlt := hl.lt
  have hwr : IntKind.i64.wrap (n : Int) = n := by rw [IntKind.wrap_i64]; omega
  have HL := hide hl
  clear hl
  go_enter Try.func108, Try.ntmps108
  go_upto_region 1 with (fail)
  obtain ⟨g0, eg0⟩ : ∃ z, z = w.heap.size := ⟨_, rfl⟩
  obtain ⟨W, eW⟩ : ∃ z, z = (w.alloc (.cells #[.pointer (some ⟨g, 0, none⟩), .int .i64 ((n : Int) + 1)] 115)).alloc (.cells #[.pointer none, .int .i64 0] 115) := ⟨_, rfl⟩
  have hb : Below w.heap.size w W := by rw [eW]; exact Below.step (Below.alloc1 _ _) (Below.alloc1 _ _)
  have HB : Hid (OwnV W g0 [.pointer (some ⟨g, 0, none⟩), .int .i64 ((n : Int) + 1)]) := by rw [eW, eg0]; exact (ownV_alloc _ _ _).step (Below.alloc1 _ _)
  have HA : Hid (OwnV W (g0 + 1) [.pointer none, .int .i64 0]) := by rw [eW, eg0]; exact own_new _ _ _ _ (by simp)
  rw [← eW, ← eg0]
  have hg0 : w.heap.size ≤ g0 := by omega
  clear eW eg0
  have HW := hide hb
  replace HL := hide ((unhide HL).step hb)
  clear hb
  obtain ⟨wd, ewd⟩ : ∃ z, z = W.drew := ⟨_, rfl⟩
  have hb : Below W.heap.size W wd := by rw [ewd]; exact (Below.refl _ _).drew
  replace HL := hide ((unhide HL).step hb)
  replace HB := hide ((unhide HB).step hb)
  replace HA := hide ((unhide HA).step hb)
  replace HW := hide (Below.step (unhide HW) hb)
  clear hb
  refine wp_region_held_drew (S := fun w' => w'.cell? ⟨g0, 0, none⟩ = some (.pointer (some ⟨g, 0, none⟩)) ∧ w'.cell? ⟨g0, 1, none⟩ = some (.int .i64 ((n : Int) + 1)) ∧ w'.cell? ⟨g, 1, none⟩ = some (.pointer q)) (by kernel_rfl) ⟨by rw [← ewd]; exact (unhide HB).cell (i := 0) rfl, by rw [← ewd]; exact (unhide HB).cell (i := 1) rfl, by rw [← ewd]; exact (unhide HL).cell (i := 1) rfl⟩ (fun hHeld => ?_)
  rw [← ewd] at hHeld ⊢
  clear ewd
  refine wpAnyH_take (i := 0) (v := ?_) rfl (by kernel_rfl) (by kernel_rfl) (by kernel_rfl) (fun _ _ _ h => h) (Or.inl ⟨by rfl, ?_⟩) (by assumption) ?_
  rotate_left
  · intro wy hSw
    obtain ⟨hS0, hS1, hS2⟩ := hSw
    go_simp
    try with_reducible rfl
  try simp only [Act.put, List.getElem_toArray, List.getElem_cons_zero, List.setIfInBounds_toArray, List.set_cons_zero, List.set_cons_succ]
  refine wpAnyH_take (i := 1) (v := ?_) rfl (by kernel_rfl) (by kernel_rfl) (by kernel_rfl) (fun _ _ _ h => h) (Or.inl ⟨by rfl, ?_⟩) (by assumption) ?_
  rotate_left
  · intro wy hSw
    obtain ⟨hS0, hS1, hS2⟩ := hSw
    go_simp
    try with_reducible rfl
  try simp only [Act.put, List.getElem_toArray, List.getElem_cons_succ, List.getElem_cons_zero, List.setIfInBounds_toArray, List.set_cons_zero, List.set_cons_succ]
  refine wpAnyH_take (i := 2) (v := ?_) rfl (by kernel_rfl) (by kernel_rfl) (by kernel_rfl) (fun _ _ _ h => h) (Or.inl ⟨by rfl, ?_⟩) (by assumption) ?_
  rotate_left
  · intro wy hSw
    obtain ⟨hS0, hS1, hS2⟩ := hSw
    go_simp
    try with_reducible rfl
  try simp only [Act.put, List.getElem_toArray, List.getElem_cons_succ, List.getElem_cons_zero, List.setIfInBounds_toArray, List.set_cons_zero, List.set_cons_succ]
  refine wpAnyH_take (i := 3) (v := ?_) rfl (by kernel_rfl) (by kernel_rfl) (by kernel_rfl) (fun _ _ _ h => h) (Or.inl ⟨by rfl, ?_⟩) (by assumption) ?_
  rotate_left
  · intro wy hSw
    obtain ⟨hS0, hS1, hS2⟩ := hSw
    go_simp
    try with_reducible rfl
  try simp only [Act.put, List.getElem_toArray, List.getElem_cons_succ, List.getElem_cons_zero, List.setIfInBounds_toArray, List.set_cons_zero, List.set_cons_succ]
  refine wpAnyH_take (i := 4) (v := ?_) rfl (by kernel_rfl) (by kernel_rfl) (by kernel_rfl) (fun _ _ _ h => h) (Or.inl ⟨by rfl, ?_⟩) (by assumption) ?_
  rotate_left
  · intro wy hSw
    obtain ⟨hS0, hS1, hS2⟩ := hSw
    go_simp
    try with_reducible rfl
  try simp only [Act.put, List.getElem_toArray, List.getElem_cons_succ, List.getElem_cons_zero, List.setIfInBounds_toArray, List.set_cons_zero, List.set_cons_succ]
  refine wpAnyH_take (i := 5) (v := ?_) rfl (by kernel_rfl) (by kernel_rfl) (by kernel_rfl) (fun _ _ _ h => h) (Or.inl ⟨by rfl, ?_⟩) (by assumption) ?_
  rotate_left
  · intro wy hSw
    obtain ⟨hS0, hS1, hS2⟩ := hSw
    go_simp
    try with_reducible rfl
  try simp only [Act.put, List.getElem_toArray, List.getElem_cons_succ, List.getElem_cons_zero, List.setIfInBounds_toArray, List.set_cons_zero, List.set_cons_succ]
  refine wpAnyH_take (i := 6) (v := ?_) rfl (by kernel_rfl) (by kernel_rfl) (by kernel_rfl) (fun _ _ _ h => h) (Or.inl ⟨by rfl, ?_⟩) (by assumption) ?_
  rotate_left
  · intro wy hSw
    obtain ⟨hS0, hS1, hS2⟩ := hSw
    go_simp
    try with_reducible rfl
  try simp only [Act.put, List.getElem_toArray, List.getElem_cons_succ, List.getElem_cons_zero, List.setIfInBounds_toArray, List.set_cons_zero, List.set_cons_succ]
  refine wpAnyH_take (i := 7) (v := ?_) rfl (by kernel_rfl) (by kernel_rfl) (by kernel_rfl) (fun _ _ _ h => h) (Or.inl ⟨by rfl, ?_⟩) (by assumption) ?_
  rotate_left
  · intro wy hSw
    obtain ⟨hS0, hS1, hS2⟩ := hSw
    go_simp
    try with_reducible rfl
  try simp only [Act.put, List.getElem_toArray, List.getElem_cons_succ, List.getElem_cons_zero, List.setIfInBounds_toArray, List.set_cons_zero, List.set_cons_succ]
  refine wpAnyH_take (i := 8) (v := ?_) rfl (by kernel_rfl) (by kernel_rfl) (by kernel_rfl) (fun _ _ _ h => h) (Or.inl ⟨by rfl, ?_⟩) (by assumption) ?_
  rotate_left
  · intro wy hSw
    obtain ⟨hS0, hS1, hS2⟩ := hSw
    go_simp
    try with_reducible rfl
  try simp only [Act.put, List.getElem_toArray, List.getElem_cons_succ, List.getElem_cons_zero, List.setIfInBounds_toArray, List.set_cons_zero, List.set_cons_succ]
  refine wpAnyH_ready (rs := [9]) (by kernel_rfl) (by simp) ?_
  refine AllReadyH.cons rfl (fun K hK => ?_) AllReadyH.nil
  have rf0 := (unhide HA).frozen 0
  have rf1 := (unhide HA).frozen 1
  have r0 := (unhide HA).cell (i := 0) rfl
  have r1 := (unhide HA).cell (i := 1) rfl
  have HA2 := hide (((unhide HA).set 0 (.pointer q) (by simp)).set 1 (.int .i64 (n : Int)) (by simp))
  have f0 := (unhide HA2).cell (i := 0) rfl
  have f1 := (unhide HA2).cell (i := 1) rfl
  have hne : ¬ g = g0 + 1 := by omega
  have HKS : Hid (Kept (fun b => b = g0 + 1) wd ((wd.setCell ⟨g0 + 1, 0, none⟩ (.pointer q)).setCell ⟨g0 + 1, 1, none⟩ (.int .i64 (n : Int)))) := ((Kept.refl (fun b => b = g0 + 1) _).setCell (p := ⟨g0 + 1, 0, none⟩) rfl _).setCell (p := ⟨g0 + 1, 1, none⟩) rfl _
  have hWB : Below w.heap.size w wd := unhide HW
  replace HB := hide ((unhide HB).kept (unhide HKS) (by omega))
  replace HL := hide ((unhide HL).kept (unhide HKS) (by omega))
  go_simp
  refine hK.out _ _ ⟨(unhide HB).cell (i := 0) rfl, (unhide HB).cell (i := 1) rfl, (unhide HL).cell (i := 1) rfl⟩ (fun hHeld => ?_)
  clear hK K
  try simp only [Act.put, List.setIfInBounds_toArray, List.set_cons_zero, List.set_cons_succ]
  refine wpAnyH_done (by kernel_rfl) ?_ _
  go_wp2_with fail
  refine bodyPost_ret (v := .agg #[.pointer q, .int .i64 (n : Int)]) (by simp [results, Try.results108, go_sem, f0, f1]) rfl ?_
  exact ⟨rfl, below_kept hWB (unhide HKS) hWB.size (fun b e => by omega)⟩

set_option maxHeartbeats 1600000 in
theorem ownCopyPileI_any (ar : Option Addr) (m cr : Nat) (Z : List (Option Addr × Nat)) (w : World) (h : RecsIn 2 ePl w (.slice ar m cr) Z) (hm : m ≤ 1048576) :
    Calls Try.prog 106 #[.slice ar m cr] w fun e w' => e = .returned (.slice (some ⟨w.heap.size, 0, none⟩) m m) ∧ OwnV w' w.heap.size (recCells 2 ePl Z) ∧ Below w.heap.size w w' := by
  have hlen : Z.length = m := by
    obtain ⟨ao', cap', e, _⟩ := h
    simp only [Value.slice.injEq] at e
    exact e.2.1.symm
  have hmk := run_make_recs (P := Try.prog) 71 115 _ 2 16 Try.underlying71 Try.infoPileI .i64 .i64 m (by omega) (by omega)
  rw [show (Value.agg #[.pointer none, .int .i64 0]).cells = #[.pointer none, .int .i64 0] from rfl] at hmk
  obtain ⟨Q, eQ⟩ : ∃ Q : Array Value, Q = #[.pointer none, .int .i64 0] := ⟨_, rfl⟩
  rw [← eQ] at hmk
  have hsz : (Try.prog.info? 115).map (·.size) = some 2 := by
    obtain ⟨i0, hi, hzz⟩ := Option.map_eq_some_iff.1 Try.infoPileI
    simp only [Prod.mk.injEq] at hzz
    rw [hi, Option.map_some, hzz.2.1]
  have HSRC := hide (recs_src h)
  have HCS : Hid ((recCells 2 ePl Z).length = m * 2) := by show _ = _; rw [recCells_length, hlen]
  have H1 : Hid (∀ v ∈ recCells 2 ePl Z, v.oneCell' = true) := fun v hv => by
    unfold recCells at hv
    obtain ⟨k, _, rfl⟩ := List.mem_map.1 hv
    unfold ePl
    split <;> rfl
  have A := Below.alloc1 w (.cells (madeCells Q (m * 2)) 115)
  have HW := hide A
  have O := ownV_alloc w (madeCells Q (m * 2)) 115
  have HO := hide O
  have hzl : (madeCells Q (m * 2)).toList.length = m * 2 := by simp [madeCells]
  have HZL := hide hzl
  have HSRC2 : Hid (0 < m → ∃ ad, ar = some ad ∧ ∀ j v, (recCells 2 ePl Z)[j]? = some v → (w.alloc (.cells (madeCells Q (m * 2)) 115)).cell? (ad.add j) = some v) := fun hp => by
    obtain ⟨ad, e, hx⟩ := unhide HSRC hp
    exact ⟨ad, e, fun j v hj => ((A.cell (lt_of_cell (hx j v hj))).trans (hx j v hj))⟩
  obtain ⟨w1, hrun, hO1, hb1⟩ := run_copy_all 71 71 115 2 Try.underlying71 hsz w.heap.size m m ar cr _ _ (unhide HO) (by rw [unhide HZL, unhide HCS]) (unhide HCS) (unhide HSRC2) (unhide H1) w.heap.size w (unhide HW) (Nat.le_refl _)
  have HO1 := hide hO1
  have HW1 := hide hb1
  clear h eQ A O hzl HSRC hsz HO HW HSRC2 H1 HCS HZL hO1 hb1 hlen
  go_enter Try.func106, Try.ntmps106
  go_wp2
  go_ret
  exact ⟨rfl, unhide HO1, unhide HW1⟩

set_option maxHeartbeats 1600000 in
theorem isEmptyI_any (H : Int) (g cap : Nat) (Z : List (Option Addr × Nat)) (P : List (List Int)) (s : Nat) (w : World) (h : Gnd w g Z P) (hs : s < P.length) (_ : P.length ≤ cap) (_ : cap ≤ 1048576) :
    Calls Try.prog 104 #[gndV H g P.length cap, .int .i64 (s : Int)] w fun e w' => e = .returned (.bool (emB P s)) ∧ Below w.heap.size w w' := by
  obtain ⟨n, en⟩ : ∃ n, (P.getD s []).length = n := ⟨_, rfl⟩
  unfold emB
  rw [en]
  have EN := hide en
  clear en
  have hsi : (s : Int) < (P.length : Int) := by omega
  cases n with
  | zero =>
    rw [show decide (0 = 0) = true from rfl]
    have HG := hide h
    clear h
    unfold gndV
    go_enter Try.func104, Try.ntmps104
    go_upto_region 1 with (fail)
    obtain ⟨g0, eg0⟩ : ∃ z, z = w.heap.size := ⟨_, rfl⟩
    have hgl : g < g0 := by rw [eg0]; exact (unhide HG).top.lt
    obtain ⟨W, eW⟩ : ∃ z, z = w.alloc (.cells #[.int .i64 H, .slice (some ⟨g, 0, none⟩) P.length cap] 73) := ⟨_, rfl⟩
    have hb : Below w.heap.size w W := by rw [eW]; exact Below.alloc1 _ _
    have HB : Hid (OwnV W g0 [.int .i64 H, .slice (some ⟨g, 0, none⟩) P.length cap]) := by rw [eW, eg0]; exact ownV_alloc _ _ _
    rw [← eW, ← eg0]
    have hg0 : w.heap.size ≤ g0 := by omega
    clear eW eg0
    have HW := hide hb
    replace HG := hide ((unhide HG).below hb)
    clear hb
    obtain ⟨p0, p1⟩ := (unhide HG).at hs
    rw [unhide EN] at p1
    have b1 := (unhide HB).cell (i := 1) rfl
    go_wp2
    go_ret
    exact ⟨rfl, unhide HW⟩
  | succ n =>
    have e0 : decide (n + 1 = 0) = false := rfl
    rw [e0]
    have HG := hide h
    clear h
    unfold gndV
    go_enter Try.func104, Try.ntmps104
    go_upto_region 1 with (fail)
    obtain ⟨g0, eg0⟩ : ∃ z, z = w.heap.size := ⟨_, rfl⟩
    have hgl : g < g0 := by rw [eg0]; exact (unhide HG).top.lt
    obtain ⟨W, eW⟩ : ∃ z, z = w.alloc (.cells #[.int .i64 H, .slice (some ⟨g, 0, none⟩) P.length cap] 73) := ⟨_, rfl⟩
    have hb : Below w.heap.size w W := by rw [eW]; exact Below.alloc1 _ _
    have HB : Hid (OwnV W g0 [.int .i64 H, .slice (some ⟨g, 0, none⟩) P.length cap]) := by rw [eW, eg0]; exact ownV_alloc _ _ _
    rw [← eW, ← eg0]
    have hg0 : w.heap.size ≤ g0 := by omega
    clear eW eg0
    have HW := hide hb
    replace HG := hide ((unhide HG).below hb)
    clear hb
    obtain ⟨p0, p1⟩ := (unhide HG).at hs
    rw [unhide EN] at p1
    have b1 := (unhide HB).cell (i := 1) rfl
    have e1 : ((((n + 1 : Nat) : Int)) == 0) = false := by simp; omega
    go_wp2
    go_ret
    exact ⟨by simp; try omega, unhide HW⟩

set_option maxHeartbeats 1600000 in
theorem isFullI_any (H : Int) (g cap : Nat) (Z : List (Option Addr × Nat)) (P : List (List Int)) (s : Nat) (w : World) (h : Gnd w g Z P) (hs : s < P.length) (_ : P.length ≤ cap) (_ : cap ≤ 1048576) :
    Calls Try.prog 105 #[gndV H g P.length cap, .int .i64 (s : Int)] w fun e w' => e = .returned (.bool (fuB H P s)) ∧ Below w.heap.size w w' := by
  obtain ⟨n, en⟩ : ∃ n, (P.getD s []).length = n := ⟨_, rfl⟩
  unfold fuB
  rw [en]
  have EN := hide en
  clear en
  have hsi : (s : Int) < (P.length : Int) := by omega
  by_cases hf : H ≤ (n : Int)
  · have e0 : decide (H ≤ (n : Int)) = true := by simpa using hf
    rw [e0]
    have HG := hide h
    clear h
    unfold gndV
    go_enter Try.func105, Try.ntmps105
    go_upto_region 1 with (fail)
    obtain ⟨g0, eg0⟩ : ∃ z, z = w.heap.size := ⟨_, rfl⟩
    have hgl : g < g0 := by rw [eg0]; exact (unhide HG).top.lt
    obtain ⟨W, eW⟩ : ∃ z, z = w.alloc (.cells #[.int .i64 H, .slice (some ⟨g, 0, none⟩) P.length cap] 73) := ⟨_, rfl⟩
    have hb : Below w.heap.size w W := by rw [eW]; exact Below.alloc1 _ _
    have HB : Hid (OwnV W g0 [.int .i64 H, .slice (some ⟨g, 0, none⟩) P.length cap]) := by rw [eW, eg0]; exact ownV_alloc _ _ _
    rw [← eW, ← eg0]
    have hg0 : w.heap.size ≤ g0 := by omega
    clear eW eg0
    have HW := hide hb
    replace HG := hide ((unhide HG).below hb)
    clear hb
    have HP1 : Hid (W.cell? ⟨g, s * 2 + 1, none⟩ = some (.int .i64 (n : Int))) := by rw [← unhide EN]; exact ((unhide HG).at hs).2
    have gt0 := fun x' : Gr W => gr_cell ((unhide HB).cell (i := 0) rfl) x'
    have gt1 := fun x' : Gr W => gr_cell ((unhide HB).cell (i := 1) rfl) x'
    have gt2 := fun x' : Gr W => gr_cell (unhide HP1) x'
    have gsome := gr_some W
    refine wp_region_grown (by kernel_rfl) (by kernel_rfl) ?_
    repeat (go_big_quiet_step (fail))
    refine wpQuiet_nil ?_
    intro wz hw1
    obtain ⟨z', hz⟩ := hw1
    have hb : Below W.heap.size W wz := hz ▸ z'.ok
    clear hz z' gsome gt0 gt1 gt2
    replace HW := hide (Below.step (unhide HW) hb)
    clear hb
    go_wp2
    go_ret
    exact ⟨rfl, unhide HW⟩
  · have e0 : decide (H ≤ (n : Int)) = false := by simpa using hf
    rw [e0]
    have HG := hide h
    clear h
    unfold gndV
    go_enter Try.func105, Try.ntmps105
    go_upto_region 1 with (fail)
    obtain ⟨g0, eg0⟩ : ∃ z, z = w.heap.size := ⟨_, rfl⟩
    have hgl : g < g0 := by rw [eg0]; exact (unhide HG).top.lt
    obtain ⟨W, eW⟩ : ∃ z, z = w.alloc (.cells #[.int .i64 H, .slice (some ⟨g, 0, none⟩) P.length cap] 73) := ⟨_, rfl⟩
    have hb : Below w.heap.size w W := by rw [eW]; exact Below.alloc1 _ _
    have HB : Hid (OwnV W g0 [.int .i64 H, .slice (some ⟨g, 0, none⟩) P.length cap]) := by rw [eW, eg0]; exact ownV_alloc _ _ _
    rw [← eW, ← eg0]
    have hg0 : w.heap.size ≤ g0 := by omega
    clear eW eg0
    have HW := hide hb
    replace HG := hide ((unhide HG).below hb)
    clear hb
    have HP1 : Hid (W.cell? ⟨g, s * 2 + 1, none⟩ = some (.int .i64 (n : Int))) := by rw [← unhide EN]; exact ((unhide HG).at hs).2
    have gt0 := fun x' : Gr W => gr_cell ((unhide HB).cell (i := 0) rfl) x'
    have gt1 := fun x' : Gr W => gr_cell ((unhide HB).cell (i := 1) rfl) x'
    have gt2 := fun x' : Gr W => gr_cell (unhide HP1) x'
    have gsome := gr_some W
    refine wp_region_grown (by kernel_rfl) (by kernel_rfl) ?_
    repeat (go_big_quiet_step (fail))
    refine wpQuiet_nil ?_
    intro wz hw1
    obtain ⟨z', hz⟩ := hw1
    have hb : Below W.heap.size W wz := hz ▸ z'.ok
    clear hz z' gsome gt0 gt1 gt2
    replace HW := hide (Below.step (unhide HW) hb)
    clear hb
    go_wp2
    go_ret
    exact ⟨rfl, unhide HW⟩

set_option maxRecDepth 10000 in
set_option maxHeartbeats 3200000 in
theorem putI_any (H : Int) (g cap : Nat) (Z : List (Option Addr × Nat)) (P : List (List Int)) (x : Int) (s : Nat) (w : World) (h : Gnd w g Z P) (hs : s < P.length) (_ : P.length ≤ cap) (_ : cap ≤ 1048576) (hh : (P.getD s []).length ≤ 1048576) :
    Calls Try.prog 84 #[gndV H g P.length cap, .int .i64 x, .int .i64 (s : Int)] w fun e w' => e = .returned (.tuple #[]) ∧ ∃ Z', Gnd w' g Z' (P.set s (x :: P.getD s [])) ∧ Kept (fun b => b = g) w w' := by
  obtain ⟨row, erow⟩ : ∃ row, P.getD s [] = row := ⟨_, rfl⟩
  rw [erow] at hh ⊢
  have ER := hide erow
  clear erow
  have HG := hide h
  clear h
  unfold gndV
  go_enter Try.func84, Try.ntmps84
  go_upto_region 1 with (fail)
  obtain ⟨g0, eg0⟩ : ∃ z, z = w.heap.size := ⟨_, rfl⟩
  have hgl : g < g0 := by rw [eg0]; exact (unhide HG).top.lt
  obtain ⟨W, eW⟩ : ∃ z, z = w.alloc (.cells #[.int .i64 H, .slice (some ⟨g, 0, none⟩) P.length cap] 73) := ⟨_, rfl⟩
  have hb : Below w.heap.size w W := by rw [eW]; exact Below.alloc1 _ _
  have HB : Hid (OwnV W g0 [.int .i64 H, .slice (some ⟨g, 0, none⟩) P.length cap]) := by rw [eW, eg0]; exact ownV_alloc _ _ _
  rw [← eW, ← eg0]
  have hg0 : w.heap.size ≤ g0 := by omega
  clear eW eg0
  have HW := hide hb
  replace HG := hide ((unhide HG).below hb)
  clear hb
  obtain ⟨n, en⟩ : ∃ n, row.length = n := ⟨_, rfl⟩
  rw [en] at hh
  have EN := hide en
  clear en
  obtain ⟨p, ep⟩ : ∃ p, (Z.getD s default).1 = p := ⟨_, rfl⟩
  have EP := hide ep
  clear ep
  have hsi : (s : Int) < (P.length : Int) := by omega
  obtain ⟨wd, ewd⟩ : ∃ z, z = W.drew := ⟨_, rfl⟩
  have hb : Below W.heap.size W wd := by rw [ewd]; exact (Below.refl _ _).drew
  replace HG := hide ((unhide HG).below hb)
  replace HB := hide ((unhide HB).step hb)
  replace HW := hide (Below.step (unhide HW) hb)
  clear hb
  refine wp_region_held_drew (S := fun w' => w'.cell? ⟨g0, 1, none⟩ = some (.slice (some ⟨g, 0, none⟩) P.length cap)) (by kernel_rfl) (by rw [← ewd]; exact ((unhide HB).cell (i := 1) rfl)) (fun hHeld => ?_)
  rw [← ewd] at hHeld ⊢
  clear ewd
  refine wpAnyH_take (i := 0) (v := ?_) rfl (by kernel_rfl) (by kernel_rfl) (by kernel_rfl) (fun _ _ _ h => h) (Or.inl ⟨by rfl, ?_⟩) (by assumption) ?_
  rotate_left
  · intro wy hSw
    have hS0 := hSw
    go_simp
    try with_reducible rfl
  try simp only [Act.put, List.getElem_toArray, List.getElem_cons_zero, List.setIfInBounds_toArray, List.set_cons_zero, List.set_cons_succ]
  refine wpAnyH_take (i := 1) (v := ?_) rfl (by kernel_rfl) (by kernel_rfl) (by kernel_rfl) (fun _ _ _ h => h) (Or.inl ⟨by rfl, ?_⟩) (by assumption) ?_
  rotate_left
  · intro wy hSw
    have hS0 := hSw
    go_simp
    try with_reducible rfl
  try simp only [Act.put, List.getElem_toArray, List.getElem_cons_succ, List.getElem_cons_zero, List.setIfInBounds_toArray, List.set_cons_zero, List.set_cons_succ]
  refine wpAnyH_take (i := 2) (v := ?_) rfl (by kernel_rfl) (by kernel_rfl) (by kernel_rfl) (fun _ _ _ h => h) (Or.inl ⟨by rfl, ?_⟩) (by assumption) ?_
  rotate_left
  · intro wy hSw
    have hS0 := hSw
    go_simp
    try with_reducible rfl
  try simp only [Act.put, List.getElem_toArray, List.getElem_cons_succ, List.getElem_cons_zero, List.setIfInBounds_toArray, List.set_cons_zero, List.set_cons_succ]
  refine wpAnyH_take (i := 3) (v := ?_) rfl (by kernel_rfl) (by kernel_rfl) (by kernel_rfl) (fun _ _ _ h => h) (Or.inl ⟨by rfl, ?_⟩) (by assumption) ?_
  rotate_left
  · intro wy hSw
    have hS0 := hSw
    go_simp
    try with_reducible rfl
  try simp only [Act.put, List.getElem_toArray, List.getElem_cons_succ, List.getElem_cons_zero, List.setIfInBounds_toArray, List.set_cons_zero, List.set_cons_succ]
  refine wpAnyH_take (i := 4) (v := ?_) rfl (by kernel_rfl) (by kernel_rfl) (by kernel_rfl) (fun _ _ _ h => h) (Or.inl ⟨by rfl, ?_⟩) (by assumption) ?_
  rotate_left
  · intro wy hSw
    have hS0 := hSw
    go_simp
    try with_reducible rfl
  try simp only [Act.put, List.getElem_toArray, List.getElem_cons_succ, List.getElem_cons_zero, List.setIfInBounds_toArray, List.set_cons_zero, List.set_cons_succ]
  refine wpAnyH_take (i := 5) (v := ?_) rfl (by kernel_rfl) (by kernel_rfl) (by kernel_rfl) (fun _ _ _ h => h) (Or.inl ⟨by rfl, ?_⟩) (by assumption) ?_
  rotate_left
  · intro wy hSw
    have hS0 := hSw
    go_simp
    try with_reducible rfl
  try simp only [Act.put, List.getElem_toArray, List.getElem_cons_succ, List.getElem_cons_zero, List.setIfInBounds_toArray, List.set_cons_zero, List.set_cons_succ]
  refine wpAnyH_take (i := 6) (v := ?_) rfl (by kernel_rfl) (by kernel_rfl) (by kernel_rfl) (fun _ _ _ h => h) (Or.inl ⟨by rfl, ?_⟩) (by assumption) ?_
  rotate_left
  · intro wy hSw
    have hS0 := hSw
    go_simp
    try with_reducible rfl
  try simp only [Act.put, List.getElem_toArray, List.getElem_cons_succ, List.getElem_cons_zero, List.setIfInBounds_toArray, List.set_cons_zero, List.set_cons_succ]
  refine wpAnyH_take (i := 8) (v := ?_) rfl (by kernel_rfl) (by kernel_rfl) (by kernel_rfl) (fun _ _ _ h => h) (Or.inl ⟨by rfl, ?_⟩) (by assumption) ?_
  rotate_left
  · intro wy hSw
    have hS0 := hSw
    go_simp
    try with_reducible rfl
  try simp only [Act.put, List.getElem_toArray, List.getElem_cons_succ, List.getElem_cons_zero, List.setIfInBounds_toArray, List.set_cons_zero, List.set_cons_succ]
  refine wpAnyH_ready (rs := [7]) (by kernel_rfl) (by simp) ?_
  refine AllReadyH.cons rfl (fun K hK => ?_) AllReadyH.nil
  obtain ⟨p0, p1⟩ := (unhide HG).at hs
  rw [unhide EP] at p0
  rw [unhide ER, unhide EN] at p1
  go_simp
  clear p0 p1
  refine hK.out _ _ hHeld (fun hHeld => ?_)
  clear hK K
  try simp only [Act.put, List.setIfInBounds_toArray, List.set_cons_zero, List.set_cons_succ]
  refine wpAnyH_ready (rs := [9]) (by kernel_rfl) (by simp) ?_
  refine AllReadyH.cons rfl (fun K hK => ?_) AllReadyH.nil
  go_simp
  refine (withI_any p n x _ (by omega)).mono ?_
  rintro e w6 ⟨g5, rfl, ho5, hg5, hb⟩
  replace HG := hide ((unhide HG).below hb)
  replace HB := hide ((unhide HB).step hb)
  replace HW := hide (Below.step (unhide HW) hb)
  clear hb
  have HL5 : Hid (Lnk w6 (x :: row) (some ⟨g5, 0, none⟩)) := ⟨g5, p, rfl, ho5, by have h1 := (unhide HG).lnk s hs; rw [unhide ER, unhide EP] at h1; exact h1⟩
  clear ho5
  refine hK.out _ _ ((unhide HB).cell (i := 1) rfl) (fun hHeld => ?_)
  clear hK K
  try simp only [Act.put, List.setIfInBounds_toArray, List.set_cons_zero, List.set_cons_succ]
  refine wpAnyH_take (i := 10) (v := ?_) rfl (by kernel_rfl) (by kernel_rfl) (by kernel_rfl) (fun _ _ _ h => h) (Or.inl ⟨by rfl, ?_⟩) (by assumption) ?_
  rotate_left
  · intro wy hSw
    have hS0 := hSw
    go_simp
    try with_reducible rfl
  try simp only [Act.put, List.getElem_toArray, List.getElem_cons_succ, List.getElem_cons_zero, List.setIfInBounds_toArray, List.set_cons_zero, List.set_cons_succ]
  refine wpAnyH_ready (rs := [11]) (by kernel_rfl) (by simp) ?_
  refine AllReadyH.cons rfl (fun K hK => ?_) AllReadyH.nil
  obtain ⟨p0, p1⟩ := (unhide HG).at hs
  rw [unhide EP] at p0
  rw [unhide ER, unhide EN] at p1
  have fr0 := (unhide HG).top.frozen (s * 2)
  have fr1 := (unhide HG).top.frozen (s * 2 + 1)
  have HN := hide ((unhide HG).put hs (unhide HL5))
  have e5 : (x :: row).length = n + 1 := by rw [List.length_cons, unhide EN]
  rw [e5] at HN
  have HKS : Hid (Kept (fun b => b = g) w6 ((w6.setCell ⟨g, s * 2, none⟩ (.pointer (some ⟨g5, 0, none⟩))).setCell ⟨g, s * 2 + 1, none⟩ (.int .i64 ((n + 1 : Nat) : Int)))) := ((Kept.refl (fun b => b = g) _).setCell (p := ⟨g, s * 2, none⟩) rfl _).setCell (p := ⟨g, s * 2 + 1, none⟩) rfl _
  have hWB : Below w.heap.size w w6 := unhide HW
  replace HB := hide ((unhide HB).kept (unhide HKS) (by omega))
  go_simp
  clear p0 p1 fr0 fr1
  refine hK.out _ _ ((unhide HB).cell (i := 1) rfl) (fun hHeld => ?_)
  clear hK K
  try simp only [Act.put, List.setIfInBounds_toArray, List.set_cons_zero, List.set_cons_succ]
  refine wpAnyH_done (by kernel_rfl) ?_ _
  go_wp2_with fail
  go_end0
  exact ⟨rfl, _, unhide HN, (kept_of_below hWB).trans (unhide HKS)⟩

set_option maxRecDepth 10000 in
set_option maxHeartbeats 3200000 in
theorem liftI_any (H : Int) (g cap : Nat) (Z : List (Option Addr × Nat)) (P : List (List Int)) (x : Int) (xs : List Int) (s : Nat) (w : World) (h : Gnd w g Z P) (hs : s < P.length) (_ : P.length ≤ cap) (_ : cap ≤ 1048576) (hx : P.getD s [] = x :: xs) (hh : xs.length ≤ 1048576) :
    Calls Try.prog 83 #[gndV H g P.length cap, .int .i64 (s : Int)] w fun e w' => e = .returned (.int .i64 x) ∧ ∃ Z', Gnd w' g Z' (P.set s xs) ∧ Kept (fun b => b = g) w w' := by
  have HG := hide h
  clear h
  unfold gndV
  go_enter Try.func83, Try.ntmps83
  go_upto_region 1 with (fail)
  obtain ⟨g0, eg0⟩ : ∃ z, z = w.heap.size := ⟨_, rfl⟩
  have hgl : g < g0 := by rw [eg0]; exact (unhide HG).top.lt
  obtain ⟨W, eW⟩ : ∃ z, z = w.alloc (.cells #[.int .i64 H, .slice (some ⟨g, 0, none⟩) P.length cap] 73) := ⟨_, rfl⟩
  have hb : Below w.heap.size w W := by rw [eW]; exact Below.alloc1 _ _
  have HB : Hid (OwnV W g0 [.int .i64 H, .slice (some ⟨g, 0, none⟩) P.length cap]) := by rw [eW, eg0]; exact ownV_alloc _ _ _
  rw [← eW, ← eg0]
  have hg0 : w.heap.size ≤ g0 := by omega
  clear eW eg0
  have HW := hide hb
  replace HG := hide ((unhide HG).below hb)
  clear hb
  have EX := hide hx
  clear hx
  obtain ⟨n, en⟩ : ∃ n, xs.length = n := ⟨_, rfl⟩
  rw [en] at hh
  have EN := hide en
  clear en
  obtain ⟨p, ep⟩ : ∃ p, (Z.getD s default).1 = p := ⟨_, rfl⟩
  have EP := hide ep
  clear ep
  have hL := (unhide HG).lnk s hs
  rw [unhide EP, unhide EX] at hL
  obtain ⟨g2, q, e2, ho, hl⟩ := hL
  subst e2
  have HO := hide ho
  have HLQ := hide hl
  clear ho hl
  have hsi : (s : Int) < (P.length : Int) := by omega
  obtain ⟨p0, p1⟩ := (unhide HG).at hs
  rw [unhide EP] at p0
  rw [unhide EX, List.length_cons, unhide EN] at p1
  have x0 := (unhide HO).cell (i := 0) rfl
  have b1 := (unhide HB).cell (i := 1) rfl
  go_upto_region 2 with (fail)
  clear p0 p1 x0 b1
  obtain ⟨wd, ewd⟩ : ∃ z, z = W.drew := ⟨_, rfl⟩
  have hb : Below W.heap.size W wd := by rw [ewd]; exact (Below.refl _ _).drew
  replace HG := hide ((unhide HG).below hb)
  replace HB := hide ((unhide HB).step hb)
  replace HO := hide ((unhide HO).step hb)
  replace HLQ := hide ((unhide HLQ).below hb)
  replace HW := hide (Below.step (unhide HW) hb)
  clear hb
  refine wp_region_held_drew (S := fun w' => w'.cell? ⟨g0, 1, none⟩ = some (.slice (some ⟨g, 0, none⟩) P.length cap)) (by kernel_rfl) (by rw [← ewd]; exact ((unhide HB).cell (i := 1) rfl)) (fun hHeld => ?_)
  rw [← ewd] at hHeld ⊢
  clear ewd
  refine wpAnyH_take (i := 0) (v := ?_) rfl (by kernel_rfl) (by kernel_rfl) (by kernel_rfl) (fun _ _ _ h => h) (Or.inl ⟨by rfl, ?_⟩) (by assumption) ?_
  rotate_left
  · intro wy hSw
    have hS0 := hSw
    go_simp
    try with_reducible rfl
  try simp only [Act.put, List.getElem_toArray, List.getElem_cons_zero, List.setIfInBounds_toArray, List.set_cons_zero, List.set_cons_succ]
  refine wpAnyH_take (i := 1) (v := ?_) rfl (by kernel_rfl) (by kernel_rfl) (by kernel_rfl) (fun _ _ _ h => h) (Or.inl ⟨by rfl, ?_⟩) (by assumption) ?_
  rotate_left
  · intro wy hSw
    have hS0 := hSw
    go_simp
    try with_reducible rfl
  try simp only [Act.put, List.getElem_toArray, List.getElem_cons_succ, List.getElem_cons_zero, List.setIfInBounds_toArray, List.set_cons_zero, List.set_cons_succ]
  refine wpAnyH_take (i := 2) (v := ?_) rfl (by kernel_rfl) (by kernel_rfl) (by kernel_rfl) (fun _ _ _ h => h) (Or.inl ⟨by rfl, ?_⟩) (by assumption) ?_
  rotate_left
  · intro wy hSw
    have hS0 := hSw
    go_simp
    try with_reducible rfl
  try simp only [Act.put, List.getElem_toArray, List.getElem_cons_succ, List.getElem_cons_zero, List.setIfInBounds_toArray, List.set_cons_zero, List.set_cons_succ]
  refine wpAnyH_take (i := 3) (v := ?_) rfl (by kernel_rfl) (by kernel_rfl) (by kernel_rfl) (fun _ _ _ h => h) (Or.inl ⟨by rfl, ?_⟩) (by assumption) ?_
  rotate_left
  · intro wy hSw
    have hS0 := hSw
    go_simp
    try with_reducible rfl
  try simp only [Act.put, List.getElem_toArray, List.getElem_cons_succ, List.getElem_cons_zero, List.setIfInBounds_toArray, List.set_cons_zero, List.set_cons_succ]
  refine wpAnyH_take (i := 4) (v := ?_) rfl (by kernel_rfl) (by kernel_rfl) (by kernel_rfl) (fun _ _ _ h => h) (Or.inl ⟨by rfl, ?_⟩) (by assumption) ?_
  rotate_left
  · intro wy hSw
    have hS0 := hSw
    go_simp
    try with_reducible rfl
  try simp only [Act.put, List.getElem_toArray, List.getElem_cons_succ, List.getElem_cons_zero, List.setIfInBounds_toArray, List.set_cons_zero, List.set_cons_succ]
  refine wpAnyH_take (i := 5) (v := ?_) rfl (by kernel_rfl) (by kernel_rfl) (by kernel_rfl) (fun _ _ _ h => h) (Or.inl ⟨by rfl, ?_⟩) (by assumption) ?_
  rotate_left
  · intro wy hSw
    have hS0 := hSw
    go_simp
    try with_reducible rfl
  try simp only [Act.put, List.getElem_toArray, List.getElem_cons_succ, List.getElem_cons_zero, List.setIfInBounds_toArray, List.set_cons_zero, List.set_cons_succ]
  refine wpAnyH_take (i := 6) (v := ?_) rfl (by kernel_rfl) (by kernel_rfl) (by kernel_rfl) (fun _ _ _ h => h) (Or.inl ⟨by rfl, ?_⟩) (by assumption) ?_
  rotate_left
  · intro wy hSw
    have hS0 := hSw
    go_simp
    try with_reducible rfl
  try simp only [Act.put, List.getElem_toArray, List.getElem_cons_succ, List.getElem_cons_zero, List.setIfInBounds_toArray, List.set_cons_zero, List.set_cons_succ]
  refine wpAnyH_ready (rs := [7]) (by kernel_rfl) (by simp) ?_
  refine AllReadyH.cons rfl (fun K hK => ?_) AllReadyH.nil
  obtain ⟨p0, p1⟩ := (unhide HG).at hs
  rw [unhide EP] at p0
  rw [unhide EX, List.length_cons, unhide EN] at p1
  go_simp
  clear p0 p1
  refine hK.out _ _ hHeld (fun hHeld => ?_)
  clear hK K
  try simp only [Act.put, List.setIfInBounds_toArray, List.set_cons_zero, List.set_cons_succ]
  refine wpAnyH_ready (rs := [8]) (by kernel_rfl) (by simp) ?_
  refine AllReadyH.cons rfl (fun K hK => ?_) AllReadyH.nil
  go_simp
  have HQW := hide (withoutI_any g2 q n x wd (unhide HO) (by omega))
  unfold plV at HQW
  refine (unhide HQW).mono ?_
  rintro e w6 ⟨rfl, hb⟩
  replace HG := hide ((unhide HG).below hb)
  replace HB := hide ((unhide HB).step hb)
  replace HLQ := hide ((unhide HLQ).below hb)
  replace HW := hide (Below.step (unhide HW) hb)
  clear hb HQW
  refine hK.out _ _ ((unhide HB).cell (i := 1) rfl) (fun hHeld => ?_)
  clear hK K
  try simp only [Act.put, List.setIfInBounds_toArray, List.set_cons_zero, List.set_cons_succ]
  refine wpAnyH_take (i := 9) (v := ?_) rfl (by kernel_rfl) (by kernel_rfl) (by kernel_rfl) (fun _ _ _ h => h) (Or.inl ⟨by rfl, ?_⟩) (by assumption) ?_
  rotate_left
  · intro wy hSw
    have hS0 := hSw
    go_simp
    try with_reducible rfl
  try simp only [Act.put, List.getElem_toArray, List.getElem_cons_succ, List.getElem_cons_zero, List.setIfInBounds_toArray, List.set_cons_zero, List.set_cons_succ]
  refine wpAnyH_ready (rs := [10]) (by kernel_rfl) (by simp) ?_
  refine AllReadyH.cons rfl (fun K hK => ?_) AllReadyH.nil
  obtain ⟨p0, p1⟩ := (unhide HG).at hs
  rw [unhide EP] at p0
  rw [unhide EX, List.length_cons, unhide EN] at p1
  have fr0 := (unhide HG).top.frozen (s * 2)
  have fr1 := (unhide HG).top.frozen (s * 2 + 1)
  have HN := hide ((unhide HG).put hs (unhide HLQ))
  rw [unhide EN] at HN
  have HKS : Hid (Kept (fun b => b = g) w6 ((w6.setCell ⟨g, s * 2, none⟩ (.pointer q)).setCell ⟨g, s * 2 + 1, none⟩ (.int .i64 (n : Int)))) := ((Kept.refl (fun b => b = g) _).setCell (p := ⟨g, s * 2, none⟩) rfl _).setCell (p := ⟨g, s * 2 + 1, none⟩) rfl _
  have hWB : Below w.heap.size w w6 := unhide HW
  replace HB := hide ((unhide HB).kept (unhide HKS) (by omega))
  go_simp
  clear p0 p1 fr0 fr1
  refine hK.out _ _ ((unhide HB).cell (i := 1) rfl) (fun hHeld => ?_)
  clear hK K
  try simp only [Act.put, List.setIfInBounds_toArray, List.set_cons_zero, List.set_cons_succ]
  refine wpAnyH_done (by kernel_rfl) ?_ _
  go_wp2
  go_ret
  exact ⟨rfl, _, unhide HN, (kept_of_below hWB).trans (unhide HKS)⟩

set_option maxRecDepth 10000 in
set_option maxHeartbeats 3200000 in
theorem ownI_any (H : Int) (g cap : Nat) (Z : List (Option Addr × Nat)) (P : List (List Int)) (w : World) (h : Gnd w g Z P) (hc1 : P.length ≤ cap) (hc2 : cap ≤ 1048576) :
    Calls Try.prog 81 #[gndV H g P.length cap] w fun e w' => ∃ g', e = .returned (gndV H g' P.length P.length) ∧ w.heap.size ≤ g' ∧ Gnd w' g' Z P ∧ Below w.heap.size w w' := by
  have HG := hide h
  clear h
  unfold gndV
  go_enter Try.func81, Try.ntmps81
  go_upto_region 1 with (fail)
  obtain ⟨g0, eg0⟩ : ∃ z, z = w.heap.size := ⟨_, rfl⟩
  obtain ⟨W, eW⟩ : ∃ z, z = (w.alloc (.cells #[.int .i64 H, .slice (some ⟨g, 0, none⟩) P.length cap] 73)).alloc (.cells #[.int .i64 0, .slice none 0 0] 73) := ⟨_, rfl⟩
  have hb : Below w.heap.size w W := by rw [eW]; exact Below.step (Below.alloc1 _ _) (Below.alloc1 _ _)
  have HB : Hid (OwnV W g0 [.int .i64 H, .slice (some ⟨g, 0, none⟩) P.length cap]) := by rw [eW, eg0]; exact (ownV_alloc _ _ _).step (Below.alloc1 _ _)
  have HA : Hid (OwnV W (g0 + 1) [.int .i64 0, .slice none 0 0]) := by rw [eW, eg0]; exact own_new _ _ _ _ (by simp)
  rw [← eW, ← eg0]
  have hg0 : w.heap.size ≤ g0 := by omega
  clear eW eg0
  have HW := hide hb
  replace HG := hide ((unhide HG).below hb)
  clear hb
  obtain ⟨wd, ewd⟩ : ∃ z, z = W.drew := ⟨_, rfl⟩
  have hb : Below W.heap.size W wd := by rw [ewd]; exact (Below.refl _ _).drew
  replace HG := hide ((unhide HG).below hb)
  replace HB := hide ((unhide HB).step hb)
  replace HA := hide ((unhide HA).step hb)
  replace HW := hide (Below.step (unhide HW) hb)
  clear hb
  refine wp_region_held_drew (S := fun w' => w'.cell? ⟨g0, 0, none⟩ = some (.int .i64 H) ∧ w'.cell? ⟨g0, 1, none⟩ = some (.slice (some ⟨g, 0, none⟩) P.length cap)) (by kernel_rfl) ⟨by rw [← ewd]; exact (unhide HB).cell (i := 0) rfl, by rw [← ewd]; exact (unhide HB).cell (i := 1) rfl⟩ (fun hHeld => ?_)
  rw [← ewd] at hHeld ⊢
  clear ewd
  refine wpAnyH_take (i := 0) (v := ?_) rfl (by kernel_rfl) (by kernel_rfl) (by kernel_rfl) (fun _ _ _ h => h) (Or.inl ⟨by rfl, ?_⟩) (by assumption) ?_
  rotate_left
  · intro wy hSw
    obtain ⟨hS0, hS1⟩ := hSw
    go_simp
    try with_reducible rfl
  try simp only [Act.put, List.getElem_toArray, List.getElem_cons_zero, List.setIfInBounds_toArray, List.set_cons_zero, List.set_cons_succ]
  refine wpAnyH_take (i := 1) (v := ?_) rfl (by kernel_rfl) (by kernel_rfl) (by kernel_rfl) (fun _ _ _ h => h) (Or.inl ⟨by rfl, ?_⟩) (by assumption) ?_
  rotate_left
  · intro wy hSw
    obtain ⟨hS0, hS1⟩ := hSw
    go_simp
    try with_reducible rfl
  try simp only [Act.put, List.getElem_toArray, List.getElem_cons_succ, List.getElem_cons_zero, List.setIfInBounds_toArray, List.set_cons_zero, List.set_cons_succ]
  refine wpAnyH_take (i := 2) (v := ?_) rfl (by kernel_rfl) (by kernel_rfl) (by kernel_rfl) (fun _ _ _ h => h) (Or.inl ⟨by rfl, ?_⟩) (by assumption) ?_
  rotate_left
  · intro wy hSw
    obtain ⟨hS0, hS1⟩ := hSw
    go_simp
    try with_reducible rfl
  try simp only [Act.put, List.getElem_toArray, List.getElem_cons_succ, List.getElem_cons_zero, List.setIfInBounds_toArray, List.set_cons_zero, List.set_cons_succ]
  refine wpAnyH_take (i := 3) (v := ?_) rfl (by kernel_rfl) (by kernel_rfl) (by kernel_rfl) (fun _ _ _ h => h) (Or.inl ⟨by rfl, ?_⟩) (by assumption) ?_
  rotate_left
  · intro wy hSw
    obtain ⟨hS0, hS1⟩ := hSw
    go_simp
    try with_reducible rfl
  try simp only [Act.put, List.getElem_toArray, List.getElem_cons_succ, List.getElem_cons_zero, List.setIfInBounds_toArray, List.set_cons_zero, List.set_cons_succ]
  refine wpAnyH_ready (rs := [4]) (by kernel_rfl) (by simp) ?_
  refine AllReadyH.cons rfl (fun K hK => ?_) AllReadyH.nil
  go_simp
  have HCP := hide (ownCopyPileI_any (some ⟨g, 0, none⟩) P.length cap Z wd (by have hr := (Gnd.recs (unhide HG) hc1 (by unfold maxLen; omega)); exact hr) (by omega))
  refine (unhide HCP).mono ?_
  rintro e w6 ⟨rfl, ho6, hb⟩
  have hwl := (unhide HA).lt
  have hgn := hb.size
  replace HG := hide ((unhide HG).below hb)
  replace HB := hide ((unhide HB).step hb)
  replace HA := hide ((unhide HA).step hb)
  replace HW := hide (Below.step (unhide HW) hb)
  clear hb HCP
  obtain ⟨g6, eg6⟩ : ∃ z, z = wd.heap.size := ⟨_, rfl⟩
  rw [← eg6] at ho6 ⊢
  have hg6 : g0 + 1 < g6 := by omega
  have HN : Hid (Gnd w6 g6 Z P) := ⟨ho6, (unhide HG).len, (unhide HG).lnk, (unhide HG).hgt⟩
  clear ho6 eg6 hwl
  refine hK.out _ _ ⟨(unhide HB).cell (i := 0) rfl, (unhide HB).cell (i := 1) rfl⟩ (fun hHeld => ?_)
  clear hK K
  try simp only [Act.put, List.setIfInBounds_toArray, List.set_cons_zero, List.set_cons_succ]
  refine wpAnyH_take (i := 5) (v := ?_) rfl (by kernel_rfl) (by kernel_rfl) (by kernel_rfl) (fun _ _ _ h => h) (Or.inl ⟨by rfl, ?_⟩) (by assumption) ?_
  rotate_left
  · intro wy hSw
    obtain ⟨hS0, hS1⟩ := hSw
    go_simp
    try with_reducible rfl
  try simp only [Act.put, List.getElem_toArray, List.getElem_cons_succ, List.getElem_cons_zero, List.setIfInBounds_toArray, List.set_cons_zero, List.set_cons_succ]
  refine wpAnyH_ready (rs := [6]) (by kernel_rfl) (by simp) ?_
  refine AllReadyH.cons rfl (fun K hK => ?_) AllReadyH.nil
  have rf0 := (unhide HA).frozen 0
  have rf1 := (unhide HA).frozen 1
  have r0 := (unhide HA).cell (i := 0) rfl
  have r1 := (unhide HA).cell (i := 1) rfl
  have HT : Hid (∀ k, k = g0 + 1 → NoLink w6 k) := fun k e => e ▸ noLink_own (unhide HA) (fun q e => by cases e)
  have HA2 := hide (((unhide HA).set 0 (.int .i64 H) (by simp)).set 1 (.slice (some ⟨g6, 0, none⟩) P.length P.length) (by simp))
  have f0 := (unhide HA2).cell (i := 0) rfl
  have f1 := (unhide HA2).cell (i := 1) rfl
  have HKS : Hid (Kept (fun b => b = g0 + 1) w6 ((w6.setCell ⟨g0 + 1, 0, none⟩ (.int .i64 H)).setCell ⟨g0 + 1, 1, none⟩ (.slice (some ⟨g6, 0, none⟩) P.length P.length))) := ((Kept.refl (fun b => b = g0 + 1) _).setCell (p := ⟨g0 + 1, 0, none⟩) rfl _).setCell (p := ⟨g0 + 1, 1, none⟩) rfl _
  have hWB : Below w.heap.size w w6 := unhide HW
  replace HB := hide ((unhide HB).kept (unhide HKS) (by omega))
  go_simp
  refine hK.out _ _ ⟨(unhide HB).cell (i := 0) rfl, (unhide HB).cell (i := 1) rfl⟩ (fun hHeld => ?_)
  clear hK K
  try simp only [Act.put, List.setIfInBounds_toArray, List.set_cons_zero, List.set_cons_succ]
  refine wpAnyH_done (by kernel_rfl) ?_ _
  go_wp2_with fail
  refine bodyPost_ret (v := .agg #[.int .i64 H, .slice (some ⟨g6, 0, none⟩) P.length P.length]) (by simp [results, Try.results81, go_sem, f0, f1]) rfl ?_
  exact ⟨g6, rfl, by omega, (unhide HN).kept (unhide HKS) (by omega) (unhide HT), below_kept hWB (unhide HKS) hWB.size (fun b e => by omega)⟩

set_option maxHeartbeats 1600000 in
theorem withoutT_any (g : Nat) (q : Option Addr) (n : Nat) (x : Int) (w : World) (hl : OwnV w g [.int .i64 x, .pointer q]) (hn : n ≤ 1048576) :
    Calls Try.prog 116 #[plV (some ⟨g, 0, none⟩) (n + 1)] w fun e w' => e = .returned (plV q n) ∧ Below w.heap.size w w' := by
  unfold plV
  have hlt := hl.lt
  have hwr : IntKind.i64.wrap (n : Int) = n := by rw [IntKind.wrap_i64]; omega
  have HL := hide hl
  clear hl
  go_enter Try.func116, Try.ntmps116
  go_upto_region 1 with (fail)
  obtain ⟨g0, eg0⟩ : ∃ z, z = w.heap.size := ⟨_, rfl⟩
  obtain ⟨W, eW⟩ : ∃ z, z = (w.alloc (.cells #[.pointer (some ⟨g, 0, none⟩), .int .i64 ((n : Int) + 1)] 126)).alloc (.cells #[.pointer none, .int .i64 0] 126) := ⟨_, rfl⟩
  have hb : Below w.heap.size w W := by rw [eW]; exact Below.step (Below.alloc1 _ _) (Below.alloc1 _ _)
  have HB : Hid (OwnV W g0 [.pointer (some ⟨g, 0, none⟩), .int .i64 ((n : Int) + 1)]) := by rw [eW, eg0]; exact (ownV_alloc _ _ _).step (Below.alloc1 _ _)
  have HA : Hid (OwnV W (g0 + 1) [.pointer none, .int .i64 0]) := by rw [eW, eg0]; exact own_new _ _ _ _ (by simp)
  rw [← eW, ← eg0]
  have hg0 : w.heap.size ≤ g0 := by omega
  clear eW eg0
  have HW := hide hb
  replace HL := hide ((unhide HL).step hb)
  clear hb
  obtain ⟨wd, ewd⟩ : ∃ z, z = W.drew := ⟨_, rfl⟩
  have hb : Below W.heap.size W wd := by rw [ewd]; exact (Below.refl _ _).drew
  replace HL := hide ((unhide HL).step hb)
  replace HB := hide ((unhide HB).step hb)
  replace HA := hide ((unhide HA).step hb)
  replace HW := hide (Below.step (unhide HW) hb)
  clear hb
  refine wp_region_held_drew (S := fun w' => w'.cell? ⟨g0, 0, none⟩ = some (.pointer (some ⟨g, 0, none⟩)) ∧ w'.cell? ⟨g0, 1, none⟩ = some (.int .i64 ((n : Int) + 1)) ∧ w'.cell? ⟨g, 1, none⟩ = some (.pointer q)) (by kernel_rfl) ⟨by rw [← ewd]; exact (unhide HB).cell (i := 0) rfl, by rw [← ewd]; exact (unhide HB).cell (i := 1) rfl, by rw [← ewd]; exact (unhide HL).cell (i := 1) rfl⟩ (fun hHeld => ?_)
  rw [← ewd] at hHeld ⊢
  clear ewd
  refine wpAnyH_take (i := 0) (v := ?_) rfl (by kernel_rfl) (by kernel_rfl) (by kernel_rfl) (fun _ _ _ h => h) (Or.inl ⟨by rfl, ?_⟩) (by assumption) ?_
  rotate_left
  · intro wy hSw
    obtain ⟨hS0, hS1, hS2⟩ := hSw
    go_simp
    try with_reducible rfl
  try simp only [Act.put, List.getElem_toArray, List.getElem_cons_zero, List.setIfInBounds_toArray, List.set_cons_zero, List.set_cons_succ]
  refine wpAnyH_take (i := 1) (v := ?_) rfl (by kernel_rfl) (by kernel_rfl) (by kernel_rfl) (fun _ _ _ h => h) (Or.inl ⟨by rfl, ?_⟩) (by assumption) ?_
  rotate_left
  · intro wy hSw
    obtain ⟨hS0, hS1, hS2⟩ := hSw
    go_simp
    try with_reducible rfl
  try simp only [Act.put, List.getElem_toArray, List.getElem_cons_succ, List.getElem_cons_zero, List.setIfInBounds_toArray, List.set_cons_zero, List.set_cons_succ]
  refine wpAnyH_take (i := 2) (v := ?_) rfl (by kernel_rfl) (by kernel_rfl) (by kernel_rfl) (fun _ _ _ h => h) (Or.inl ⟨by rfl, ?_⟩) (by assumption) ?_
  rotate_left
  · intro wy hSw
    obtain ⟨hS0, hS1, hS2⟩ := hSw
    go_simp
    try with_reducible rfl
  try simp only [Act.put, List.getElem_toArray, List.getElem_cons_succ, List.getElem_cons_zero, List.setIfInBounds_toArray, List.set_cons_zero, List.set_cons_succ]
  refine wpAnyH_take (i := 3) (v := ?_) rfl (by kernel_rfl) (by kernel_rfl) (by kernel_rfl) (fun _ _ _ h => h) (Or.inl ⟨by rfl, ?_⟩) (by assumption) ?_
  rotate_left
  · intro wy hSw
    obtain ⟨hS0, hS1, hS2⟩ := hSw
    go_simp
    try with_reducible rfl
  try simp only [Act.put, List.getElem_toArray, List.getElem_cons_succ, List.getElem_cons_zero, List.setIfInBounds_toArray, List.set_cons_zero, List.set_cons_succ]
  refine wpAnyH_take (i := 4) (v := ?_) rfl (by kernel_rfl) (by kernel_rfl) (by kernel_rfl) (fun _ _ _ h => h) (Or.inl ⟨by rfl, ?_⟩) (by assumption) ?_
  rotate_left
  · intro wy hSw
    obtain ⟨hS0, hS1, hS2⟩ := hSw
    go_simp
    try with_reducible rfl
  try simp only [Act.put, List.getElem_toArray, List.getElem_cons_succ, List.getElem_cons_zero, List.setIfInBounds_toArray, List.set_cons_zero, List.set_cons_succ]
  refine wpAnyH_take (i := 5) (v := ?_) rfl (by kernel_rfl) (by kernel_rfl) (by kernel_rfl) (fun _ _ _ h => h) (Or.inl ⟨by rfl, ?_⟩) (by assumption) ?_
  rotate_left
  · intro wy hSw
    obtain ⟨hS0, hS1, hS2⟩ := hSw
    go_simp
    try with_reducible rfl
  try simp only [Act.put, List.getElem_toArray, List.getElem_cons_succ, List.getElem_cons_zero, List.setIfInBounds_toArray, List.set_cons_zero, List.set_cons_succ]
  refine wpAnyH_take (i := 6) (v := ?_) rfl (by kernel_rfl) (by kernel_rfl) (by kernel_rfl) (fun _ _ _ h => h) (Or.inl ⟨by rfl, ?_⟩) (by assumption) ?_
  rotate_left
  · intro wy hSw
    obtain ⟨hS0, hS1, hS2⟩ := hSw
    go_simp
    try with_reducible rfl
  try simp only [Act.put, List.getElem_toArray, List.getElem_cons_succ, List.getElem_cons_zero, List.setIfInBounds_toArray, List.set_cons_zero, List.set_cons_succ]
  refine wpAnyH_take (i := 7) (v := ?_) rfl (by kernel_rfl) (by kernel_rfl) (by kernel_rfl) (fun _ _ _ h => h) (Or.inl ⟨by rfl, ?_⟩) (by assumption) ?_
  rotate_left
  · intro wy hSw
    obtain ⟨hS0, hS1, hS2⟩ := hSw
    go_simp
    try with_reducible rfl
  try simp only [Act.put, List.getElem_toArray, List.getElem_cons_succ, List.getElem_cons_zero, List.setIfInBounds_toArray, List.set_cons_zero, List.set_cons_succ]
  refine wpAnyH_take (i := 8) (v := ?_) rfl (by kernel_rfl) (by kernel_rfl) (by kernel_rfl) (fun _ _ _ h => h) (Or.inl ⟨by rfl, ?_⟩) (by assumption) ?_
  rotate_left
  · intro wy hSw
    obtain ⟨hS0, hS1, hS2⟩ := hSw
    go_simp
    try with_reducible rfl
  try simp only [Act.put, List.getElem_toArray, List.getElem_cons_succ, List.getElem_cons_zero, List.setIfInBounds_toArray, List.set_cons_zero, List.set_cons_succ]
  refine wpAnyH_ready (rs := [9]) (by kernel_rfl) (by simp) ?_
  refine AllReadyH.cons rfl (fun K hK => ?_) AllReadyH.nil
  have rf0 := (unhide HA).frozen 0
  have rf1 := (unhide HA).frozen 1
  have r0 := (unhide HA).cell (i := 0) rfl
  have r1 := (unhide HA).cell (i := 1) rfl
  have HA2 := hide (((unhide HA).set 0 (.pointer q) (by simp)).set 1 (.int .i64 (n : Int)) (by simp))
  have f0 := (unhide HA2).cell (i := 0) rfl
  have f1 := (unhide HA2).cell (i := 1) rfl
  have hne : ¬ g = g0 + 1 := by omega
  have HKS : Hid (Kept (fun b => b = g0 + 1) wd ((wd.setCell ⟨g0 + 1, 0, none⟩ (.pointer q)).setCell ⟨g0 + 1, 1, none⟩ (.int .i64 (n : Int)))) := ((Kept.refl (fun b => b = g0 + 1) _).setCell (p := ⟨g0 + 1, 0, none⟩) rfl _).setCell (p := ⟨g0 + 1, 1, none⟩) rfl _
  have hWB : Below w.heap.size w wd := unhide HW
  replace HB := hide ((unhide HB).kept (unhide HKS) (by omega))
  replace HL := hide ((unhide HL).kept (unhide HKS) (by omega))
  go_simp
  refine hK.out _ _ ⟨(unhide HB).cell (i := 0) rfl, (unhide HB).cell (i := 1) rfl, (unhide HL).cell (i := 1) rfl⟩ (fun hHeld => ?_)
  clear hK K
  try simp only [Act.put, List.setIfInBounds_toArray, List.set_cons_zero, List.set_cons_succ]
  refine wpAnyH_done (by kernel_rfl) ?_ _
  go_wp2_with fail
  refine bodyPost_ret (v := .agg #[.pointer q, .int .i64 (n : Int)]) (by simp [results, Try.results116, go_sem, f0, f1]) rfl ?_
  exact ⟨rfl, below_kept hWB (unhide HKS) hWB.size (fun b e => by omega)⟩

set_option maxHeartbeats 1600000 in
theorem ownCopyPileT_any (ar : Option Addr) (m cr : Nat) (Z : List (Option Addr × Nat)) (w : World) (h : RecsIn 2 ePl w (.slice ar m cr) Z) (hm : m ≤ 1048576) :
    Calls Try.prog 99 #[.slice ar m cr] w fun e w' => e = .returned (.slice (some ⟨w.heap.size, 0, none⟩) m m) ∧ OwnV w' w.heap.size (recCells 2 ePl Z) ∧ Below w.heap.size w w' := by
  have hlen : Z.length = m := by
    obtain ⟨ao', cap', e, _⟩ := h
    simp only [Value.slice.injEq] at e
    exact e.2.1.symm
  have hmk := run_make_recs (P := Try.prog) 88 126 _ 2 16 Try.underlying88 Try.infoPileT .i64 .i64 m (by omega) (by omega)
  rw [show (Value.agg #[.pointer none, .int .i64 0]).cells = #[.pointer none, .int .i64 0] from rfl] at hmk
  obtain ⟨Q, eQ⟩ : ∃ Q : Array Value, Q = #[.pointer none, .int .i64 0] := ⟨_, rfl⟩
  rw [← eQ] at hmk
  have hsz : (Try.prog.info? 126).map (·.size) = some 2 := by
    obtain ⟨i0, hi, hzz⟩ := Option.map_eq_some_iff.1 Try.infoPileT
    simp only [Prod.mk.injEq] at hzz
    rw [hi, Option.map_some, hzz.2.1]
  have HSRC := hide (recs_src h)
  have HCS : Hid ((recCells 2 ePl Z).length = m * 2) := by show _ = _; rw [recCells_length, hlen]
  have H1 : Hid (∀ v ∈ recCells 2 ePl Z, v.oneCell' = true) := fun v hv => by
    unfold recCells at hv
    obtain ⟨k, _, rfl⟩ := List.mem_map.1 hv
    unfold ePl
    split <;> rfl
  have A := Below.alloc1 w (.cells (madeCells Q (m * 2)) 126)
  have HW := hide A
  have O := ownV_alloc w (madeCells Q (m * 2)) 126
  have HO := hide O
  have hzl : (madeCells Q (m * 2)).toList.length = m * 2 := by simp [madeCells]
  have HZL := hide hzl
  have HSRC2 : Hid (0 < m → ∃ ad, ar = some ad ∧ ∀ j v, (recCells 2 ePl Z)[j]? = some v → (w.alloc (.cells (madeCells Q (m * 2)) 126)).cell? (ad.add j) = some v) := fun hp => by
    obtain ⟨ad, e, hx⟩ := unhide HSRC hp
    exact ⟨ad, e, fun j v hj => ((A.cell (lt_of_cell (hx j v hj))).trans (hx j v hj))⟩
  obtain ⟨w1, hrun, hO1, hb1⟩ := run_copy_all 88 88 126 2 Try.underlying88 hsz w.heap.size m m ar cr _ _ (unhide HO) (by rw [unhide HZL, unhide HCS]) (unhide HCS) (unhide HSRC2) (unhide H1) w.heap.size w (unhide HW) (Nat.le_refl _)
  have HO1 := hide hO1
  have HW1 := hide hb1
  clear h eQ A O hzl HSRC hsz HO HW HSRC2 H1 HCS HZL hO1 hb1 hlen
  go_enter Try.func99, Try.ntmps99
  go_wp2
  go_ret
  exact ⟨rfl, unhide HO1, unhide HW1⟩

set_option maxHeartbeats 1600000 in
theorem isEmptyT_any (H : Int) (g cap : Nat) (Z : List (Option Addr × Nat)) (P : List (List Int)) (s : Nat) (w : World) (h : Gnd w g Z P) (hs : s < P.length) (_ : P.length ≤ cap) (_ : cap ≤ 1048576) :
    Calls Try.prog 95 #[gndV H g P.length cap, .int .i64 (s : Int)] w fun e w' => e = .returned (.bool (emB P s)) ∧ Below w.heap.size w w' := by
  obtain ⟨n, en⟩ : ∃ n, (P.getD s []).length = n := ⟨_, rfl⟩
  unfold emB
  rw [en]
  have EN := hide en
  clear en
  have hsi : (s : Int) < (P.length : Int) := by omega
  cases n with
  | zero =>
    rw [show decide (0 = 0) = true from rfl]
    have HG := hide h
    clear h
    unfold gndV
    go_enter Try.func95, Try.ntmps95
    go_upto_region 1 with (fail)
    obtain ⟨g0, eg0⟩ : ∃ z, z = w.heap.size := ⟨_, rfl⟩
    have hgl : g < g0 := by rw [eg0]; exact (unhide HG).top.lt
    obtain ⟨W, eW⟩ : ∃ z, z = w.alloc (.cells #[.int .i64 H, .slice (some ⟨g, 0, none⟩) P.length cap] 90) := ⟨_, rfl⟩
    have hb : Below w.heap.size w W := by rw [eW]; exact Below.alloc1 _ _
    have HB : Hid (OwnV W g0 [.int .i64 H, .slice (some ⟨g, 0, none⟩) P.length cap]) := by rw [eW, eg0]; exact ownV_alloc _ _ _
    rw [← eW, ← eg0]
    have hg0 : w.heap.size ≤ g0 := by omega
    clear eW eg0
    have HW := hide hb
    replace HG := hide ((unhide HG).below hb)
    clear hb
    obtain ⟨p0, p1⟩ := (unhide HG).at hs
    rw [unhide EN] at p1
    have b1 := (unhide HB).cell (i := 1) rfl
    go_wp2
    go_ret
    exact ⟨rfl, unhide HW⟩
  | succ n =>
    have e0 : decide (n + 1 = 0) = false := rfl
    rw [e0]
    have HG := hide h
    clear h
    unfold gndV
    go_enter Try.func95, Try.ntmps95
    go_upto_region 1 with (fail)
    obtain ⟨g0, eg0⟩ : ∃ z, z = w.heap.size := ⟨_, rfl⟩
    have hgl : g < g0 := by rw [eg0]; exact (unhide HG).top.lt
    obtain ⟨W, eW⟩ : ∃ z, z = w.alloc (.cells #[.int .i64 H, .slice (some ⟨g, 0, none⟩) P.length cap] 90) := ⟨_, rfl⟩
    have hb : Below w.heap.size w W := by rw [eW]; exact Below.alloc1 _ _
    have HB : Hid (OwnV W g0 [.int .i64 H, .slice (some ⟨g, 0, none⟩) P.length cap]) := by rw [eW, eg0]; exact ownV_alloc _ _ _
    rw [← eW, ← eg0]
    have hg0 : w.heap.size ≤ g0 := by omega
    clear eW eg0
    have HW := hide hb
    replace HG := hide ((unhide HG).below hb)
    clear hb
    obtain ⟨p0, p1⟩ := (unhide HG).at hs
    rw [unhide EN] at p1
    have b1 := (unhide HB).cell (i := 1) rfl
    have e1 : ((((n + 1 : Nat) : Int)) == 0) = false := by simp; omega
    go_wp2
    go_ret
    exact ⟨by simp; try omega, unhide HW⟩

set_option maxHeartbeats 1600000 in
theorem isFullT_any (H : Int) (g cap : Nat) (Z : List (Option Addr × Nat)) (P : List (List Int)) (s : Nat) (w : World) (h : Gnd w g Z P) (hs : s < P.length) (_ : P.length ≤ cap) (_ : cap ≤ 1048576) :
    Calls Try.prog 96 #[gndV H g P.length cap, .int .i64 (s : Int)] w fun e w' => e = .returned (.bool (fuB H P s)) ∧ Below w.heap.size w w' := by
  obtain ⟨n, en⟩ : ∃ n, (P.getD s []).length = n := ⟨_, rfl⟩
  unfold fuB
  rw [en]
  have EN := hide en
  clear en
  have hsi : (s : Int) < (P.length : Int) := by omega
  by_cases hf : H ≤ (n : Int)
  · have e0 : decide (H ≤ (n : Int)) = true := by simpa using hf
    rw [e0]
    have HG := hide h
    clear h
    unfold gndV
    go_enter Try.func96, Try.ntmps96
    go_upto_region 1 with (fail)
    obtain ⟨g0, eg0⟩ : ∃ z, z = w.heap.size := ⟨_, rfl⟩
    have hgl : g < g0 := by rw [eg0]; exact (unhide HG).top.lt
    obtain ⟨W, eW⟩ : ∃ z, z = w.alloc (.cells #[.int .i64 H, .slice (some ⟨g, 0, none⟩) P.length cap] 90) := ⟨_, rfl⟩
    have hb : Below w.heap.size w W := by rw [eW]; exact Below.alloc1 _ _
    have HB : Hid (OwnV W g0 [.int .i64 H, .slice (some ⟨g, 0, none⟩) P.length cap]) := by rw [eW, eg0]; exact ownV_alloc _ _ _
    rw [← eW, ← eg0]
    have hg0 : w.heap.size ≤ g0 := by omega
    clear eW eg0
    have HW := hide hb
    replace HG := hide ((unhide HG).below hb)
    clear hb
    have HP1 : Hid (W.cell? ⟨g, s * 2 + 1, none⟩ = some (.int .i64 (n : Int))) := by rw [← unhide EN]; exact ((unhide HG).at hs).2
    have gt0 := fun x' : Gr W => gr_cell ((unhide HB).cell (i := 0) rfl) x'
    have gt1 := fun x' : Gr W => gr_cell ((unhide HB).cell (i := 1) rfl) x'
    have gt2 := fun x' : Gr W => gr_cell (unhide HP1) x'
    have gsome := gr_some W
    refine wp_region_grown (by kernel_rfl) (by kernel_rfl) ?_
    repeat (go_big_quiet_step (fail))
    refine wpQuiet_nil ?_
    intro wz hw1
    obtain ⟨z', hz⟩ := hw1
    have hb : Below W.heap.size W wz := hz ▸ z'.ok
    clear hz z' gsome gt0 gt1 gt2
    replace HW := hide (Below.step (unhide HW) hb)
    clear hb
    go_wp2
    go_ret
    exact ⟨rfl, unhide HW⟩
  · have e0 : decide (H ≤ (n : Int)) = false := by simpa using hf
    rw [e0]
    have HG := hide h
    clear h
    unfold gndV
    go_enter Try.func96, Try.ntmps96
    go_upto_region 1 with (fail)
    obtain ⟨g0, eg0⟩ : ∃ z, z = w.heap.size := ⟨_, rfl⟩
    have hgl : g < g0 := by rw [eg0]; exact (unhide HG).top.lt
    obtain ⟨W, eW⟩ : ∃ z, z = w.alloc (.cells #[.int .i64 H, .slice (some ⟨g, 0, none⟩) P.length cap] 90) := ⟨_, rfl⟩
    have hb : Below w.heap.size w W := by rw [eW]; exact Below.alloc1 _ _
    have HB : Hid (OwnV W g0 [.int .i64 H, .slice (some ⟨g, 0, none⟩) P.length cap]) := by rw [eW, eg0]; exact ownV_alloc _ _ _
    rw [← eW, ← eg0]
    have hg0 : w.heap.size ≤ g0 := by omega
    clear eW eg0
    have HW := hide hb
    replace HG := hide ((unhide HG).below hb)
    clear hb
    have HP1 : Hid (W.cell? ⟨g, s * 2 + 1, none⟩ = some (.int .i64 (n : Int))) := by rw [← unhide EN]; exact ((unhide HG).at hs).2
    have gt0 := fun x' : Gr W => gr_cell ((unhide HB).cell (i := 0) rfl) x'
    have gt1 := fun x' : Gr W => gr_cell ((unhide HB).cell (i := 1) rfl) x'
    have gt2 := fun x' : Gr W => gr_cell (unhide HP1) x'
    have gsome := gr_some W
    refine wp_region_grown (by kernel_rfl) (by kernel_rfl) ?_
    repeat (go_big_quiet_step (fail))
    refine wpQuiet_nil ?_
    intro wz hw1
    obtain ⟨z', hz⟩ := hw1
    have hb : Below W.heap.size W wz := hz ▸ z'.ok
    clear hz z' gsome gt0 gt1 gt2
    replace HW := hide (Below.step (unhide HW) hb)
    clear hb
    go_wp2
    go_ret
    exact ⟨rfl, unhide HW⟩

set_option maxRecDepth 10000 in
set_option maxHeartbeats 3200000 in
theorem putT_any (H : Int) (g cap : Nat) (Z : List (Option Addr × Nat)) (P : List (List Int)) (x : Int) (s : Nat) (w : World) (h : Gnd w g Z P) (hs : s < P.length) (_ : P.length ≤ cap) (_ : cap ≤ 1048576) (hh : (P.getD s []).length ≤ 1048576) :
    Calls Try.prog 97 #[gndV H g P.length cap, .int .i64 x, .int .i64 (s : Int)] w fun e w' => e = .returned (.tuple #[]) ∧ ∃ Z', Gnd w' g Z' (P.set s (x :: P.getD s [])) ∧ Kept (fun b => b = g) w w' := by
  obtain ⟨row, erow⟩ : ∃ row, P.getD s [] = row := ⟨_, rfl⟩
  rw [erow] at hh ⊢
  have ER := hide erow
  clear erow
  have HG := hide h
  clear h
  unfold gndV
  go_enter Try.func97, Try.ntmps97
  go_upto_region 1 with (fail)
  obtain ⟨g0, eg0⟩ : ∃ z, z = w.heap.size := ⟨_, rfl⟩
  have hgl : g < g0 := by rw [eg0]; exact (unhide HG).top.lt
  obtain ⟨W, eW⟩ : ∃ z, z = w.alloc (.cells #[.int .i64 H, .slice (some ⟨g, 0, none⟩) P.length cap] 90) := ⟨_, rfl⟩
  have hb : Below w.heap.size w W := by rw [eW]; exact Below.alloc1 _ _
  have HB : Hid (OwnV W g0 [.int .i64 H, .slice (some ⟨g, 0, none⟩) P.length cap]) := by rw [eW, eg0]; exact ownV_alloc _ _ _
  rw [← eW, ← eg0]
  have hg0 : w.heap.size ≤ g0 := by omega
  clear eW eg0
  have HW := hide hb
  replace HG := hide ((unhide HG).below hb)
  clear hb
  obtain ⟨n, en⟩ : ∃ n, row.length = n := ⟨_, rfl⟩
  rw [en] at hh
  have EN := hide en
  clear en
  obtain ⟨p, ep⟩ : ∃ p, (Z.getD s default).1 = p := ⟨_, rfl⟩
  have EP := hide ep
  clear ep
  have hsi : (s : Int) < (P.length : Int) := by omega
  obtain ⟨wd, ewd⟩ : ∃ z, z = W.drew := ⟨_, rfl⟩
  have hb : Below W.heap.size W wd := by rw [ewd]; exact (Below.refl _ _).drew
  replace HG := hide ((unhide HG).below hb)
  replace HB := hide ((unhide HB).step hb)
  replace HW := hide (Below.step (unhide HW) hb)
  clear hb
  refine wp_region_held_drew (S := fun w' => w'.cell? ⟨g0, 1, none⟩ = some (.slice (some ⟨g, 0, none⟩) P.length cap)) (by kernel_rfl) (by rw [← ewd]; exact ((unhide HB).cell (i := 1) rfl)) (fun hHeld => ?_)
  rw [← ewd] at hHeld ⊢
  clear ewd
  refine wpAnyH_take (i := 0) (v := ?_) rfl (by kernel_rfl) (by kernel_rfl) (by kernel_rfl) (fun _ _ _ h => h) (Or.inl ⟨by rfl, ?_⟩) (by assumption) ?_
  rotate_left
  · intro wy hSw
    have hS0 := hSw
    go_simp
    try with_reducible rfl
  try simp only [Act.put, List.getElem_toArray, List.getElem_cons_zero, List.setIfInBounds_toArray, List.set_cons_zero, List.set_cons_succ]
  refine wpAnyH_take (i := 1) (v := ?_) rfl (by kernel_rfl) (by kernel_rfl) (by kernel_rfl) (fun _ _ _ h => h) (Or.inl ⟨by rfl, ?_⟩) (by assumption) ?_
  rotate_left
  · intro wy hSw
    have hS0 := hSw
    go_simp
    try with_reducible rfl
  try simp only [Act.put, List.getElem_toArray, List.getElem_cons_succ, List.getElem_cons_zero, List.setIfInBounds_toArray, List.set_cons_zero, List.set_cons_succ]
  refine wpAnyH_take (i := 2) (v := ?_) rfl (by kernel_rfl) (by kernel_rfl) (by kernel_rfl) (fun _ _ _ h => h) (Or.inl ⟨by rfl, ?_⟩) (by assumption) ?_
  rotate_left
  · intro wy hSw
    have hS0 := hSw
    go_simp
    try with_reducible rfl
  try simp only [Act.put, List.getElem_toArray, List.getElem_cons_succ, List.getElem_cons_zero, List.setIfInBounds_toArray, List.set_cons_zero, List.set_cons_succ]
  refine wpAnyH_take (i := 3) (v := ?_) rfl (by kernel_rfl) (by kernel_rfl) (by kernel_rfl) (fun _ _ _ h => h) (Or.inl ⟨by rfl, ?_⟩) (by assumption) ?_
  rotate_left
  · intro wy hSw
    have hS0 := hSw
    go_simp
    try with_reducible rfl
  try simp only [Act.put, List.getElem_toArray, List.getElem_cons_succ, List.getElem_cons_zero, List.setIfInBounds_toArray, List.set_cons_zero, List.set_cons_succ]
  refine wpAnyH_take (i := 4) (v := ?_) rfl (by kernel_rfl) (by kernel_rfl) (by kernel_rfl) (fun _ _ _ h => h) (Or.inl ⟨by rfl, ?_⟩) (by assumption) ?_
  rotate_left
  · intro wy hSw
    have hS0 := hSw
    go_simp
    try with_reducible rfl
  try simp only [Act.put, List.getElem_toArray, List.getElem_cons_succ, List.getElem_cons_zero, List.setIfInBounds_toArray, List.set_cons_zero, List.set_cons_succ]
  refine wpAnyH_take (i := 5) (v := ?_) rfl (by kernel_rfl) (by kernel_rfl) (by kernel_rfl) (fun _ _ _ h => h) (Or.inl ⟨by rfl, ?_⟩) (by assumption) ?_
  rotate_left
  · intro wy hSw
    have hS0 := hSw
    go_simp
    try with_reducible rfl
  try simp only [Act.put, List.getElem_toArray, List.getElem_cons_succ, List.getElem_cons_zero, List.setIfInBounds_toArray, List.set_cons_zero, List.set_cons_succ]
  refine wpAnyH_take (i := 6) (v := ?_) rfl (by kernel_rfl) (by kernel_rfl) (by kernel_rfl) (fun _ _ _ h => h) (Or.inl ⟨by rfl, ?_⟩) (by assumption) ?_
  rotate_left
  · intro wy hSw
    have hS0 := hSw
    go_simp
    try with_reducible rfl
  try simp only [Act.put, List.getElem_toArray, List.getElem_cons_succ, List.getElem_cons_zero, List.setIfInBounds_toArray, List.set_cons_zero, List.set_cons_succ]
  refine wpAnyH_take (i := 8) (v := ?_) rfl (by kernel_rfl) (by kernel_rfl) (by kernel_rfl) (fun _ _ _ h => h) (Or.inl ⟨by rfl, ?_⟩) (by assumption) ?_
  rotate_left
  · intro wy hSw
    have hS0 := hSw
    go_simp
    try with_reducible rfl
  try simp only [Act.put, List.getElem_toArray, List.getElem_cons_succ, List.getElem_cons_zero, List.setIfInBounds_toArray, List.set_cons_zero, List.set_cons_succ]
  refine wpAnyH_ready (rs := [7]) (by kernel_rfl) (by simp) ?_
  refine AllReadyH.cons rfl (fun K hK => ?_) AllReadyH.nil
  obtain ⟨p0, p1⟩ := (unhide HG).at hs
  rw [unhide EP] at p0
  rw [unhide ER, unhide EN] at p1
  go_simp
  clear p0 p1
  refine hK.out _ _ hHeld (fun hHeld => ?_)
  clear hK K
  try simp only [Act.put, List.setIfInBounds_toArray, List.set_cons_zero, List.set_cons_succ]
  refine wpAnyH_ready (rs := [9]) (by kernel_rfl) (by simp) ?_
  refine AllReadyH.cons rfl (fun K hK => ?_) AllReadyH.nil
  go_simp
  refine (withT_any p n x _ (by omega)).mono ?_
  rintro e w6 ⟨g5, rfl, ho5, hg5, hb⟩
  replace HG := hide ((unhide HG).below hb)
  replace HB := hide ((unhide HB).step hb)
  replace HW := hide (Below.step (unhide HW) hb)
  clear hb
  have HL5 : Hid (Lnk w6 (x :: row) (some ⟨g5, 0, none⟩)) := ⟨g5, p, rfl, ho5, by have h1 := (unhide HG).lnk s hs; rw [unhide ER, unhide EP] at h1; exact h1⟩
  clear ho5
  refine hK.out _ _ ((unhide HB).cell (i := 1) rfl) (fun hHeld => ?_)
  clear hK K
  try simp only [Act.put, List.setIfInBounds_toArray, List.set_cons_zero, List.set_cons_succ]
  refine wpAnyH_take (i := 10) (v := ?_) rfl (by kernel_rfl) (by kernel_rfl) (by kernel_rfl) (fun _ _ _ h => h) (Or.inl ⟨by rfl, ?_⟩) (by assumption) ?_
  rotate_left
  · intro wy hSw
    have hS0 := hSw
    go_simp
    try with_reducible rfl
  try simp only [Act.put, List.getElem_toArray, List.getElem_cons_succ, List.getElem_cons_zero, List.setIfInBounds_toArray, List.set_cons_zero, List.set_cons_succ]
  refine wpAnyH_ready (rs := [11]) (by kernel_rfl) (by simp) ?_
  refine AllReadyH.cons rfl (fun K hK => ?_) AllReadyH.nil
  obtain ⟨p0, p1⟩ := (unhide HG).at hs
  rw [unhide EP] at p0
  rw [unhide ER, unhide EN] at p1
  have fr0 := (unhide HG).top.frozen (s * 2)
  have fr1 := (unhide HG).top.frozen (s * 2 + 1)
  have HN := hide ((unhide HG).put hs (unhide HL5))
  have e5 : (x :: row).length = n + 1 := by rw [List.length_cons, unhide EN]
  rw [e5] at HN
  have HKS : Hid (Kept (fun b => b = g) w6 ((w6.setCell ⟨g, s * 2, none⟩ (.pointer (some ⟨g5, 0, none⟩))).setCell ⟨g, s * 2 + 1, none⟩ (.int .i64 ((n + 1 : Nat) : Int)))) := ((Kept.refl (fun b => b = g) _).setCell (p := ⟨g, s * 2, none⟩) rfl _).setCell (p := ⟨g, s * 2 + 1, none⟩) rfl _
  have hWB : Below w.heap.size w w6 := unhide HW
  replace HB := hide ((unhide HB).kept (unhide HKS) (by omega))
  go_simp
  clear p0 p1 fr0 fr1
  refine hK.out _ _ ((unhide HB).cell (i := 1) rfl) (fun hHeld => ?_)
  clear hK K
  try simp only [Act.put, List.setIfInBounds_toArray, List.set_cons_zero, List.set_cons_succ]
  refine wpAnyH_done (by kernel_rfl) ?_ _
  go_wp2_with fail
  go_end0
  exact ⟨rfl, _, unhide HN, (kept_of_below hWB).trans (unhide HKS)⟩

set_option maxRecDepth 10000 in
set_option maxHeartbeats 3200000 in
theorem liftT_any (H : Int) (g cap : Nat) (Z : List (Option Addr × Nat)) (P : List (List Int)) (x : Int) (xs : List Int) (s : Nat) (w : World) (h : Gnd w g Z P) (hs : s < P.length) (_ : P.length ≤ cap) (_ : cap ≤ 1048576) (hx : P.getD s [] = x :: xs) (hh : xs.length ≤ 1048576) :
    Calls Try.prog 98 #[gndV H g P.length cap, .int .i64 (s : Int)] w fun e w' => e = .returned (.int .i64 x) ∧ ∃ Z', Gnd w' g Z' (P.set s xs) ∧ Kept (fun b => b = g) w w' := by
  have HG := hide h
  clear h
  unfold gndV
  go_enter Try.func98, Try.ntmps98
  go_upto_region 1 with (fail)
  obtain ⟨g0, eg0⟩ : ∃ z, z = w.heap.size := ⟨_, rfl⟩
  have hgl : g < g0 := by rw [eg0]; exact (unhide HG).top.lt
  obtain ⟨W, eW⟩ : ∃ z, z = w.alloc (.cells #[.int .i64 H, .slice (some ⟨g, 0, none⟩) P.length cap] 90) := ⟨_, rfl⟩
  have hb : Below w.heap.size w W := by rw [eW]; exact Below.alloc1 _ _
  have HB : Hid (OwnV W g0 [.int .i64 H, .slice (some ⟨g, 0, none⟩) P.length cap]) := by rw [eW, eg0]; exact ownV_alloc _ _ _
  rw [← eW, ← eg0]
  have hg0 : w.heap.size ≤ g0 := by omega
  clear eW eg0
  have HW := hide hb
  replace HG := hide ((unhide HG).below hb)
  clear hb
  have EX := hide hx
  clear hx
  obtain ⟨n, en⟩ : ∃ n, xs.length = n := ⟨_, rfl⟩
  rw [en] at hh
  have EN := hide en
  clear en
  obtain ⟨p, ep⟩ : ∃ p, (Z.getD s default).1 = p := ⟨_, rfl⟩
  have EP := hide ep
  clear ep
  have hL := (unhide HG).lnk s hs
  rw [unhide EP, unhide EX] at hL
  obtain ⟨g2, q, e2, ho, hl⟩ := hL
  subst e2
  have HO := hide ho
  have HLQ := hide hl
  clear ho hl
  have hsi : (s : Int) < (P.length : Int) := by omega
  obtain ⟨p0, p1⟩ := (unhide HG).at hs
  rw [unhide EP] at p0
  rw [unhide EX, List.length_cons, unhide EN] at p1
  have x0 := (unhide HO).cell (i := 0) rfl
  have b1 := (unhide HB).cell (i := 1) rfl
  go_upto_region 2 with (fail)
  clear p0 p1 x0 b1
  obtain ⟨wd, ewd⟩ : ∃ z, z = W.drew := ⟨_, rfl⟩
  have hb : Below W.heap.size W wd := by rw [ewd]; exact (Below.refl _ _).drew
  replace HG := hide ((unhide HG).below hb)
  replace HB := hide ((unhide HB).step hb)
  replace HO := hide ((unhide HO).step hb)
  replace HLQ := hide ((unhide HLQ).below hb)
  replace HW := hide (Below.step (unhide HW) hb)
  clear hb
  refine wp_region_held_drew (S := fun w' => w'.cell? ⟨g0, 1, none⟩ = some (.slice (some ⟨g, 0, none⟩) P.length cap)) (by kernel_rfl) (by rw [← ewd]; exact ((unhide HB).cell (i := 1) rfl)) (fun hHeld => ?_)
  rw [← ewd] at hHeld ⊢
  clear ewd
  refine wpAnyH_take (i := 0) (v := ?_) rfl (by kernel_rfl) (by kernel_rfl) (by kernel_rfl) (fun _ _ _ h => h) (Or.inl ⟨by rfl, ?_⟩) (by assumption) ?_
  rotate_left
  · intro wy hSw
    have hS0 := hSw
    go_simp
    try with_reducible rfl
  try simp only [Act.put, List.getElem_toArray, List.getElem_cons_zero, List.setIfInBounds_toArray, List.set_cons_zero, List.set_cons_succ]
  refine wpAnyH_take (i := 1) (v := ?_) rfl (by kernel_rfl) (by kernel_rfl) (by kernel_rfl) (fun _ _ _ h => h) (Or.inl ⟨by rfl, ?_⟩) (by assumption) ?_
  rotate_left
  · intro wy hSw
    have hS0 := hSw
    go_simp
    try with_reducible rfl
  try simp only [Act.put, List.getElem_toArray, List.getElem_cons_succ, List.getElem_cons_zero, List.setIfInBounds_toArray, List.set_cons_zero, List.set_cons_succ]
  refine wpAnyH_take (i := 2) (v := ?_) rfl (by kernel_rfl) (by kernel_rfl) (by kernel_rfl) (fun _ _ _ h => h) (Or.inl ⟨by rfl, ?_⟩) (by assumption) ?_
  rotate_left
  · intro wy hSw
    have hS0 := hSw
    go_simp
    try with_reducible rfl
  try simp only [Act.put, List.getElem_toArray, List.getElem_cons_succ, List.getElem_cons_zero, List.setIfInBounds_toArray, List.set_cons_zero, List.set_cons_succ]
  refine wpAnyH_take (i := 3) (v := ?_) rfl (by kernel_rfl) (by kernel_rfl) (by kernel_rfl) (fun _ _ _ h => h) (Or.inl ⟨by rfl, ?_⟩) (by assumption) ?_
  rotate_left
  · intro wy hSw
    have hS0 := hSw
    go_simp
    try with_reducible rfl
  try simp only [Act.put, List.getElem_toArray, List.getElem_cons_succ, List.getElem_cons_zero, List.setIfInBounds_toArray, List.set_cons_zero, List.set_cons_succ]
  refine wpAnyH_take (i := 4) (v := ?_) rfl (by kernel_rfl) (by kernel_rfl) (by kernel_rfl) (fun _ _ _ h => h) (Or.inl ⟨by rfl, ?_⟩) (by assumption) ?_
  rotate_left
  · intro wy hSw
    have hS0 := hSw
    go_simp
    try with_reducible rfl
  try simp only [Act.put, List.getElem_toArray, List.getElem_cons_succ, List.getElem_cons_zero, List.setIfInBounds_toArray, List.set_cons_zero, List.set_cons_succ]
  refine wpAnyH_take (i := 5) (v := ?_) rfl (by kernel_rfl) (by kernel_rfl) (by kernel_rfl) (fun _ _ _ h => h) (Or.inl ⟨by rfl, ?_⟩) (by assumption) ?_
  rotate_left
  · intro wy hSw
    have hS0 := hSw
    go_simp
    try with_reducible rfl
  try simp only [Act.put, List.getElem_toArray, List.getElem_cons_succ, List.getElem_cons_zero, List.setIfInBounds_toArray, List.set_cons_zero, List.set_cons_succ]
  refine wpAnyH_take (i := 6) (v := ?_) rfl (by kernel_rfl) (by kernel_rfl) (by kernel_rfl) (fun _ _ _ h => h) (Or.inl ⟨by rfl, ?_⟩) (by assumption) ?_
  rotate_left
  · intro wy hSw
    have hS0 := hSw
    go_simp
    try with_reducible rfl
  try simp only [Act.put, List.getElem_toArray, List.getElem_cons_succ, List.getElem_cons_zero, List.setIfInBounds_toArray, List.set_cons_zero, List.set_cons_succ]
  refine wpAnyH_ready (rs := [7]) (by kernel_rfl) (by simp) ?_
  refine AllReadyH.cons rfl (fun K hK => ?_) AllReadyH.nil
  obtain ⟨p0, p1⟩ := (unhide HG).at hs
  rw [unhide EP] at p0
  rw [unhide EX, List.length_cons, unhide EN] at p1
  go_simp
  clear p0 p1
  refine hK.out _ _ hHeld (fun hHeld => ?_)
  clear hK K
  try simp only [Act.put, List.setIfInBounds_toArray, List.set_cons_zero, List.set_cons_succ]
  refine wpAnyH_ready (rs := [8]) (by kernel_rfl) (by simp) ?_
  refine AllReadyH.cons rfl (fun K hK => ?_) AllReadyH.nil
  go_simp
  have HQW := hide (withoutT_any g2 q n x wd (unhide HO) (by omega))
  unfold plV at HQW
  refine (unhide HQW).mono ?_
  rintro e w6 ⟨rfl, hb⟩
  replace HG := hide ((unhide HG).below hb)
  replace HB := hide ((unhide HB).step hb)
  replace HLQ := hide ((unhide HLQ).below hb)
  replace HW := hide (Below.step (unhide HW) hb)
  clear hb HQW
  refine hK.out _ _ ((unhide HB).cell (i := 1) rfl) (fun hHeld => ?_)
  clear hK K
  try simp only [Act.put, List.setIfInBounds_toArray, List.set_cons_zero, List.set_cons_succ]
  refine wpAnyH_take (i := 9) (v := ?_) rfl (by kernel_rfl) (by kernel_rfl) (by kernel_rfl) (fun _ _ _ h => h) (Or.inl ⟨by rfl, ?_⟩) (by assumption) ?_
  rotate_left
  · intro wy hSw
    have hS0 := hSw
    go_simp
    try with_reducible rfl
  try simp only [Act.put, List.getElem_toArray, List.getElem_cons_succ, List.getElem_cons_zero, List.setIfInBounds_toArray, List.set_cons_zero, List.set_cons_succ]
  refine wpAnyH_ready (rs := [10]) (by kernel_rfl) (by simp) ?_
  refine AllReadyH.cons rfl (fun K hK => ?_) AllReadyH.nil
  obtain ⟨p0, p1⟩ := (unhide HG).at hs
  rw [unhide EP] at p0
  rw [unhide EX, List.length_cons, unhide EN] at p1
  have fr0 := (unhide HG).top.frozen (s * 2)
  have fr1 := (unhide HG).top.frozen (s * 2 + 1)
  have HN := hide ((unhide HG).put hs (unhide HLQ))
  rw [unhide EN] at HN
  have HKS : Hid (Kept (fun b => b = g) w6 ((w6.setCell ⟨g, s * 2, none⟩ (.pointer q)).setCell ⟨g, s * 2 + 1, none⟩ (.int .i64 (n : Int)))) := ((Kept.refl (fun b => b = g) _).setCell (p := ⟨g, s * 2, none⟩) rfl _).setCell (p := ⟨g, s * 2 + 1, none⟩) rfl _
  have hWB : Below w.heap.size w w6 := unhide HW
  replace HB := hide ((unhide HB).kept (unhide HKS) (by omega))
  go_simp
  clear p0 p1 fr0 fr1
  refine hK.out _ _ ((unhide HB).cell (i := 1) rfl) (fun hHeld => ?_)
  clear hK K
  try simp only [Act.put, List.setIfInBounds_toArray, List.set_cons_zero, List.set_cons_succ]
  refine wpAnyH_done (by kernel_rfl) ?_ _
  go_wp2
  go_ret
  exact ⟨rfl, _, unhide HN, (kept_of_below hWB).trans (unhide HKS)⟩

set_option maxRecDepth 10000 in
set_option maxHeartbeats 3200000 in
theorem ownT_any (H : Int) (g cap : Nat) (Z : List (Option Addr × Nat)) (P : List (List Int)) (w : World) (h : Gnd w g Z P) (hc1 : P.length ≤ cap) (hc2 : cap ≤ 1048576) :
    Calls Try.prog 63 #[gndV H g P.length cap] w fun e w' => ∃ g', e = .returned (gndV H g' P.length P.length) ∧ w.heap.size ≤ g' ∧ Gnd w' g' Z P ∧ Below w.heap.size w w' := by
  have HG := hide h
  clear h
  unfold gndV
  go_enter Try.func63, Try.ntmps63
  go_upto_region 1 with (fail)
  obtain ⟨g0, eg0⟩ : ∃ z, z = w.heap.size := ⟨_, rfl⟩
  obtain ⟨W, eW⟩ : ∃ z, z = (w.alloc (.cells #[.int .i64 H, .slice (some ⟨g, 0, none⟩) P.length cap] 90)).alloc (.cells #[.int .i64 0, .slice none 0 0] 90) := ⟨_, rfl⟩
  have hb : Below w.heap.size w W := by rw [eW]; exact Below.step (Below.alloc1 _ _) (Below.alloc1 _ _)
  have HB : Hid (OwnV W g0 [.int .i64 H, .slice (some ⟨g, 0, none⟩) P.length cap]) := by rw [eW, eg0]; exact (ownV_alloc _ _ _).step (Below.alloc1 _ _)
  have HA : Hid (OwnV W (g0 + 1) [.int .i64 0, .slice none 0 0]) := by rw [eW, eg0]; exact own_new _ _ _ _ (by simp)
  rw [← eW, ← eg0]
  have hg0 : w.heap.size ≤ g0 := by omega
  clear eW eg0
  have HW := hide hb
  replace HG := hide ((unhide HG).below hb)
  clear hb
  obtain ⟨wd, ewd⟩ : ∃ z, z = W.drew := ⟨_, rfl⟩
  have hb : Below W.heap.size W wd := by rw [ewd]; exact (Below.refl _ _).drew
  replace HG := hide ((unhide HG).below hb)
  replace HB := hide ((unhide HB).step hb)
  replace HA := hide ((unhide HA).step hb)
  replace HW := hide (Below.step (unhide HW) hb)
  clear hb
  refine wp_region_held_drew (S := fun w' => w'.cell? ⟨g0, 0, none⟩ = some (.int .i64 H) ∧ w'.cell? ⟨g0, 1, none⟩ = some (.slice (some ⟨g, 0, none⟩) P.length cap)) (by kernel_rfl) ⟨by rw [← ewd]; exact (unhide HB).cell (i := 0) rfl, by rw [← ewd]; exact (unhide HB).cell (i := 1) rfl⟩ (fun hHeld => ?_)
  rw [← ewd] at hHeld ⊢
  clear ewd
  refine wpAnyH_take (i := 0) (v := ?_) rfl (by kernel_rfl) (by kernel_rfl) (by kernel_rfl) (fun _ _ _ h => h) (Or.inl ⟨by rfl, ?_⟩) (by assumption) ?_
  rotate_left
  · intro wy hSw
    obtain ⟨hS0, hS1⟩ := hSw
    go_simp
    try with_reducible rfl
  try simp only [Act.put, List.getElem_toArray, List.getElem_cons_zero, List.setIfInBounds_toArray, List.set_cons_zero, List.set_cons_succ]
  refine wpAnyH_take (i := 1) (v := ?_) rfl (by kernel_rfl) (by kernel_rfl) (by kernel_rfl) (fun _ _ _ h => h) (Or.inl ⟨by rfl, ?_⟩) (by assumption) ?_
  rotate_left
  · intro wy hSw
    obtain ⟨hS0, hS1⟩ := hSw
    go_simp
    try with_reducible rfl
  try simp only [Act.put, List.getElem_toArray, List.getElem_cons_succ, List.getElem_cons_zero, List.setIfInBounds_toArray, List.set_cons_zero, List.set_cons_succ]
  refine wpAnyH_take (i := 2) (v := ?_) rfl (by kernel_rfl) (by kernel_rfl) (by kernel_rfl) (fun _ _ _ h => h) (Or.inl ⟨by rfl, ?_⟩) (by assumption) ?_
  rotate_left
  · intro wy hSw
    obtain ⟨hS0, hS1⟩ := hSw
    go_simp
    try with_reducible rfl
  try simp only [Act.put, List.getElem_toArray, List.getElem_cons_succ, List.getElem_cons_zero, List.setIfInBounds_toArray, List.set_cons_zero, List.set_cons_succ]
  refine wpAnyH_take (i := 3) (v := ?_) rfl (by kernel_rfl) (by kernel_rfl) (by kernel_rfl) (fun _ _ _ h => h) (Or.inl ⟨by rfl, ?_⟩) (by assumption) ?_
  rotate_left
  · intro wy hSw
    obtain ⟨hS0, hS1⟩ := hSw
    go_simp
    try with_reducible rfl
  try simp only [Act.put, List.getElem_toArray, List.getElem_cons_succ, List.getElem_cons_zero, List.setIfInBounds_toArray, List.set_cons_zero, List.set_cons_succ]
  refine wpAnyH_ready (rs := [4]) (by kernel_rfl) (by simp) ?_
  refine AllReadyH.cons rfl (fun K hK => ?_) AllReadyH.nil
  go_simp
  have HCP := hide (ownCopyPileT_any (some ⟨g, 0, none⟩) P.length cap Z wd (by have hr := (Gnd.recs (unhide HG) hc1 (by unfold maxLen; omega)); exact hr) (by omega))
  refine (unhide HCP).mono ?_
  rintro e w6 ⟨rfl, ho6, hb⟩
  have hwl := (unhide HA).lt
  have hgn := hb.size
  replace HG := hide ((unhide HG).below hb)
  replace HB := hide ((unhide HB).step hb)
  replace HA := hide ((unhide HA).step hb)
  replace HW := hide (Below.step (unhide HW) hb)
  clear hb HCP
  obtain ⟨g6, eg6⟩ : ∃ z, z = wd.heap.size := ⟨_, rfl⟩
  rw [← eg6] at ho6 ⊢
  have hg6 : g0 + 1 < g6 := by omega
  have HN : Hid (Gnd w6 g6 Z P) := ⟨ho6, (unhide HG).len, (unhide HG).lnk, (unhide HG).hgt⟩
  clear ho6 eg6 hwl
  refine hK.out _ _ ⟨(unhide HB).cell (i := 0) rfl, (unhide HB).cell (i := 1) rfl⟩ (fun hHeld => ?_)
  clear hK K
  try simp only [Act.put, List.setIfInBounds_toArray, List.set_cons_zero, List.set_cons_succ]
  refine wpAnyH_take (i := 5) (v := ?_) rfl (by kernel_rfl) (by kernel_rfl) (by kernel_rfl) (fun _ _ _ h => h) (Or.inl ⟨by rfl, ?_⟩) (by assumption) ?_
  rotate_left
  · intro wy hSw
    obtain ⟨hS0, hS1⟩ := hSw
    go_simp
    try with_reducible rfl
  try simp only [Act.put, List.getElem_toArray, List.getElem_cons_succ, List.getElem_cons_zero, List.setIfInBounds_toArray, List.set_cons_zero, List.set_cons_succ]
  refine wpAnyH_ready (rs := [6]) (by kernel_rfl) (by simp) ?_
  refine AllReadyH.cons rfl (fun K hK => ?_) AllReadyH.nil
  have rf0 := (unhide HA).frozen 0
  have rf1 := (unhide HA).frozen 1
  have r0 := (unhide HA).cell (i := 0) rfl
  have r1 := (unhide HA).cell (i := 1) rfl
  have HT : Hid (∀ k, k = g0 + 1 → NoLink w6 k) := fun k e => e ▸ noLink_own (unhide HA) (fun q e => by cases e)
  have HA2 := hide (((unhide HA).set 0 (.int .i64 H) (by simp)).set 1 (.slice (some ⟨g6, 0, none⟩) P.length P.length) (by simp))
  have f0 := (unhide HA2).cell (i := 0) rfl
  have f1 := (unhide HA2).cell (i := 1) rfl
  have HKS : Hid (Kept (fun b => b = g0 + 1) w6 ((w6.setCell ⟨g0 + 1, 0, none⟩ (.int .i64 H)).setCell ⟨g0 + 1, 1, none⟩ (.slice (some ⟨g6, 0, none⟩) P.length P.length))) := ((Kept.refl (fun b => b = g0 + 1) _).setCell (p := ⟨g0 + 1, 0, none⟩) rfl _).setCell (p := ⟨g0 + 1, 1, none⟩) rfl _
  have hWB : Below w.heap.size w w6 := unhide HW
  replace HB := hide ((unhide HB).kept (unhide HKS) (by omega))
  go_simp
  refine hK.out _ _ ⟨(unhide HB).cell (i := 0) rfl, (unhide HB).cell (i := 1) rfl⟩ (fun hHeld => ?_)
  clear hK K
  try simp only [Act.put, List.setIfInBounds_toArray, List.set_cons_zero, List.set_cons_succ]
  refine wpAnyH_done (by kernel_rfl) ?_ _
  go_wp2_with fail
  refine bodyPost_ret (v := .agg #[.int .i64 H, .slice (some ⟨g6, 0, none⟩) P.length P.length]) (by simp [results, Try.results63, go_sem, f0, f1]) rfl ?_
  exact ⟨g6, rfl, by omega, (unhide HN).kept (unhide HKS) (by omega) (unhide HT), below_kept hWB (unhide HKS) hWB.size (fun b e => by omega)⟩

end Go.Proofs.Ytjllilmiloippaa

namespace Go.Proofs.Ytjllilmiloippaa
open Go.RowKit

set_option maxRecDepth 10000 in
set_option maxHeartbeats 3200000 in
theorem turnGround_any (H : Int) (v : Value) (R : List (List Int)) (ov : Value) (O : List Int) (w : World) (h : RowsIn w v R) (hO : IntsIn w ov O) (hy : YOk H R) :
    Calls Try.prog 60 #[yardV H v, ov] w fun e w' => ∃ g Z, e = .returned (gndV H g R.length R.length) ∧ w.heap.size ≤ g ∧ Gnd w' g Z (pilF (trn O) R) ∧ Below w.heap.size w w' := by
  have HV := hide h
  have HVO := hide hO
  have HY := hide hy
  obtain ⟨oo, ocap, rfl, -⟩ := hO
  clear h hy
  obtain ⟨P, eP⟩ : ∃ P, P = pilF (trn O) R := ⟨_, rfl⟩
  have EP := hide eP
  rw [← eP]
  clear eP
  unfold yardV gndV
  go_enter Try.func60, Try.ntmps60
  go_upto_region 1 with (fail)
  obtain ⟨g0, eg0⟩ : ∃ z, z = w.heap.size := ⟨_, rfl⟩
  obtain ⟨W, eW⟩ : ∃ z, z = ((w.alloc (.cells #[.int .i64 H, v] 26)).alloc (.cells #[.slice oo O.length ocap] 30)).alloc (.cells #[.int .i64 0, .slice none 0 0] 90) := ⟨_, rfl⟩
  have HW : Hid (Below w.heap.size w W) := by rw [eW]; exact Below.step (Below.step (Below.alloc1 _ _) (Below.alloc1 _ _)) (Below.alloc1 _ _)
  have HB : Hid (OwnV W g0 [.int .i64 H, v]) := by rw [eW, eg0]; exact ((ownV_alloc _ _ _).step (Below.alloc1 _ _)).step (Below.alloc1 _ _)
  have HB2 : Hid (OwnV W (g0 + 1) [.slice oo O.length ocap]) := by rw [eW, eg0]; exact (own_new _ _ _ _ (by simp)).step (Below.alloc1 _ _)
  have HA : Hid (OwnV W (g0 + 1 + 1) [.int .i64 0, .slice none 0 0]) := by rw [eW, eg0]; exact own_new _ _ _ _ (by simp)
  rw [← eW, ← eg0]
  have hg0 : w.heap.size ≤ g0 := by omega
  clear eW eg0
  have HQ := hide (groundOfT_any H v R (g0 + 1) (.slice oo O.length ocap) O W ((unhide HV).below (unhide HW)) (unhide HY) ((unhide HB2).cell (i := 0) rfl) ((unhide HVO).below (unhide HW)))
  rw [← unhide EP] at HQ
  unfold yardV gndV at HQ
  have b0 := (unhide HB).cell (i := 0) rfl
  have b1 := (unhide HB).cell (i := 1) rfl
  go_wp2_with fail
  refine (unhide HQ).mono ?_
  rintro e w9 ⟨gp, Z, rfl, hgp, hG, hb⟩
  have HG := hide hG
  have hal := (unhide HA).lt
  replace HA := hide ((unhide HA).step hb)
  replace HW := hide (Below.step (unhide HW) hb)
  clear b0 b1 hG HQ
  have HKS : Hid (Kept (fun b => b = g0 + 1 + 1) w9 ((w9.setCell ⟨g0 + 1 + 1, 0, none⟩ (.int .i64 H)).setCell ⟨g0 + 1 + 1, 1, none⟩ (.slice (some ⟨gp, 0, none⟩) R.length R.length))) := ((Kept.refl (fun b => b = g0 + 1 + 1) _).setCell (p := ⟨g0 + 1 + 1, 0, none⟩) rfl _).setCell (p := ⟨g0 + 1 + 1, 1, none⟩) rfl _
  have rf0 := (unhide HA).frozen 0
  have rf1 := (unhide HA).frozen 1
  have r0 := (unhide HA).cell (i := 0) rfl
  have r1 := (unhide HA).cell (i := 1) rfl
  have f0 := (((unhide HA).set 0 (.int .i64 H) (by simp)).set 1 (.slice (some ⟨gp, 0, none⟩) R.length R.length) (by simp)).cell (i := 0) rfl
  have f1 := (((unhide HA).set 0 (.int .i64 H) (by simp)).set 1 (.slice (some ⟨gp, 0, none⟩) R.length R.length) (by simp)).cell (i := 1) rfl
  have HT : Hid (∀ k, k = g0 + 1 + 1 → NoLink w9 k) := fun k e => e ▸ noLink_own (unhide HA) (fun q e => by cases e)
  have hWB : Below w.heap.size w w9 := unhide HW
  go_wp2
  refine bodyPost_ret (v := .agg #[.int .i64 H, .slice (some ⟨gp, 0, none⟩) R.length R.length]) (by simp [results, Try.results60, go_sem, f0, f1]) rfl ?_
  exact ⟨gp, Z, rfl, by omega, (unhide HG).kept (unhide HKS) (by omega) (unhide HT), below_kept hWB (unhide HKS) hWB.size (fun b e => by omega)⟩

set_option maxRecDepth 10000 in
set_option maxHeartbeats 3200000 in
theorem boxGround_any (H : Int) (v : Value) (R : List (List Int)) (w : World) (h : RowsIn w v R) (hy : YOk H R) :
    Calls Try.prog 48 #[yardV H v] w fun e w' => ∃ g Z, e = .returned (gndV H g R.length R.length) ∧ w.heap.size ≤ g ∧ Gnd w' g Z (pilF idF R) ∧ Below w.heap.size w w' := by
  have HV := hide h
  have HY := hide hy
  clear h hy
  obtain ⟨P, eP⟩ : ∃ P, P = pilF idF R := ⟨_, rfl⟩
  have EP := hide eP
  rw [← eP]
  clear eP
  unfold yardV gndV
  go_enter Try.func48, Try.ntmps48
  go_upto_region 1 with (fail)
  obtain ⟨g0, eg0⟩ : ∃ z, z = w.heap.size := ⟨_, rfl⟩
  obtain ⟨W, eW⟩ : ∃ z, z = (w.alloc (.cells #[.int .i64 H, v] 26)).alloc (.cells #[.int .i64 0, .slice none 0 0] 73) := ⟨_, rfl⟩
  have HW : Hid (Below w.heap.size w W) := by rw [eW]; exact Below.step (Below.alloc1 _ _) (Below.alloc1 _ _)
  have HB : Hid (OwnV W g0 [.int .i64 H, v]) := by rw [eW, eg0]; exact (ownV_alloc _ _ _).step (Below.alloc1 _ _)
  have HA : Hid (OwnV W (g0 + 1) [.int .i64 0, .slice none 0 0]) := by rw [eW, eg0]; exact own_new _ _ _ _ (by simp)
  rw [← eW, ← eg0]
  have hg0 : w.heap.size ≤ g0 := by omega
  clear eW eg0
  have HQ := hide (groundOfI_any H v R W ((unhide HV).below (unhide HW)) (unhide HY))
  rw [← unhide EP] at HQ
  unfold yardV gndV at HQ
  have b0 := (unhide HB).cell (i := 0) rfl
  have b1 := (unhide HB).cell (i := 1) rfl
  go_wp2_with fail
  refine (unhide HQ).mono ?_
  rintro e w9 ⟨gp, Z, rfl, hgp, hG, hb⟩
  have HG := hide hG
  have hal := (unhide HA).lt
  replace HA := hide ((unhide HA).step hb)
  replace HW := hide (Below.step (unhide HW) hb)
  clear b0 b1 hG HQ
  have HKS : Hid (Kept (fun b => b = g0 + 1) w9 ((w9.setCell ⟨g0 + 1, 0, none⟩ (.int .i64 H)).setCell ⟨g0 + 1, 1, none⟩ (.slice (some ⟨gp, 0, none⟩) R.length R.length))) := ((Kept.refl (fun b => b = g0 + 1) _).setCell (p := ⟨g0 + 1, 0, none⟩) rfl _).setCell (p := ⟨g0 + 1, 1, none⟩) rfl _
  have rf0 := (unhide HA).frozen 0
  have rf1 := (unhide HA).frozen 1
  have r0 := (unhide HA).cell (i := 0) rfl
  have r1 := (unhide HA).cell (i := 1) rfl
  have f0 := (((unhide HA).set 0 (.int .i64 H) (by simp)).set 1 (.slice (some ⟨gp, 0, none⟩) R.length R.length) (by simp)).cell (i := 0) rfl
  have f1 := (((unhide HA).set 0 (.int .i64 H) (by simp)).set 1 (.slice (some ⟨gp, 0, none⟩) R.length R.length) (by simp)).cell (i := 1) rfl
  have HT : Hid (∀ k, k = g0 + 1 → NoLink w9 k) := fun k e => e ▸ noLink_own (unhide HA) (fun q e => by cases e)
  have hWB : Below w.heap.size w w9 := unhide HW
  go_wp2
  refine bodyPost_ret (v := .agg #[.int .i64 H, .slice (some ⟨gp, 0, none⟩) R.length R.length]) (by simp [results, Try.results48, go_sem, f0, f1]) rfl ?_
  exact ⟨gp, Z, rfl, by omega, (unhide HG).kept (unhide HKS) (by omega) (unhide HT), below_kept hWB (unhide HKS) hWB.size (fun b e => by omega)⟩

theorem pilF_turns (O : List Int) (R : List (List Int)) : pilF (trn O) R = pilesOf O R := rfl

set_option maxRecDepth 10000 in
set_option maxHeartbeats 8000000 in
theorem implBlocking_a (H : Int) (v : Value) (R : List (List Int)) (ov : Value) (O : List Int) (w : World) (h : RowsIn w v R) (hO : IntsIn w ov O) :
    Calls Try.prog 21 #[yardV H v, ov] w fun e w' => e = .returned (blkA H R O) ∧ Below w.heap.size w w' := by
  obtain ⟨A, eA⟩ : ∃ A, A = blkA H R O := ⟨_, rfl⟩
  rw [← eA]
  have EA := hide eA
  clear eA
  have HVO := hide hO
  obtain ⟨oo, ocap, rfl, hol, hom, -⟩ := hO
  unfold maxLen at hom
  have HV := hide h
  obtain ⟨ao, cap, rfl, hc1, hc2⟩ := rows_cap h
  clear h
  have HB := hide (ownV_alloc w #[.int .i64 H, .slice ao R.length cap] 26)
  have HW := hide (Below.alloc1 w (.cells #[.int .i64 H, .slice ao R.length cap] 26))
  obtain ⟨g, eg⟩ : ∃ g, g = w.heap.size := ⟨_, rfl⟩
  have HYK := hide fun W (hb : Below w.heap.size w W) => implYardOk_any H (.slice ao R.length cap) R W ((unhide HV).below hb)
  have HYT : Hid (yardB H R = true → YOk H R) := fun h => of_decide_eq_true h
  have HYF : Hid (yardB H R = false → ¬ YOk H R) := fun h => of_decide_eq_false h
  generalize yardB H R = r at HYK HYT HYF
  unfold yardV at HYK ⊢
  go_enter Try.func21, Try.ntmps21
  go_upto_region 1 with (fail)
  obtain ⟨W0, eW⟩ : ∃ z, z = w.alloc (.cells #[.int .i64 H, .slice ao R.length cap] 26) := ⟨_, rfl⟩
  rw [← eW] at HB HW ⊢
  rw [← eg] at HB ⊢
  clear eW eg
  have b0 := (unhide HB).cell (i := 0) rfl
  have b1 := (unhide HB).cell (i := 1) rfl
  go_wp2_with fail
  refine (unhide HYK _ (unhide HW)).mono ?_
  rintro e w9 ⟨rfl, hb⟩
  replace HW := hide (Below.step (unhide HW) hb)
  replace HB := hide ((unhide HB).step hb)
  clear hb b0 b1 HYK
  have b0 := (unhide HB).cell (i := 0) rfl
  have b1 := (unhide HB).cell (i := 1) rfl
  cases r with
  | false =>
    have HEV := hide ((unhide EA).trans (blkA_bad fun h => unhide HYF (by first | rfl | trivial) h.1))
    go_wp2
    go_ret2
    exact ⟨by rw [unhide HEV]; rfl, unhide HW⟩
  | true =>
  have hy := unhide HYT (by first | rfl | trivial)
  have HY := hide hy
  clear hy HYT HYF
  by_cases h72 : O.length ≤ 72
  · have HTW := hide fun W (hb : Below w.heap.size w W) => hasTwice_any oo O.length ocap O W ((unhide HVO).below hb) (by omega)
    have HNT : Hid ((!decide O.Nodup) = true → ¬ O.Nodup) := fun h hn => by simp [hn] at h
    have HNF : Hid ((!decide O.Nodup) = false → O.Nodup) := fun h => by simpa using h
    generalize (!decide O.Nodup) = q at HTW HNT HNF
    cases q with
    | true =>
      have HEV := hide ((unhide EA).trans (blkA_bad fun h => unhide HNT (by first | rfl | trivial) h.2.2))
      go_wp2_with fail
      refine (unhide HTW _ (unhide HW)).mono ?_
      rintro e w8 ⟨rfl, hb⟩
      replace HW := hide (Below.step (unhide HW) hb)
      clear hb b0 b1
      go_wp2
      go_ret2
      exact ⟨by rw [unhide HEV]; rfl, unhide HW⟩
    | false =>
      have HEV := hide ((unhide EA).trans (blkA_ok ⟨unhide HY, h72, unhide HNF (by first | rfl | trivial)⟩))
      go_wp2_with fail
      refine (unhide HTW _ (unhide HW)).mono ?_
      rintro e w8 ⟨rfl, hb⟩
      replace HW := hide (Below.step (unhide HW) hb)
      replace HB := hide ((unhide HB).step hb)
      clear hb b0 b1
      have b0 := (unhide HB).cell (i := 0) rfl
      have b1 := (unhide HB).cell (i := 1) rfl
      have HQ := hide (turnGround_any H (.slice ao R.length cap) R (.slice oo O.length ocap) O w8 ((unhide HV).below (unhide HW)) ((unhide HVO).below (unhide HW)) (unhide HY))
      unfold yardV gndV at HQ
      go_wp2_with fail
      refine (unhide HQ).mono ?_
      rintro e w7 ⟨gp, Z, rfl, hgp, hG, hb⟩
      replace HW := hide (Below.step (unhide HW) hb)
      have HL : Hid (∀ s, s < (pilF (trn O) R).length → ((pilF (trn O) R).getD s []).length ≤ 6) := fun s hs => by
        rw [pilF_len] at hs
        rw [pilF_get _ hs, pil_len]
        have h1 := (unhide HY).low s hs
        have h2 := (unhide HY).h2
        omega
      have HBK := hide (blockers_any H gp R.length Z (pilF (trn O) R) w7 hG (by rw [pilF_len]; exact (unhide HY).n2) (by rw [pilF_len]; exact Nat.le_refl _) (by unfold maxLen; omega) (unhide HL))
      rw [pilF_len, pilF_turns] at HBK
      unfold gndV at HBK
      generalize blkP (pilesOf O R) = bb at HBK HEV
      clear hb hG b0 b1 HQ
      go_wp2_with fail
      refine (unhide HBK).mono ?_
      rintro e w6 ⟨rfl, hb⟩
      replace HW := hide (Below.step (unhide HW) hb)
      clear hb
      go_wp2
      go_ret2
      exact ⟨by rw [unhide HEV]; rfl, unhide HW⟩
  · have HEV := hide ((unhide EA).trans (blkA_bad fun h => h72 h.2.1))
    have h72i : (72 : Int) < (O.length : Int) := by omega
    go_wp2
    go_ret2
    exact ⟨by rw [unhide HEV]; rfl, unhide HW⟩

theorem specBlocking_any (H : Int) (v : Value) (R : List (List Int)) (ov : Value) (O : List Int) (w : World) (h : RowsIn w v R) (hO : IntsIn w ov O) :
    Calls Try.prog 39 #[yardV H v, ov] w fun e w' => e = .returned (.tuple #[.int .i64 (blkV H R O).1, .bool (blkV H R O).2]) ∧ Below w.heap.size w w' := specBlocking_a H v R ov O w h hO
theorem implBlocking_any (H : Int) (v : Value) (R : List (List Int)) (ov : Value) (O : List Int) (w : World) (h : RowsIn w v R) (hO : IntsIn w ov O) :
    Calls Try.prog 21 #[yardV H v, ov] w fun e w' => e = .returned (.tuple #[.int .i64 (blkV H R O).1, .bool (blkV H R O).2]) ∧ Below w.heap.size w w' := implBlocking_a H v R ov O w h hO

end Go.Proofs.Ytjllilmiloippaa

namespace Go.Proofs.Ytjllilmiloippaa

section
variable {f : Int → Int} {R : List (List Int)}
theorem pil_id (r : List Int) : pil idF r = r.reverse := by
  have : idF = id := rfl
  rw [pil, this, List.map_id]
theorem pilF_set (i : Nat) (r : List Int) : pilF f (R.set i r) = (pilF f R).set i (pil f r) := by simp [pilF, List.map_set]
theorem pil_snoc (r : List Int) (x : Int) : pil f (r ++ [x]) = f x :: pil f r := by simp [pil]
theorem pil_top {r : List Int} (h : 0 < r.length) : pil f r = f (r.getLastD 0) :: pil f r.dropLast := by
  rw [← pil_snoc, last_split h]
theorem pilF_row {s : Nat} (h : s < R.length) : ((pilF f R).getD s []).length = (R.getD s []).length := by rw [pilF_get f h, pil_len]
theorem pilF_lens (s : Nat) : ((pilF f R).getD s []).length = (R.getD s []).length := by
  by_cases h : s < R.length
  · exact pilF_row h
  · rw [List.getD, List.getD, List.getElem?_eq_none (by rw [pilF_len]; omega), List.getElem?_eq_none (by omega)]
/-- A box is put on. -/
theorem put_pil {b : Nat} (hb : b < R.length) (x : Int) : (pilF f R).set b (f x :: (pilF f R).getD b []) = pilF f (R.set b (R.getD b [] ++ [x])) := by
  rw [pilF_set, pil_snoc, pilF_get f hb]
/-- The topmost box is lifted. -/
theorem lift_pil {a : Nat} (xs : List Int) (x : Int) (ha : a < R.length) (h : (pilF f R).getD a [] = x :: xs) : 0 < (R.getD a []).length ∧ x = f ((R.getD a []).getLastD 0) ∧ (pilF f R).set a xs = pilF f (R.set a (R.getD a []).dropLast) := by
  rw [pilF_get f ha] at h
  have hl : 0 < (R.getD a []).length := by
    have := congrArg List.length h
    rw [pil_len, List.length_cons] at this
    omega
  rw [pil_top hl] at h
  simp only [List.cons.injEq] at h
  exact ⟨hl, h.1.symm, by rw [pilF_set, h.2]⟩
theorem shift_two {a b : Nat} (hab : a ≠ b) : (R.set a (R.getD a []).dropLast).set b ((R.set a (R.getD a []).dropLast).getD b [] ++ [(R.getD a []).getLastD 0]) = shiftY R a b := by
  rw [rowset_ne (fun e => hab e.symm)]
  unfold shiftY
  exact List.set_comm _ _ hab
end

theorem low_congr {H : Int} {R P : List (List Int)} {s : Int} (h : ∀ i : Nat, (i : Int) ≠ s → (P.getD i []).length = (R.getD i []).length) : ∀ k, lowY H P s k = lowY H R s k
  | 0 => rfl
  | k + 1 => by
    simp only [lowY]
    rw [low_congr h k]
    by_cases hk : (k : Int) = s
    · simp [hk]
    · rw [h k hk]
      rcases lowY_bd H R s k with e | ⟨h1, h2, h3, _⟩
      · simp [e]
      · rw [h (lowY H R s k).toNat (by omega)]

/-- Where a box stands in piles. -/
def pwP : List (List Int) → Int → Option Nat
  | [], _ => none
  | p :: P, x => if x ∈ p then some 0 else (pwP P x).map (· + 1)
def pwV (P : List (List Int)) (x : Int) : Int := match pwP P x with | some s => (s : Int) | none => -1
theorem pwP_none : ∀ {P : List (List Int)} {x : Int}, (∀ s, s < P.length → x ∉ P.getD s []) → pwP P x = none
  | [], _, _ => rfl
  | p :: P, x, h => by
    have h0 := h 0 (by simp)
    rw [List.getD_cons_zero] at h0
    have hr := pwP_none (P := P) (x := x) (fun s hs => by
      have := h (s + 1) (by simp; omega)
      rwa [List.getD_cons_succ] at this)
    simp [pwP, h0, hr]
theorem pwP_some : ∀ {P : List (List Int)} {x : Int} {s : Nat}, s < P.length → (∀ j, j < s → x ∉ P.getD j []) → x ∈ P.getD s [] → pwP P x = some s
  | [], _, _, h, _, _ => by simp at h
  | p :: P, x, 0, _, _, hx => by
    rw [List.getD_cons_zero] at hx
    simp [pwP, hx]
  | p :: P, x, s + 1, hs, hj, hx => by
    rw [List.getD_cons_succ] at hx
    have h0 := hj 0 (by omega)
    rw [List.getD_cons_zero] at h0
    have := pwP_some (P := P) (x := x) (s := s) (by simpa using hs) (fun j h => by
      have := hj (j + 1) (by omega)
      rwa [List.getD_cons_succ] at this) hx
    simp [pwP, h0, this]
theorem pwP_find : ∀ (R : List (List Int)) (x : Int), pwP (pilF idF R) x = (findB R x).map (·.1)
  | [], _ => rfl
  | r :: R, x => by
    have ih := pwP_find R x
    have e : pilF idF (r :: R) = pil idF r :: pilF idF R := rfl
    have em : x ∈ pil idF r ↔ x ∈ r := by rw [pil_id, List.mem_reverse]
    rw [e]
    by_cases hm : x ∈ r
    · have := em.2 hm
      simp [pwP, findB, hm, this]
    · have := fun z => hm (em.1 z)
      simp only [pwP, if_neg this, findB, if_neg hm, ih, Option.map_map]
      rfl
theorem pwV_none {P : List (List Int)} {x : Int} (h : ∀ s, s < P.length → x ∉ P.getD s []) : pwV P x = -1 := by rw [pwV, pwP_none h]
theorem pwV_some {P : List (List Int)} {x : Int} {s : Nat} (h1 : s < P.length) (h2 : ∀ j, j < s → x ∉ P.getD j []) (h3 : x ∈ P.getD s []) : pwV P x = (s : Int) := by rw [pwV, pwP_some h1 h2 h3]
theorem pwV_find (R : List (List Int)) (x : Int) : pwV (pilF idF R) x = match findB R x with | some p => (p.1 : Int) | none => -1 := by
  rw [pwV, pwP_find]
  cases findB R x <;> rfl

/-- What is wrong with an op ahead of all that it does. -/
def fltY (H : Int) (R : List (List Int)) (k b s : Int) : Int :=
  if opB R.length k b s = false then 1
  else if k = 1 ∧ (findB R b).isSome = true then 2
  else if k = 2 ∧ (findB R b).isSome = false then 3
  else if k = 3 ∧ (R.getD b.toNat []).length = 0 then 3
  else if k ≠ 2 ∧ H ≤ ((R.getD s.toNat []).length : Int) then 4
  else 0

theorem flt_bad {H : Int} {R : List (List Int)} {k b s : Int} (h : opB R.length k b s = false) : fltY H R k b s = 1 := by rw [fltY, if_pos h]
section
variable {H : Int} {R : List (List Int)} {b s : Int}
theorem flt_in (h : opB R.length 1 b s = true) : fltY H R 1 b s = if (findB R b).isSome = true then 2 else if H ≤ ((R.getD s.toNat []).length : Int) then 4 else 0 := by
  rw [fltY, if_neg (by rw [h]; simp)]
  by_cases h1 : (findB R b).isSome = true <;> simp [h1]
theorem flt_out (h : opB R.length 2 b s = true) : fltY H R 2 b s = if (findB R b).isSome = true then 0 else 3 := by
  rw [fltY, if_neg (by rw [h]; simp)]
  by_cases h1 : (findB R b).isSome = true <;> simp [h1]
theorem flt_sh (h : opB R.length 3 b s = true) : fltY H R 3 b s = if (R.getD b.toNat []).length = 0 then 3 else if H ≤ ((R.getD s.toNat []).length : Int) then 4 else 0 := by
  rw [fltY, if_neg (by rw [h]; simp)]
  rw [if_neg (by omega), if_neg (by omega)]
  by_cases h1 : (R.getD b.toNat []).length = 0
  · rw [if_pos ⟨rfl, h1⟩, if_pos h1]
  · rw [if_neg (fun e => h1 e.2), if_neg h1]
    by_cases h2 : H ≤ ((R.getD s.toNat []).length : Int)
    · rw [if_pos ⟨by omega, h2⟩, if_pos h2]
    · rw [if_neg (fun e => h2 e.2), if_neg h2]
end

/-- An op that has a fault changes nothing. -/
theorem do_flt {H : Int} {R : List (List Int)} {k b s : Int} (h : YOk H R) (hf : fltY H R k b s ≠ 0) : doY H R k b s = (R, 0, fltY H R k b s) := by
  cases ho : opB R.length k b s with
  | false => rw [flt_bad ho, doY, if_pos (fun e => by rw [ho] at e; simp at e)]
  | true =>
    rw [doY, if_neg (fun e => e ⟨h, ho⟩)]
    by_cases h1 : k = 1
    · subst h1
      rw [flt_in ho] at hf ⊢
      obtain ⟨a1, a2, _⟩ := opB_in ho
      have hl := h.low s.toNat (by omega)
      rw [if_pos rfl]
      by_cases hs : (findB R b).isSome = true
      · rw [if_pos hs, if_pos hs]
      · rw [if_neg hs, if_neg hs] at *
        by_cases hh : H ≤ ((R.getD s.toNat []).length : Int)
        · rw [if_pos hh, if_pos (by omega)]
        · rw [if_neg hh] at hf; exact absurd rfl hf
    · by_cases h3 : k = 3
      · subst h3
        rw [flt_sh ho] at hf ⊢
        obtain ⟨a1, a2, _⟩ := opB_sh ho
        have hl := h.low s.toNat (by omega)
        rw [if_neg h1, if_pos rfl]
        by_cases hs : (R.getD b.toNat []).length = 0
        · rw [if_pos hs, if_pos hs]
        · rw [if_neg hs, if_neg hs] at *
          by_cases hh : H ≤ ((R.getD s.toNat []).length : Int)
          · rw [if_pos hh, if_pos (by omega)]
          · rw [if_neg hh] at hf; exact absurd rfl hf
      · have h2 := opB_kind ho h1 h3
        subst h2
        rw [flt_out ho] at hf ⊢
        rw [if_neg h1, if_neg h3]
        cases hb : findB R b with
        | none => simp
        | some p => rw [hb] at hf; simp at hf
theorem do_in {H : Int} {R : List (List Int)} {b s : Int} (h : YOk H R) (hf : fltY H R 1 b s = 0) : (0 ≤ s ∧ s < R.length) ∧ ((R.getD s.toNat []).length : Int) < H ∧ doY H R 1 b s = (R.set s.toNat (R.getD s.toNat [] ++ [b]), 0, 0) := by
  cases ho : opB R.length 1 b s with
  | false => rw [flt_bad ho] at hf; cases hf
  | true =>
    obtain ⟨a1, a2, _⟩ := opB_in ho
    rw [flt_in ho] at hf
    by_cases hs : (findB R b).isSome = true
    · rw [if_pos hs] at hf; cases hf
    · rw [if_neg hs] at hf
      by_cases hh : H ≤ ((R.getD s.toNat []).length : Int)
      · rw [if_pos hh] at hf; cases hf
      · refine ⟨⟨a1, a2⟩, by omega, ?_⟩
        rw [doY, if_neg (fun e => e ⟨h, ho⟩), if_pos rfl, if_neg hs, if_neg (by omega)]
theorem do_sh {H : Int} {R : List (List Int)} {b s : Int} (h : YOk H R) (hf : fltY H R 3 b s = 0) : (0 ≤ s ∧ s < R.length) ∧ (0 ≤ b ∧ b < R.length) ∧ b ≠ s ∧ 0 < (R.getD b.toNat []).length ∧ ((R.getD s.toNat []).length : Int) < H ∧ doY H R 3 b s = (shiftY R b.toNat s.toNat, 0, 0) := by
  cases ho : opB R.length 3 b s with
  | false => rw [flt_bad ho] at hf; cases hf
  | true =>
    obtain ⟨a1, a2, a3, a4, a5⟩ := opB_sh ho
    rw [flt_sh ho] at hf
    by_cases hs : (R.getD b.toNat []).length = 0
    · rw [if_pos hs] at hf; cases hf
    · rw [if_neg hs] at hf
      by_cases hh : H ≤ ((R.getD s.toNat []).length : Int)
      · rw [if_pos hh] at hf; cases hf
      · refine ⟨⟨a1, a2⟩, ⟨a3, a4⟩, a5, by omega, by omega, ?_⟩
        rw [doY, if_neg (fun e => e ⟨h, ho⟩), if_neg (by omega), if_pos rfl, if_neg hs, if_neg (by omega)]
theorem do_out {H : Int} {R : List (List Int)} {b s : Int} (h : YOk H R) (hf : fltY H R 2 b s = 0) : ∃ p, findB R b = some p ∧ doY H R 2 b s = match offY H p.1 ((R.getD p.1 []).length - (p.2 + 1)) R with | none => (R, 0, 4) | some M => (M.set p.1 ((M.getD p.1 []).take p.2), ((R.getD p.1 []).length - (p.2 + 1) : Nat), 0) := by
  have ho : opB R.length 2 b s = true := by simp [opB]
  rw [flt_out ho] at hf
  cases hb : findB R b with
  | none => rw [hb] at hf; simp at hf
  | some p =>
    refine ⟨p, rfl, ?_⟩
    rw [doY, if_neg (fun e => e ⟨h, ho⟩), if_neg (by omega), if_neg (by omega), hb]
    rfl
theorem flt_kind {H : Int} {R : List (List Int)} {k b s : Int} (hf : fltY H R k b s = 0) : k = 1 ∨ k = 2 ∨ k = 3 := by
  cases ho : opB R.length k b s with
  | false => rw [flt_bad ho] at hf; cases hf
  | true =>
    by_cases h1 : k = 1
    · exact Or.inl h1
    · by_cases h3 : k = 3
      · exact Or.inr (Or.inr h3)
      · exact Or.inr (Or.inl (opB_kind ho h1 h3))

/-- In a right yard the box that is found is at its place alone: above it stand others. -/
theorem above_ne {H : Int} {R : List (List Int)} {x : Int} {p : Nat × Nat} (h : YOk H R) (hp : findB R x = some p) {t : Nat} (h1 : p.2 < t) (h2 : t < (R.getD p.1 []).length) : (R.getD p.1 []).getD t 0 ≠ x := by
  obtain ⟨a1, a2, a3⟩ := findB_at hp
  have hn : (R.getD p.1 []).Nodup := by
    rw [getD_lt a1]
    exact (List.sublist_flatten_of_mem (List.getElem_mem a1)).nodup h.one
  intro e
  rw [getD_lt h2] at e
  rw [getD_lt a2] at a3
  have := (List.pairwise_iff_getElem.1 hn p.2 t a2 h2 h1)
  exact this (a3.trans e.symm)

end Go.Proofs.Ytjllilmiloippaa

namespace Go.Proofs.Ytjllilmiloippaa
open Go.RowKit

set_option maxHeartbeats 1600000 in
theorem isPileI_any (H : Int) (g n cap : Nat) (s : Int) (w : World) (hn : n ≤ 12) :
    Calls Try.prog 117 #[gndV H g n cap, .int .i64 s] w fun e w' => e = .returned (.bool (inB s 0 ((n : Int) - 1))) ∧ Below w.heap.size w w' := by
  unfold gndV
  have HW := hide (Below.alloc1 w (.cells #[.int .i64 H, .slice (some ⟨g, 0, none⟩) n cap] 73))
  go_enter Try.func117, Try.ntmps117
  go_wp2_with fail
  refine (within_any s 0 ((n : Int) - 1) _).mono ?_
  rintro e w' ⟨rfl, rfl⟩
  go_wp2
  go_ret
  exact ⟨rfl, unhide HW⟩

theorem inB_low (s : Int) (n : Nat) : inB s 0 ((n : Int) - 1) = decide (0 ≤ s ∧ s < (n : Int)) := by
  unfold inB
  rw [← Bool.decide_and]
  exact decide_eq_decide.2 (by omega)
theorem inB_box (b : Int) : inB b 1 1000000 = decide (1 ≤ b ∧ b ≤ 1000000) := by
  unfold inB
  rw [← Bool.decide_and]

theorem opB_one (n : Nat) (b s : Int) : opB n 1 b s = (inB s 0 ((n : Int) - 1) && inB b 1 1000000) := by
  rw [inB_low, inB_box]; simp [opB]
theorem opB_two (n : Nat) (b s : Int) : opB n 2 b s = true := by simp [opB]
theorem opB_three (n : Nat) (b s : Int) : opB n 3 b s = ((inB s 0 ((n : Int) - 1) && inB b 0 ((n : Int) - 1)) && (b != s)) := by
  rw [inB_low, inB_low]; simp [opB]
theorem opB_other (n : Nat) (k b s : Int) (h1 : k ≠ 1) (h2 : k ≠ 2) (h3 : k ≠ 3) : opB n k b s = false := by simp [opB, h1, h2, h3]

set_option maxHeartbeats 3200000 in
theorem isYardOp_any (H : Int) (g n cap : Nat) (k b s : Int) (w : World) (hn : n ≤ 12) :
    Calls Try.prog 102 #[gndV H g n cap, vYardOp k b s] w fun e w' => e = .returned (.bool (opB n k b s)) ∧ Below w.heap.size w w' := by
  have HP := hide fun (s : Int) W => isPileI_any H g n cap s W hn
  obtain ⟨A, eA⟩ : ∃ A, A = opB n k b s := ⟨_, rfl⟩
  rw [← eA]
  have EA := hide eA
  clear eA
  unfold vYardOp
  unfold gndV at HP ⊢
  go_enter Try.func102, Try.ntmps102
  go_upto_region 1 with (fail)
  obtain ⟨g0, eg0⟩ : ∃ z, z = w.heap.size := ⟨_, rfl⟩
  obtain ⟨W, eW⟩ : ∃ z, z = (w.alloc (.cells #[.int .i64 H, .slice (some ⟨g, 0, none⟩) n cap] 73)).alloc (.cells #[.int .i64 k, .int .i64 b, .int .i64 s] 34) := ⟨_, rfl⟩
  have HW : Hid (Below w.heap.size w W) := by rw [eW]; exact Below.step (Below.alloc1 _ _) (Below.alloc1 _ _)
  have HB : Hid (OwnV W g0 [.int .i64 H, .slice (some ⟨g, 0, none⟩) n cap]) := by rw [eW, eg0]; exact (ownV_alloc _ _ _).step (Below.alloc1 _ _)
  have HO : Hid (OwnV W (g0 + 1) [.int .i64 k, .int .i64 b, .int .i64 s]) := by rw [eW, eg0]; exact own_new _ _ _ _ (by simp)
  rw [← eW, ← eg0]
  clear eW eg0
  by_cases h1 : k = 1
  · subst h1
    have HE := hide ((unhide EA).trans (opB_one n b s))
    have HPS := hide fun W => unhide HP s W
    cases hp : inB s 0 ((n : Int) - 1) with
    | false =>
      rw [hp] at HE HPS
      clear hp
      have b0 := (unhide HB).cell (i := 0) rfl
      have b1 := (unhide HB).cell (i := 1) rfl
      have o0 := (unhide HO).cell (i := 0) rfl
      have o1 := (unhide HO).cell (i := 1) rfl
      have o2 := (unhide HO).cell (i := 2) rfl
      go_wp2_with fail
      refine (unhide HPS _).mono ?_
      rintro e w1 ⟨rfl, hb⟩
      replace HW := hide (Below.step (unhide HW) hb)
      replace HB := hide ((unhide HB).step hb)
      replace HO := hide ((unhide HO).step hb)
      clear hb b0 b1 o0 o1 o2
      go_wp2
      go_ret
      exact ⟨by rw [unhide HE]; rfl, unhide HW⟩
    | true =>
      rw [hp] at HE HPS
      clear hp
      have HYB := hide fun W => isYardBox_any b W
      generalize inB b 1 1000000 = r at HYB HE
      have b0 := (unhide HB).cell (i := 0) rfl
      have b1 := (unhide HB).cell (i := 1) rfl
      have o0 := (unhide HO).cell (i := 0) rfl
      have o1 := (unhide HO).cell (i := 1) rfl
      have o2 := (unhide HO).cell (i := 2) rfl
      go_wp2_with fail
      refine (unhide HPS _).mono ?_
      rintro e w1 ⟨rfl, hb⟩
      replace HW := hide (Below.step (unhide HW) hb)
      replace HB := hide ((unhide HB).step hb)
      replace HO := hide ((unhide HO).step hb)
      clear hb b0 b1 o0 o1 o2
      have b0 := (unhide HB).cell (i := 0) rfl
      have b1 := (unhide HB).cell (i := 1) rfl
      have o0 := (unhide HO).cell (i := 0) rfl
      have o1 := (unhide HO).cell (i := 1) rfl
      have o2 := (unhide HO).cell (i := 2) rfl
      go_wp2_with fail
      refine (unhide HYB _).mono ?_
      rintro e w2 ⟨rfl, hb⟩
      replace HW := hide (Below.step (unhide HW) hb)
      replace HB := hide ((unhide HB).step hb)
      replace HO := hide ((unhide HO).step hb)
      clear hb b0 b1 o0 o1 o2
      go_wp2
      go_ret
      exact ⟨by rw [unhide HE]; rfl, unhide HW⟩
  · by_cases h2 : k = 2
    · subst h2
      have HE := hide ((unhide EA).trans (opB_two n b s))
      have o0 := (unhide HO).cell (i := 0) rfl
      have o1 := (unhide HO).cell (i := 1) rfl
      have o2 := (unhide HO).cell (i := 2) rfl
      go_wp2
      go_ret
      exact ⟨by rw [unhide HE]; rfl, unhide HW⟩
    · by_cases h3 : k = 3
      · subst h3
        have HE := hide ((unhide EA).trans (opB_three n b s))
        have HPS := hide fun W => unhide HP s W
        have HPB := hide fun W => unhide HP b W
        cases hp : inB s 0 ((n : Int) - 1) with
        | false =>
          rw [hp] at HE HPS
          clear hp
          have b0 := (unhide HB).cell (i := 0) rfl
          have b1 := (unhide HB).cell (i := 1) rfl
          have o0 := (unhide HO).cell (i := 0) rfl
          have o1 := (unhide HO).cell (i := 1) rfl
          have o2 := (unhide HO).cell (i := 2) rfl
          go_wp2_with fail
          refine (unhide HPS _).mono ?_
          rintro e w1 ⟨rfl, hb⟩
          replace HW := hide (Below.step (unhide HW) hb)
          replace HB := hide ((unhide HB).step hb)
          replace HO := hide ((unhide HO).step hb)
          clear hb b0 b1 o0 o1 o2
          go_wp2
          go_ret
          exact ⟨by rw [unhide HE]; rfl, unhide HW⟩
        | true =>
          rw [hp] at HE HPS
          clear hp
          cases hq : inB b 0 ((n : Int) - 1) with
          | false =>
            rw [hq] at HE HPB
            clear hq
            have b0 := (unhide HB).cell (i := 0) rfl
            have b1 := (unhide HB).cell (i := 1) rfl
            have o0 := (unhide HO).cell (i := 0) rfl
            have o1 := (unhide HO).cell (i := 1) rfl
            have o2 := (unhide HO).cell (i := 2) rfl
            go_wp2_with fail
            refine (unhide HPS _).mono ?_
            rintro e w1 ⟨rfl, hb⟩
            replace HW := hide (Below.step (unhide HW) hb)
            replace HB := hide ((unhide HB).step hb)
            replace HO := hide ((unhide HO).step hb)
            clear hb b0 b1 o0 o1 o2
            have b0 := (unhide HB).cell (i := 0) rfl
            have b1 := (unhide HB).cell (i := 1) rfl
            have o0 := (unhide HO).cell (i := 0) rfl
            have o1 := (unhide HO).cell (i := 1) rfl
            have o2 := (unhide HO).cell (i := 2) rfl
            go_wp2_with fail
            refine (unhide HPB _).mono ?_
            rintro e w2 ⟨rfl, hb⟩
            replace HW := hide (Below.step (unhide HW) hb)
            replace HB := hide ((unhide HB).step hb)
            replace HO := hide ((unhide HO).step hb)
            clear hb b0 b1 o0 o1 o2
            go_wp2
            go_ret
            exact ⟨by rw [unhide HE]; rfl, unhide HW⟩
          | true =>
            rw [hq] at HE HPB
            clear hq
            have b0 := (unhide HB).cell (i := 0) rfl
            have b1 := (unhide HB).cell (i := 1) rfl
            have o0 := (unhide HO).cell (i := 0) rfl
            have o1 := (unhide HO).cell (i := 1) rfl
            have o2 := (unhide HO).cell (i := 2) rfl
            go_wp2_with fail
            refine (unhide HPS _).mono ?_
            rintro e w1 ⟨rfl, hb⟩
            replace HW := hide (Below.step (unhide HW) hb)
            replace HB := hide ((unhide HB).step hb)
            replace HO := hide ((unhide HO).step hb)
            clear hb b0 b1 o0 o1 o2
            have b0 := (unhide HB).cell (i := 0) rfl
            have b1 := (unhide HB).cell (i := 1) rfl
            have o0 := (unhide HO).cell (i := 0) rfl
            have o1 := (unhide HO).cell (i := 1) rfl
            have o2 := (unhide HO).cell (i := 2) rfl
            go_wp2_with fail
            refine (unhide HPB _).mono ?_
            rintro e w2 ⟨rfl, hb⟩
            replace HW := hide (Below.step (unhide HW) hb)
            replace HB := hide ((unhide HB).step hb)
            replace HO := hide ((unhide HO).step hb)
            clear hb b0 b1 o0 o1 o2
            have o0 := (unhide HO).cell (i := 0) rfl
            have o1 := (unhide HO).cell (i := 1) rfl
            have o2 := (unhide HO).cell (i := 2) rfl
            go_wp2
            go_ret
            exact ⟨by rw [unhide HE]; rfl, unhide HW⟩
      · have HE := hide ((unhide EA).trans (opB_other n k b s h1 h2 h3))
        have e1 : (k == 1) = false := by simpa using h1
        have e2 : (k == 2) = false := by simpa using h2
        have e3 : (k == 3) = false := by simpa using h3
        have o0 := (unhide HO).cell (i := 0) rfl
        have o1 := (unhide HO).cell (i := 1) rfl
        have o2 := (unhide HO).cell (i := 2) rfl
        go_wp2
        go_ret
        exact ⟨by rw [unhide HE]; rfl, unhide HW⟩

set_option maxRecDepth 10000 in
set_option maxHeartbeats 3200000 in
theorem pileWith_any (H x : Int) (g cap : Nat) (Z : List (Option Addr × Nat)) (P : List (List Int)) (w : World) (h : Gnd w g Z P) (_hn : P.length ≤ 12) (hc1 : P.length ≤ cap) (hc2 : cap ≤ maxLen) :
    Calls Try.prog 103 #[gndV H g P.length cap, .int .i64 x] w fun e w' => e = .returned (.int .i64 (pwV P x)) ∧ Below w.heap.size w w' := by
  obtain ⟨A, eA⟩ : ∃ A, A = pwV P x := ⟨_, rfl⟩
  rw [← eA]
  have EA := hide eA
  clear eA
  have HG := hide h
  clear h
  unfold maxLen at hc2
  unfold gndV
  go_enter Try.func103, Try.ntmps103
  go_upto_region 1 with (fail)
  obtain ⟨W, eW⟩ : ∃ W, W = w.alloc (.cells #[.int .i64 H, .slice (some ⟨g, 0, none⟩) P.length cap] 73) := ⟨_, rfl⟩
  have HW : Hid (Below w.heap.size w W) := by rw [eW]; exact Below.alloc1 _ _
  have HB : Hid (OwnV W w.heap.size [.int .i64 H, .slice (some ⟨g, 0, none⟩) P.length cap]) := by rw [eW]; exact ownV_alloc _ _ _
  rw [← eW]
  clear eW
  have b1 := (unhide HB).cell (i := 1) rfl
  go_wp2
  clear b1 HB
  go_loopg [11] P.length (fun gh iv wr => ∃ k : Nat, k ≤ P.length ∧ gh = P.length - k ∧ iv = .int .i64 k ∧ Hid (∀ s, s < k → x ∉ P.getD s []) ∧ Hid (Below w.heap.size w wr))
  case atStart => exact ⟨0, Nat.zero_le _, rfl, rfl, fun s hs => absurd hs (Nat.not_lt_zero s), HW⟩
  case round =>
    clear HW
    obtain ⟨k, hk, rfl, rfl, HX, HW⟩ := hrel
    by_cases hkn : k < P.length
    · have hki : (k : Int) < P.length := by omega
      have HG2 := hide ((unhide HG).below (unhide HW))
      obtain ⟨p0, p1⟩ := (unhide HG2).at hkn
      have HL := hide ((unhide HG2).lnk k hkn)
      have HSM : Hid (x ∈ P.getD k [] → A = (k : Int)) := fun hm => (unhide EA).trans (pwV_some hkn (unhide HX) hm)
      have HNX : Hid (x ∉ P.getD k [] → ∀ s, s < k + 1 → x ∉ P.getD s []) := fun hm s hs => by
        by_cases e : s = k
        · subst e; exact hm
        · exact unhide HX s (by omega)
      obtain ⟨row, erow⟩ : ∃ row, P.getD k [] = row := ⟨_, rfl⟩
      rw [erow] at p1 HL HSM HNX
      clear erow
      obtain ⟨p, ep⟩ : ∃ p, (Z.getD k default).1 = p := ⟨_, rfl⟩
      rw [ep] at p0 HL
      clear ep
      clear HG2
      go_upto_region 4 with (fail)
      obtain ⟨W, eW⟩ : ∃ W, W = wr.alloc (.cells #[.pointer p, .int .i64 (row.length : Int)] 115) := ⟨_, rfl⟩
      have hb : Below wr.heap.size wr W := by rw [eW]; exact Below.alloc1 _ _
      have HB : Hid (OwnV W wr.heap.size [.pointer p, .int .i64 (row.length : Int)]) := by rw [eW]; exact ownV_alloc _ _ _
      rw [← eW]
      clear eW p0 p1
      replace HW := hide (Below.step (unhide HW) hb)
      replace HL := hide ((unhide HL).below hb)
      clear hb
      have b0 := (unhide HB).cell (i := 0) rfl
      go_wp2
      clear b0 HB
      go_loopg [7] row.length (fun gh pv wr => ∃ (ys : List Int) (q : Option Addr), gh = ys.length ∧ pv = .pointer q ∧ Hid (∃ ds, row = ds ++ ys ∧ x ∉ ds) ∧ Hid (Lnk wr ys q) ∧ Hid (Below w.heap.size w wr))
      case atStart => exact ⟨row, p, rfl, rfl, ⟨[], rfl, by simp⟩, HL, HW⟩
      case round =>
        clear HL HW
        obtain ⟨ys, q, rfl, rfl, HD, HL, HW⟩ := hrel
        cases ys with
        | nil =>
          have ep : q = none := unhide HL
          subst ep
          have HN2 : Hid (∀ s, s < k + 1 → x ∉ P.getD s []) := unhide HNX (by obtain ⟨ds, e, hd⟩ := unhide HD; rw [e, List.append_nil]; exact hd)
          go_wp2
          go_roundg (P.length - (k + 1))
          case measure => omega
          case rel => exact ⟨k + 1, by omega, rfl, by go_num, HN2, HW⟩
        | cons y ys =>
          obtain ⟨g2, q2, rfl, hoy, hly⟩ := unhide HL
          have HLY := hide hly
          have y0 := hoy.cell (i := 0) rfl
          have y1 := hoy.cell (i := 1) rfl
          clear hoy hly HL
          by_cases hyx : y = x
          · have HEV := hide (unhide HSM (by obtain ⟨ds, e, hd⟩ := unhide HD; rw [e, hyx]; simp))
            subst hyx
            go_wp2
            go_ret
            exact ⟨by rw [unhide HEV]; rfl, unhide HW⟩
          · have exy : (y == x) = false := by simpa using hyx
            have HD2 : Hid (∃ ds, row = ds ++ ys ∧ x ∉ ds) := by
              obtain ⟨ds, e, hd⟩ := unhide HD
              exact ⟨ds ++ [y], by rw [e]; simp, by simp [hd]; exact fun e => hyx e.symm⟩
            go_wp2
            go_roundg ys.length
            case measure => simp
            case rel => exact ⟨ys, q2, rfl, rfl, HD2, HLY, HW⟩
    · have hkk : k = P.length := by omega
      subst hkk
      have HEV := hide ((unhide EA).trans (pwV_none (unhide HX)))
      go_wp2
      go_ret
      exact ⟨by rw [unhide HEV]; rfl, unhide HW⟩

theorem low_step_no {H : Int} {P : List (List Int)} {o : Int} {k : Nat} (h : ¬ ((k : Int) ≠ o ∧ ((P.getD k []).length : Int) < H ∧ (lowY H P o k < 0 ∨ (P.getD k []).length < (P.getD (lowY H P o k).toNat []).length))) : lowY H P o (k + 1) = lowY H P o k := by simp only [lowY]; rw [if_neg h]
theorem low_step_yes {H : Int} {P : List (List Int)} {o : Int} {k : Nat} (h1 : (k : Int) ≠ o) (h2 : ((P.getD k []).length : Int) < H) (h : lowY H P o k < 0 ∨ (P.getD k []).length < (P.getD (lowY H P o k).toNat []).length) : lowY H P o (k + 1) = (k : Int) := by simp only [lowY]; rw [if_pos ⟨h1, h2, h⟩]

set_option maxRecDepth 10000 in
set_option maxHeartbeats 6400000 in
theorem lowestBeside_any (H o : Int) (g cap : Nat) (Z : List (Option Addr × Nat)) (P : List (List Int)) (w : World) (h : Gnd w g Z P) (_hn : P.length ≤ 12) (hc1 : P.length ≤ cap) (hc2 : cap ≤ 1048576) :
    Calls Try.prog 107 #[gndV H g P.length cap, .int .i64 o] w fun e w' => e = .returned (.int .i64 (lowY H P o P.length)) ∧ Below w.heap.size w w' := by
  have HG := hide h
  clear h
  have HLB := hide (lowY_bd H P o)
  have HQ0 := hide fun (s : Nat) (hs : s < P.length) W (hb : Below w.heap.size w W) => isFullI_any H g cap Z P s W ((unhide HG).below hb) hs hc1 hc2
  unfold gndV at HQ0 ⊢
  go_enter Try.func107, Try.ntmps107
  go_upto_region 1 with (fail)
  obtain ⟨g0, eg0⟩ : ∃ z, z = w.heap.size := ⟨_, rfl⟩
  obtain ⟨W, eW⟩ : ∃ W, W = w.alloc (.cells #[.int .i64 H, .slice (some ⟨g, 0, none⟩) P.length cap] 73) := ⟨_, rfl⟩
  have HW : Hid (Below w.heap.size w W) := by rw [eW]; exact Below.alloc1 _ _
  have HB : Hid (OwnV W g0 [.int .i64 H, .slice (some ⟨g, 0, none⟩) P.length cap]) := by rw [eW, eg0]; exact ownV_alloc _ _ _
  rw [← eW, ← eg0]
  clear eW eg0
  have b1 := (unhide HB).cell (i := 1) rfl
  go_wp2
  clear b1
  go_loopg [5, 11] P.length (fun gh lv iv wr => ∃ (k : Nat) (l : Int), k ≤ P.length ∧ gh = P.length - k ∧ iv = .int .i64 k ∧ lv = .int .i64 l ∧ Hid (l = lowY H P o k) ∧ Hid (OwnV wr g0 [.int .i64 H, .slice (some ⟨g, 0, none⟩) P.length cap]) ∧ Hid (Below w.heap.size w wr))
  case atStart => exact ⟨0, -1, Nat.zero_le _, rfl, rfl, rfl, rfl, HB, HW⟩
  case round =>
    clear HW HB
    obtain ⟨k, l, hk, rfl, rfl, rfl, HL, HB, HW⟩ := hrel
    by_cases hkn : k < P.length
    · have hki : (k : Int) < P.length := by omega
      have HG2 := hide ((unhide HG).below (unhide HW))
      obtain ⟨p0, p1⟩ := (unhide HG2).at hkn
      have hbd := unhide HLB k
      rw [← unhide HL] at hbd
      have HNO : Hid (¬ ((k : Int) ≠ o ∧ ((P.getD k []).length : Int) < H ∧ (l < 0 ∨ (P.getD k []).length < (P.getD l.toNat []).length)) → l = lowY H P o (k + 1)) := fun h => by
        have h1 := unhide HL
        rw [h1] at h ⊢
        exact (low_step_no h).symm
      have HYE : Hid ((k : Int) ≠ o → ((P.getD k []).length : Int) < H → (l < 0 ∨ (P.getD k []).length < (P.getD l.toNat []).length) → (k : Int) = lowY H P o (k + 1)) := fun h1 h2 h => by
        have h3 := unhide HL
        rw [h3] at h
        exact (low_step_yes h1 h2 h).symm
      have HQ := hide fun W hb => unhide HQ0 k hkn W hb
      have HFU : Hid (fuB H P k = true → ¬ ((P.getD k []).length : Int) < H) := fun e => by have := of_decide_eq_true e; omega
      have HFN : Hid (fuB H P k = false → ((P.getD k []).length : Int) < H) := fun e => by have := of_decide_eq_false e; omega
      generalize fuB H P k = fu at HQ HFU HFN
      obtain ⟨rk, erk⟩ : ∃ n, (P.getD k []).length = n := ⟨_, rfl⟩
      rw [erk] at p1 HNO HYE HFU HFN
      clear erk
      obtain ⟨p, ep⟩ : ∃ p, (Z.getD k default).1 = p := ⟨_, rfl⟩
      rw [ep] at p0
      clear ep
      have b1 := (unhide HB).cell (i := 1) rfl
      go_upto_region 5 with (fail)
      clear b1
      obtain ⟨g7, eg7⟩ : ∃ z, z = wr.heap.size := ⟨_, rfl⟩
      obtain ⟨W2, eW⟩ : ∃ W, W = wr.alloc (.cells #[.pointer p, .int .i64 (rk : Int)] 115) := ⟨_, rfl⟩
      have hb : Below wr.heap.size wr W2 := by rw [eW]; exact Below.alloc1 _ _
      have HPB : Hid (OwnV W2 g7 [.pointer p, .int .i64 (rk : Int)]) := by rw [eW, eg7]; exact ownV_alloc _ _ _
      rw [← eW, ← eg7]
      clear eW eg7 p0 p1
      replace HW := hide (Below.step (unhide HW) hb)
      replace HB := hide ((unhide HB).step hb)
      replace HG2 := hide ((unhide HG2).below hb)
      clear hb
      by_cases hko : (k : Int) = o
      · have eko : ((k : Int) != o) = false := by simpa using hko
        have HE := hide (unhide HNO (fun h => h.1 hko))
        have HKO := hide hko
        clear hko
        have gt0 := fun x' : Gr W2 => gr_cell ((unhide HB).cell (i := 0) rfl) x'
        have gt1 := fun x' : Gr W2 => gr_cell ((unhide HB).cell (i := 1) rfl) x'
        have gsome := gr_some W2
        refine wp_region_grown (by kernel_rfl) (by kernel_rfl) ?_
        repeat (go_big_quiet_step (fail))
        refine wpQuiet_nil ?_
        intro wz hw1
        obtain ⟨z', hz⟩ := hw1
        have hb : Below W2.heap.size W2 wz := hz ▸ z'.ok
        clear hz z' gsome gt0 gt1
        replace HW := hide (Below.step (unhide HW) hb)
        replace HB := hide ((unhide HB).step hb)
        clear hb
        go_wp2
        go_roundg (P.length - (k + 1))
        case measure => omega
        case rel => exact ⟨k + 1, l, by omega, rfl, by go_num, rfl, HE, HB, HW⟩
      · have eko : ((k : Int) != o) = true := by simpa using hko
        have HKO := hide hko
        clear hko
        have Q1 := hide fun (x' : Gr W2) => unhide HQ x'.val (Below.step (unhide HW) x'.ok)
        clear HQ
        cases fu with
        | true =>
          have HE := hide (unhide HNO (fun h => unhide HFU (by first | rfl | trivial) h.2.1))
          have gt0 := fun x' : Gr W2 => gr_cell ((unhide HB).cell (i := 0) rfl) x'
          have gt1 := fun x' : Gr W2 => gr_cell ((unhide HB).cell (i := 1) rfl) x'
          have gsome := gr_some W2
          refine wp_region_grown (by kernel_rfl) (by kernel_rfl) ?_
          repeat (go_big_quiet_step (fail))
          go_big_quiet_want
          go_big_quiet_op
          go_big_quiet_call (exact calls_grown (unhide Q1 _))
          repeat (go_big_quiet_step (fail))
          refine wpQuiet_nil ?_
          intro wz hw1
          obtain ⟨z', hz⟩ := hw1
          have hb : Below W2.heap.size W2 wz := hz ▸ z'.ok
          clear hz z' gsome gt0 gt1
          replace HW := hide (Below.step (unhide HW) hb)
          replace HB := hide ((unhide HB).step hb)
          clear hb
          go_wp2
          go_roundg (P.length - (k + 1))
          case measure => omega
          case rel => exact ⟨k + 1, l, by omega, rfl, by go_num, rfl, HE, HB, HW⟩
        | false =>
          have HLT := hide (unhide HFN (by first | rfl | trivial))
          by_cases hl0 : l < 0
          · have el0 : decide (l < 0) = true := by simpa using hl0
            have HE := hide (unhide HYE (unhide HKO) (unhide HLT) (Or.inl hl0))
            have gt0 := fun x' : Gr W2 => gr_cell ((unhide HB).cell (i := 0) rfl) x'
            have gt1 := fun x' : Gr W2 => gr_cell ((unhide HB).cell (i := 1) rfl) x'
            have gsome := gr_some W2
            refine wp_region_grown (by kernel_rfl) (by kernel_rfl) ?_
            repeat (go_big_quiet_step (fail))
            go_big_quiet_want
            go_big_quiet_op
            go_big_quiet_call (exact calls_grown (unhide Q1 _))
            repeat (go_big_quiet_step (fail))
            refine wpQuiet_nil ?_
            intro wz hw1
            obtain ⟨z', hz⟩ := hw1
            have hb : Below W2.heap.size W2 wz := hz ▸ z'.ok
            clear hz z' gsome gt0 gt1
            replace HW := hide (Below.step (unhide HW) hb)
            replace HB := hide ((unhide HB).step hb)
            clear hb
            go_wp2
            go_roundg (P.length - (k + 1))
            case measure => omega
            case rel => exact ⟨k + 1, k, by omega, rfl, by go_num, rfl, HE, HB, HW⟩
          · have el0 : decide (l < 0) = false := by simpa using hl0
            obtain ⟨j, ej⟩ : ∃ j : Nat, l = (j : Int) := ⟨l.toNat, by omega⟩
            subst ej
            have hjl : j < P.length := by omega
            have hji : (j : Int) < (P.length : Int) := by omega
            obtain ⟨q0, q1⟩ := (unhide HG2).at hjl
            rw [Int.toNat_natCast] at HNO HYE
            obtain ⟨rj, erj⟩ : ∃ n, (P.getD j []).length = n := ⟨_, rfl⟩
            rw [erj] at q1 HNO HYE
            clear erj hbd q0
            by_cases hrr : rk < rj
            · have err : decide ((rk : Int) < (rj : Int)) = true := by simpa using hrr
              have HE := hide (unhide HYE (unhide HKO) (unhide HLT) (Or.inr hrr))
              have gt0 := fun x' : Gr W2 => gr_cell ((unhide HB).cell (i := 0) rfl) x'
              have gt1 := fun x' : Gr W2 => gr_cell ((unhide HB).cell (i := 1) rfl) x'
              have gt2 := fun x' : Gr W2 => gr_cell ((unhide HPB).cell (i := 1) rfl) x'
              have gt3 := fun x' : Gr W2 => gr_cell (q1) x'
              have gsome := gr_some W2
              refine wp_region_grown (by kernel_rfl) (by kernel_rfl) ?_
              repeat (go_big_quiet_step (fail))
              go_big_quiet_want
              go_big_quiet_op
              go_big_quiet_call (exact calls_grown (unhide Q1 _))
              repeat (go_big_quiet_step (fail))
              refine wpQuiet_nil ?_
              intro wz hw1
              obtain ⟨z', hz⟩ := hw1
              have hb : Below W2.heap.size W2 wz := hz ▸ z'.ok
              clear hz z' gsome gt0 gt1 gt2 gt3
              replace HW := hide (Below.step (unhide HW) hb)
              replace HB := hide ((unhide HB).step hb)
              clear hb
              go_wp2
              go_roundg (P.length - (k + 1))
              case measure => omega
              case rel => exact ⟨k + 1, k, by omega, rfl, by go_num, rfl, HE, HB, HW⟩
            · have err : decide ((rk : Int) < (rj : Int)) = false := by simpa using hrr
              have HE := hide (unhide HNO (fun h => by have h1 := h.2.2; omega))
              have gt0 := fun x' : Gr W2 => gr_cell ((unhide HB).cell (i := 0) rfl) x'
              have gt1 := fun x' : Gr W2 => gr_cell ((unhide HB).cell (i := 1) rfl) x'
              have gt2 := fun x' : Gr W2 => gr_cell ((unhide HPB).cell (i := 1) rfl) x'
              have gt3 := fun x' : Gr W2 => gr_cell (q1) x'
              have gsome := gr_some W2
              refine wp_region_grown (by kernel_rfl) (by kernel_rfl) ?_
              repeat (go_big_quiet_step (fail))
              go_big_quiet_want
              go_big_quiet_op
              go_big_quiet_call (exact calls_grown (unhide Q1 _))
              repeat (go_big_quiet_step (fail))
              refine wpQuiet_nil ?_
              intro wz hw1
              obtain ⟨z', hz⟩ := hw1
              have hb : Below W2.heap.size W2 wz := hz ▸ z'.ok
              clear hz z' gsome gt0 gt1 gt2 gt3
              replace HW := hide (Below.step (unhide HW) hb)
              replace HB := hide ((unhide HB).step hb)
              clear hb
              go_wp2
              go_roundg (P.length - (k + 1))
              case measure => omega
              case rel => exact ⟨k + 1, (j : Int), by omega, rfl, by go_num, rfl, HE, HB, HW⟩
    · have hkk : k = P.length := by omega
      subst hkk
      go_wp2
      go_ret
      exact ⟨by rw [unhide HL]; rfl, unhide HW⟩

end Go.Proofs.Ytjllilmiloippaa

namespace Go.Proofs.Ytjllilmiloippaa
open Go.RowKit

theorem lastD_at {l : List Int} (h : 0 < l.length) : l.getLastD 0 = l.getD (l.length - 1) 0 := by
  have h1 := last_split h
  have h2 : (l.dropLast ++ [l.getLastD 0]).getD (l.length - 1) 0 = l.getLastD 0 := by
    have : l.dropLast.length = l.length - 1 := List.length_dropLast
    rw [← this]
    simp [List.getD]
  rw [h1] at h2
  exact h2.symm
theorem dropLast_at {l : List Int} {u : Nat} (h : u < l.length - 1) : l.dropLast.getD u 0 = l.getD u 0 := by
  rw [getD_lt (show u < l.dropLast.length by rw [List.length_dropLast]; exact h), getD_lt (show u < l.length by omega), List.getElem_dropLast]

/-- The boxes above one are taken off: m of n are left. -/
structure TkI (H : Int) (R : List (List Int)) (x : Int) (s t n m : Nat) (M : List (List Int)) : Prop where
  ok : YOk H M
  len : M.length = R.length
  row : (M.getD s []).length = t + 1 + m
  at_ : (M.getD s []).getD t 0 = x
  up : ∀ u, t < u → u < t + 1 + m → (M.getD s []).getD u 0 ≠ x
  off : offY H s m M = offY H s n R
section
variable {H : Int} {R M : List (List Int)} {x : Int} {s t n m : Nat}
theorem TkI.start {p : Nat × Nat} (h : YOk H R) (hp : findB R x = some p) : TkI H R x p.1 p.2 ((R.getD p.1 []).length - (p.2 + 1)) ((R.getD p.1 []).length - (p.2 + 1)) R := by
  obtain ⟨a1, a2, a3⟩ := findB_at hp
  exact ⟨h, rfl, by omega, a3, fun u h1 h2 => above_ne h hp h1 (by omega), rfl⟩
theorem TkI.done (h : TkI H R x s t n 0 M) : offY H s n R = some M := h.off.symm
theorem TkI.none (h : TkI H R x s t n (m + 1) M) (hl : lowY H M s M.length < 0) : offY H s n R = none := by
  rw [← h.off]; simp only [offY]; rw [if_pos hl]
theorem TkI.last0 (h : TkI H R x s t n 0 M) : (M.getD s []).getLastD 0 = x := by
  have hr := h.row
  rw [lastD_at (by omega), hr]; exact h.at_
theorem TkI.lastS (h : TkI H R x s t n (m + 1) M) : (M.getD s []).getLastD 0 ≠ x := by
  have hr := h.row
  rw [lastD_at (by omega), hr]; exact h.up _ (by omega) (by omega)
theorem TkI.next (h : TkI H R x s t n (m + 1) M) (hs : s < R.length) (hl : ¬ lowY H M s M.length < 0) : TkI H R x s t n m (shiftY M s (lowY H M s M.length).toNat) := by
  obtain ⟨h1, h2, h3, _⟩ := low_lt hl
  have hr := h.row
  have hs' : s < M.length := by rw [h.len]; exact hs
  have hrow := shift_row_a (R := M) (b := (lowY H M s M.length).toNat) hs'
  refine ⟨shift_ok h.ok hs' h1 h2 (by omega) h3, shift_len.trans h.len, ?_, ?_, fun u hu1 hu2 => ?_, ?_⟩
  · rw [hrow, List.length_dropLast]; omega
  · rw [hrow, dropLast_at (by omega)]; exact h.at_
  · rw [hrow, dropLast_at (by omega)]; exact h.up u hu1 (by omega)
  · rw [← h.off]
    conv => rhs; simp only [offY]
    rw [if_neg hl]
theorem TkI.cut0 (h : TkI H R x s t n 0 M) : (M.getD s []).dropLast = (M.getD s []).take t := by
  rw [dropLast_take, h.row]; rfl
end

theorem pil_idTop {r : List Int} (h : 0 < r.length) : pil idF r = r.getLastD 0 :: pil idF r.dropLast := pil_top h

set_option maxRecDepth 10000 in
set_option maxHeartbeats 6400000 in
theorem takeOut_any (H x : Int) (g : Nat) (Z : List (Option Addr × Nat)) (R : List (List Int)) (p : Nat × Nat) (w : World) (h : Gnd w g Z (pilF idF R)) (hy : YOk H R) (hp : findB R x = some p) :
    Calls Try.prog 82 #[gndV H g R.length R.length, .int .i64 x] w fun e w' => Kept (fun b => b = g) w w' ∧ (offY H p.1 ((R.getD p.1 []).length - (p.2 + 1)) R = none → e = .returned (.tuple #[.int .i64 0, .bool false])) ∧
      ∀ M, offY H p.1 ((R.getD p.1 []).length - (p.2 + 1)) R = some M → e = .returned (.tuple #[.int .i64 (((R.getD p.1 []).length - (p.2 + 1) : Nat) : Int), .bool true]) ∧ ∃ Z', Gnd w' g Z' (pilF idF (M.set p.1 ((M.getD p.1 []).take p.2))) := by
  obtain ⟨a1, a2, a3⟩ := findB_at hp
  have HT := hide (TkI.start hy hp)
  have HN6 : Hid ((R.getD p.1 []).length - (p.2 + 1) ≤ 6) := by have h1 := hy.low p.1 a1; have h2 := hy.h2; show _ ≤ _; omega
  have hn2 := hy.n2
  have hg0 := h.top.lt
  have HPW := hide fun W (hb : Below w.heap.size w W) => pileWith_any H x g R.length Z (pilF idF R) W (h.below hb) (by rw [pilF_len]; exact hn2) (by rw [pilF_len]; exact Nat.le_refl _) (by unfold maxLen; omega)
  rw [pwV_find, hp, pilF_len] at HPW
  dsimp only at HPW
  have HG := hide h
  obtain ⟨s, t⟩ := p
  dsimp only at *
  clear a2 a3 h
  obtain ⟨n, en⟩ : ∃ n, (R.getD s []).length - (t + 1) = n := ⟨_, rfl⟩
  rw [en] at HT HN6 ⊢
  clear en hp hy
  have hn6 : n ≤ 6 := unhide HN6
  have hsi : (s : Int) < (R.length : Int) := by omega
  unfold gndV at HPW ⊢
  go_enter Try.func82, Try.ntmps82
  go_upto_region 1 with (fail)
  obtain ⟨g0, eg0⟩ : ∃ z, z = w.heap.size := ⟨_, rfl⟩
  have hgl : g < g0 := by rw [eg0]; exact hg0
  obtain ⟨W, eW⟩ : ∃ z, z = w.alloc (.cells #[.int .i64 H, .slice (some ⟨g, 0, none⟩) R.length R.length] 73) := ⟨_, rfl⟩
  have HW : Hid (Below w.heap.size w W) := by rw [eW]; exact Below.alloc1 _ _
  have HB : Hid (OwnV W g0 [.int .i64 H, .slice (some ⟨g, 0, none⟩) R.length R.length]) := by rw [eW, eg0]; exact ownV_alloc _ _ _
  rw [← eW, ← eg0]
  clear eW eg0
  replace HG := hide ((unhide HG).below (unhide HW))
  have b0 := (unhide HB).cell (i := 0) rfl
  have b1 := (unhide HB).cell (i := 1) rfl
  go_wp2_with fail
  refine (unhide HPW _ (unhide HW)).mono ?_
  rintro e w1 ⟨rfl, hb⟩
  replace HW := hide (Below.step (unhide HW) hb)
  replace HB := hide ((unhide HB).step hb)
  replace HG := hide ((unhide HG).below hb)
  clear hb b0 b1
  have HK : Hid (Kept (fun b => b = g) w w1) := kept_of_below (unhide HW)
  clear HW HPW
  go_wp2
  go_loopg [7] n (fun gh sv wr => ∃ (m : Nat) (M : List (List Int)) (Z' : List (Option Addr × Nat)), gh = m ∧ m ≤ n ∧ sv = .int .i64 ((n - m : Nat) : Int) ∧ Hid (TkI H R x s t n m M) ∧ Hid (Gnd wr g Z' (pilF idF M)) ∧ Hid (OwnV wr g0 [.int .i64 H, .slice (some ⟨g, 0, none⟩) R.length R.length]) ∧ Hid (Kept (fun b => b = g) w wr))
  case atStart => exact ⟨n, R, Z, rfl, Nat.le_refl _, by rw [Nat.sub_self]; rfl, HT, HG, HB, HK⟩
  case round =>
    clear HT HG HB HK
    obtain ⟨m, M, Z', rfl, hm, rfl, HT, HG, HB, HK⟩ := hrel
    have hMl := (unhide HT).len
    have hsM : s < M.length := by omega
    have hrl := (unhide HT).row
    have h6 := (unhide HT).ok.low s hsM
    have h62 := (unhide HT).ok.h2
    have hLf : (pilF idF M).getD s [] = (M.getD s []).getLastD 0 :: pil idF (M.getD s []).dropLast := by rw [pilF_get idF hsM]; exact pil_idTop (by omega)
    have hPl : (pilF idF M).length = R.length := by rw [pilF_len, hMl]
    have HQ := hide (liftI_any H g R.length Z' (pilF idF M) _ _ s wr (unhide HG) (by rw [pilF_len]; exact hsM) (by rw [hPl]; exact Nat.le_refl _) (by omega) hLf (by rw [pil_len, List.length_dropLast]; omega))
    rw [hPl] at HQ
    unfold gndV at HQ
    obtain ⟨lst, el⟩ : ∃ z, z = (M.getD s []).getLastD 0 := ⟨_, rfl⟩
    have EL := hide el
    have HLF := hide (lift_pil _ _ hsM hLf).2.2
    rw [← el] at HQ
    have HML := hide hMl
    have HRL := hide hrl
    clear el hLf hPl h6 h62 HG hMl hrl
    have b0 := (unhide HB).cell (i := 0) rfl
    have b1 := (unhide HB).cell (i := 1) rfl
    go_wp2_with fail
    refine (unhide HQ).mono ?_
    rintro e w2 ⟨rfl, Z2, hG, hk⟩
    replace HB := hide ((unhide HB).kept hk (by omega))
    replace HK := hide ((unhide HK).trans hk)
    have hb := hk
    clear hk
    clear b0 b1
    rw [unhide HLF] at hG
    have HG := hide hG
    clear hG HLF HQ hb
    cases gk with
    | zero =>
      have HX : Hid (lst = x) := (unhide EL).trans (unhide HT).last0
      have hx := unhide HX
      have exl : (lst == x) = true := by simpa using hx
      have HF : Hid (offY H s n R = some M) := (unhide HT).done
      have HC := hide (unhide HT).cut0
      rw [unhide HC] at HG
      clear hx
      go_wp2
      go_ret2
      exact ⟨unhide HK, fun e => (by rw [unhide HF] at e; cases e), fun M' e => (by rw [unhide HF] at e; cases e; exact ⟨by simp, _, unhide HG⟩)⟩
    | succ m =>
      have HX : Hid (lst ≠ x) := fun e => (unhide HT).lastS ((unhide EL).symm.trans e)
      have exl : (lst == x) = false := by simpa using unhide HX
      have hPl : (pilF idF (M.set s (M.getD s []).dropLast)).length = R.length := by rw [pilF_len, List.length_set, unhide HML]
      have HQ := hide (lowestBeside_any H (s : Int) g R.length Z2 (pilF idF (M.set s (M.getD s []).dropLast)) w2 (unhide HG) (by omega) (by rw [hPl]; exact Nat.le_refl _) (by omega))
      have hLc := low_congr (H := H) (R := M) (P := pilF idF (M.set s (M.getD s []).dropLast)) (s := (s : Int)) (fun i hi => by rw [pilF_lens, rowset_ne (fun e => hi (by rw [e]))])
      rw [hLc, hPl, ← unhide HML] at HQ
      have HN := hide (unhide HT).none
      have HX2 := hide ((unhide HT).next (by omega))
      have HLO := hide (low_lt (H := H) (R := M) (s := s))
      obtain ⟨z, ez⟩ : ∃ z, z = lowY H M s M.length := ⟨_, rfl⟩
      rw [← ez] at HQ HN HX2 HLO
      rw [unhide HML] at HQ
      unfold gndV at HQ
      clear hPl hLc ez HX
      have b0 := (unhide HB).cell (i := 0) rfl
      have b1 := (unhide HB).cell (i := 1) rfl
      go_wp2_with fail
      refine (unhide HQ).mono ?_
      rintro e w3 ⟨rfl, hb⟩
      replace HB := hide ((unhide HB).step hb)
      replace HG := hide ((unhide HG).below hb)
      replace HK := hide ((unhide HK).trans (kept_of_below hb))
      clear hb
      clear b0 b1
      clear HQ
      by_cases hz : z < 0
      · have HF := hide (unhide HN (by omega))
        go_wp2
        go_ret2
        exact ⟨unhide HK, fun _ => rfl, fun M' e => (by rw [unhide HF] at e; cases e)⟩
      · obtain ⟨l1, l2, l3, l4⟩ := unhide HLO (by omega)
        have HTN := hide (unhide HX2 (by omega))
        obtain ⟨j, ej⟩ : ∃ j, j = z.toNat := ⟨_, rfl⟩
        rw [← ej] at l1 l2 l3 l4 HTN
        have hjR : j < R.length := by have := unhide HML; omega
        have hPl : (pilF idF (M.set s (M.getD s []).dropLast)).length = R.length := by rw [pilF_len, List.length_set, unhide HML]
        have h62 := (unhide HTN).ok.h2
        have HQ := hide (putI_any H g R.length Z2 (pilF idF (M.set s (M.getD s []).dropLast)) lst j w3 (unhide HG) (by omega) (by rw [hPl]; exact Nat.le_refl _) (by omega) (by rw [pilF_lens, rowset_ne (fun e => l2 e.symm)]; omega))
        have HST : Hid ((pilF idF (M.set s (M.getD s []).dropLast)).set j (lst :: (pilF idF (M.set s (M.getD s []).dropLast)).getD j []) = pilF idF (shiftY M s j)) := by
          show _ = _
          have e1 := put_pil (f := idF) (R := M.set s (M.getD s []).dropLast) (b := j) (by rw [List.length_set]; exact l1) lst
          rw [unhide EL, shift_two l2] at e1
          rw [unhide EL]
          exact e1
        rw [hPl, unhide HST, ← l4] at HQ
        unfold gndV at HQ
        have HL4 := hide l4
        clear l3 l4 hPl HST h62 HN HX2 HLO ej HG
        have b0 := (unhide HB).cell (i := 0) rfl
        have b1 := (unhide HB).cell (i := 1) rfl
        go_wp2_with fail
        refine (unhide HQ).mono ?_
        rintro e w4 ⟨rfl, Z3, hG, hk⟩
        replace HB := hide ((unhide HB).kept hk (by omega))
        replace HK := hide ((unhide HK).trans hk)
        clear hk
        clear b0 b1
        have HG := hide hG
        clear hG HQ
        go_wp2
        go_roundg m
        case measure => omega
        case rel => exact ⟨m, _, _, rfl, by omega, by go_num, HTN, HG, HB, HK⟩

set_option maxRecDepth 10000 in
set_option maxHeartbeats 6400000 in
theorem yardFault_any (H k b s : Int) (g : Nat) (Z : List (Option Addr × Nat)) (R : List (List Int)) (w : World) (h : Gnd w g Z (pilF idF R)) (hy : YOk H R) :
    Calls Try.prog 80 #[gndV H g R.length R.length, vYardOp k b s] w fun e w' => e = .returned (.int .i64 (fltY H R k b s)) ∧ Below w.heap.size w w' := by
  obtain ⟨A, eA⟩ : ∃ A, A = fltY H R k b s := ⟨_, rfl⟩
  rw [← eA]
  have EA := hide eA
  clear eA
  have hn2 := hy.n2
  have HYO := hide fun W => isYardOp_any H g R.length R.length k b s W hn2
  have HPW := hide fun W (hb : Below w.heap.size w W) => pileWith_any H b g R.length Z (pilF idF R) W (h.below hb) (by rw [pilF_len]; exact hn2) (by rw [pilF_len]; exact Nat.le_refl _) (by unfold maxLen; omega)
  have HFU := hide fun (i : Nat) (hi : i < R.length) W (hb : Below w.heap.size w W) => isFullI_any H g R.length Z (pilF idF R) i W (h.below hb) (by rw [pilF_len]; exact hi) (by rw [pilF_len]; exact Nat.le_refl _) (by omega)
  have HEM := hide fun (i : Nat) (hi : i < R.length) W (hb : Below w.heap.size w W) => isEmptyI_any H g R.length Z (pilF idF R) i W (h.below hb) (by rw [pilF_len]; exact hi) (by rw [pilF_len]; exact Nat.le_refl _) (by omega)
  unfold fuB at HFU
  unfold emB at HEM
  rw [pwV_find, pilF_len] at HPW
  simp only [pilF_len, pilF_lens] at HFU HEM
  clear h hy
  unfold vYardOp at HYO ⊢
  unfold gndV at HPW HFU HEM HYO ⊢
  go_enter Try.func80, Try.ntmps80
  go_upto_region 1 with (fail)
  obtain ⟨g0, eg0⟩ : ∃ z, z = w.heap.size := ⟨_, rfl⟩
  obtain ⟨W, eW⟩ : ∃ z, z = (w.alloc (.cells #[.int .i64 H, .slice (some ⟨g, 0, none⟩) R.length R.length] 73)).alloc (.cells #[.int .i64 k, .int .i64 b, .int .i64 s] 34) := ⟨_, rfl⟩
  have HW : Hid (Below w.heap.size w W) := by rw [eW]; exact Below.step (Below.alloc1 _ _) (Below.alloc1 _ _)
  have HB : Hid (OwnV W g0 [.int .i64 H, .slice (some ⟨g, 0, none⟩) R.length R.length]) := by rw [eW, eg0]; exact (ownV_alloc _ _ _).step (Below.alloc1 _ _)
  have HO : Hid (OwnV W (g0 + 1) [.int .i64 k, .int .i64 b, .int .i64 s]) := by rw [eW, eg0]; exact own_new _ _ _ _ (by simp)
  rw [← eW, ← eg0]
  clear eW eg0
  cases ho : opB R.length k b s with
  | false =>
    rw [ho] at HYO
    have HE := hide ((unhide EA).trans (flt_bad ho))
    clear ho
    have b0 := (unhide HB).cell (i := 0) rfl
    have b1 := (unhide HB).cell (i := 1) rfl
    have o0 := (unhide HO).cell (i := 0) rfl
    have o1 := (unhide HO).cell (i := 1) rfl
    have o2 := (unhide HO).cell (i := 2) rfl
    go_wp2_with fail
    refine (unhide HYO _).mono ?_
    rintro e w1 ⟨rfl, hb⟩
    replace HW := hide (Below.step (unhide HW) hb)
    replace HB := hide ((unhide HB).step hb)
    replace HO := hide ((unhide HO).step hb)
    clear hb b0 b1 o0 o1 o2
    go_wp2
    go_ret
    exact ⟨by rw [unhide HE]; rfl, unhide HW⟩
  | true =>
    rw [ho] at HYO
    by_cases h1 : k = 1
    · subst h1
      obtain ⟨s0, s1, _, _⟩ := opB_in ho
      have HE := hide ((unhide EA).trans (flt_in ho))
      clear ho
      obtain ⟨i, ei⟩ : ∃ i : Nat, s = (i : Int) := ⟨s.toNat, by omega⟩
      subst ei
      rw [Int.toNat_natCast] at HE
      cases hf : findB R b with
      | some p =>
        rw [hf] at HE HPW
        dsimp only [Option.isSome] at HE HPW
        clear hf
        have b0 := (unhide HB).cell (i := 0) rfl
        have b1 := (unhide HB).cell (i := 1) rfl
        have o0 := (unhide HO).cell (i := 0) rfl
        have o1 := (unhide HO).cell (i := 1) rfl
        have o2 := (unhide HO).cell (i := 2) rfl
        go_wp2_with fail
        refine (unhide HYO _).mono ?_
        rintro e w1 ⟨rfl, hb⟩
        replace HW := hide (Below.step (unhide HW) hb)
        replace HB := hide ((unhide HB).step hb)
        replace HO := hide ((unhide HO).step hb)
        clear hb b0 b1 o0 o1 o2
        have b0 := (unhide HB).cell (i := 0) rfl
        have b1 := (unhide HB).cell (i := 1) rfl
        have o0 := (unhide HO).cell (i := 0) rfl
        have o1 := (unhide HO).cell (i := 1) rfl
        have o2 := (unhide HO).cell (i := 2) rfl
        go_wp2_with fail
        refine (unhide HPW _ (unhide HW)).mono ?_
        rintro e w2 ⟨rfl, hb⟩
        replace HW := hide (Below.step (unhide HW) hb)
        replace HB := hide ((unhide HB).step hb)
        replace HO := hide ((unhide HO).step hb)
        clear hb b0 b1 o0 o1 o2
        have o0 := (unhide HO).cell (i := 0) rfl
        have o1 := (unhide HO).cell (i := 1) rfl
        have o2 := (unhide HO).cell (i := 2) rfl
        go_wp2
        go_ret
        exact ⟨by rw [unhide HE]; rfl, unhide HW⟩
      | none =>
        rw [hf] at HE HPW
        dsimp only [Option.isSome] at HE HPW
        clear hf
        have HF1 := hide fun W hb => unhide HFU i (by omega) W hb
        have b0 := (unhide HB).cell (i := 0) rfl
        have b1 := (unhide HB).cell (i := 1) rfl
        have o0 := (unhide HO).cell (i := 0) rfl
        have o1 := (unhide HO).cell (i := 1) rfl
        have o2 := (unhide HO).cell (i := 2) rfl
        go_wp2_with fail
        refine (unhide HYO _).mono ?_
        rintro e w1 ⟨rfl, hb⟩
        replace HW := hide (Below.step (unhide HW) hb)
        replace HB := hide ((unhide HB).step hb)
        replace HO := hide ((unhide HO).step hb)
        clear hb b0 b1 o0 o1 o2
        have b0 := (unhide HB).cell (i := 0) rfl
        have b1 := (unhide HB).cell (i := 1) rfl
        have o0 := (unhide HO).cell (i := 0) rfl
        have o1 := (unhide HO).cell (i := 1) rfl
        have o2 := (unhide HO).cell (i := 2) rfl
        go_wp2_with fail
        refine (unhide HPW _ (unhide HW)).mono ?_
        rintro e w2 ⟨rfl, hb⟩
        replace HW := hide (Below.step (unhide HW) hb)
        replace HB := hide ((unhide HB).step hb)
        replace HO := hide ((unhide HO).step hb)
        clear hb b0 b1 o0 o1 o2
        obtain ⟨ni, eni⟩ : ∃ n, n = (R.getD i []).length := ⟨_, rfl⟩
        rw [← eni] at HE HF1
        clear eni
        by_cases hi : H ≤ (ni : Int)
        · have ei : decide (H ≤ (ni : Int)) = true := by simpa using hi
          rw [ei] at HF1
          have HE2 := hide ((unhide HE).trans (by first | rw [if_pos hi] | rw [if_neg (by simp), if_pos hi]))
          clear hi ei HE
          have b0 := (unhide HB).cell (i := 0) rfl
          have b1 := (unhide HB).cell (i := 1) rfl
          have o0 := (unhide HO).cell (i := 0) rfl
          have o1 := (unhide HO).cell (i := 1) rfl
          have o2 := (unhide HO).cell (i := 2) rfl
          go_wp2_with fail
          refine (unhide HF1 _ (unhide HW)).mono ?_
          rintro e w7 ⟨rfl, hb⟩
          replace HW := hide (Below.step (unhide HW) hb)
          replace HB := hide ((unhide HB).step hb)
          replace HO := hide ((unhide HO).step hb)
          clear hb b0 b1 o0 o1 o2
          have o0 := (unhide HO).cell (i := 0) rfl
          have o1 := (unhide HO).cell (i := 1) rfl
          have o2 := (unhide HO).cell (i := 2) rfl
          go_wp2
          go_ret
          exact ⟨by rw [unhide HE2]; rfl, unhide HW⟩
        · have ei : decide (H ≤ (ni : Int)) = false := by simpa using hi
          rw [ei] at HF1
          have HE2 := hide ((unhide HE).trans (by first | rw [if_neg hi] | rw [if_neg (by simp), if_neg hi]))
          clear hi ei HE
          have b0 := (unhide HB).cell (i := 0) rfl
          have b1 := (unhide HB).cell (i := 1) rfl
          have o0 := (unhide HO).cell (i := 0) rfl
          have o1 := (unhide HO).cell (i := 1) rfl
          have o2 := (unhide HO).cell (i := 2) rfl
          go_wp2_with fail
          refine (unhide HF1 _ (unhide HW)).mono ?_
          rintro e w7 ⟨rfl, hb⟩
          replace HW := hide (Below.step (unhide HW) hb)
          replace HB := hide ((unhide HB).step hb)
          replace HO := hide ((unhide HO).step hb)
          clear hb b0 b1 o0 o1 o2
          have o0 := (unhide HO).cell (i := 0) rfl
          have o1 := (unhide HO).cell (i := 1) rfl
          have o2 := (unhide HO).cell (i := 2) rfl
          go_wp2
          go_ret
          exact ⟨by rw [unhide HE2]; rfl, unhide HW⟩
    · by_cases h2 : k = 2
      · subst h2
        have HE := hide ((unhide EA).trans (flt_out ho))
        clear ho
        cases hf : findB R b with
        | some p =>
          rw [hf] at HE HPW
          dsimp only [Option.isSome] at HE HPW
          clear hf
          have b0 := (unhide HB).cell (i := 0) rfl
          have b1 := (unhide HB).cell (i := 1) rfl
          have o0 := (unhide HO).cell (i := 0) rfl
          have o1 := (unhide HO).cell (i := 1) rfl
          have o2 := (unhide HO).cell (i := 2) rfl
          go_wp2_with fail
          refine (unhide HYO _).mono ?_
          rintro e w1 ⟨rfl, hb⟩
          replace HW := hide (Below.step (unhide HW) hb)
          replace HB := hide ((unhide HB).step hb)
          replace HO := hide ((unhide HO).step hb)
          clear hb b0 b1 o0 o1 o2
          have b0 := (unhide HB).cell (i := 0) rfl
          have b1 := (unhide HB).cell (i := 1) rfl
          have o0 := (unhide HO).cell (i := 0) rfl
          have o1 := (unhide HO).cell (i := 1) rfl
          have o2 := (unhide HO).cell (i := 2) rfl
          go_wp2_with fail
          refine (unhide HPW _ (unhide HW)).mono ?_
          rintro e w2 ⟨rfl, hb⟩
          replace HW := hide (Below.step (unhide HW) hb)
          replace HB := hide ((unhide HB).step hb)
          replace HO := hide ((unhide HO).step hb)
          clear hb b0 b1 o0 o1 o2
          have o0 := (unhide HO).cell (i := 0) rfl
          have o1 := (unhide HO).cell (i := 1) rfl
          have o2 := (unhide HO).cell (i := 2) rfl
          go_wp2
          go_ret
          exact ⟨by rw [unhide HE]; rfl, unhide HW⟩
        | none =>
          rw [hf] at HE HPW
          dsimp only [Option.isSome] at HE HPW
          clear hf
          have b0 := (unhide HB).cell (i := 0) rfl
          have b1 := (unhide HB).cell (i := 1) rfl
          have o0 := (unhide HO).cell (i := 0) rfl
          have o1 := (unhide HO).cell (i := 1) rfl
          have o2 := (unhide HO).cell (i := 2) rfl
          go_wp2_with fail
          refine (unhide HYO _).mono ?_
          rintro e w1 ⟨rfl, hb⟩
          replace HW := hide (Below.step (unhide HW) hb)
          replace HB := hide ((unhide HB).step hb)
          replace HO := hide ((unhide HO).step hb)
          clear hb b0 b1 o0 o1 o2
          have b0 := (unhide HB).cell (i := 0) rfl
          have b1 := (unhide HB).cell (i := 1) rfl
          have o0 := (unhide HO).cell (i := 0) rfl
          have o1 := (unhide HO).cell (i := 1) rfl
          have o2 := (unhide HO).cell (i := 2) rfl
          go_wp2_with fail
          refine (unhide HPW _ (unhide HW)).mono ?_
          rintro e w2 ⟨rfl, hb⟩
          replace HW := hide (Below.step (unhide HW) hb)
          replace HB := hide ((unhide HB).step hb)
          replace HO := hide ((unhide HO).step hb)
          clear hb b0 b1 o0 o1 o2
          have o0 := (unhide HO).cell (i := 0) rfl
          have o1 := (unhide HO).cell (i := 1) rfl
          have o2 := (unhide HO).cell (i := 2) rfl
          go_wp2
          go_ret
          exact ⟨by rw [unhide HE]; rfl, unhide HW⟩
      · have h3 : k = 3 := Classical.byContradiction fun h3 => h2 (opB_kind ho h1 h3)
        subst h3
        obtain ⟨s0, s1, b0, b1, _⟩ := opB_sh ho
        have HE := hide ((unhide EA).trans (flt_sh ho))
        clear ho
        obtain ⟨i, ei⟩ : ∃ i : Nat, s = (i : Int) := ⟨s.toNat, by omega⟩
        subst ei
        obtain ⟨j, ej⟩ : ∃ j : Nat, b = (j : Int) := ⟨b.toNat, by omega⟩
        subst ej
        rw [Int.toNat_natCast, Int.toNat_natCast] at HE
        have HF1 := hide fun W hb => unhide HFU i (by omega) W hb
        have HM1 := hide fun W hb => unhide HEM j (by omega) W hb
        obtain ⟨nj, enj⟩ : ∃ n, n = (R.getD j []).length := ⟨_, rfl⟩
        rw [← enj] at HE HM1
        clear enj b0 b1
        by_cases hj : nj = 0
        · have ej : decide (nj = 0) = true := by simpa using hj
          rw [ej] at HM1
          rw [if_pos hj] at HE
          clear hj ej
          have b0 := (unhide HB).cell (i := 0) rfl
          have b1 := (unhide HB).cell (i := 1) rfl
          have o0 := (unhide HO).cell (i := 0) rfl
          have o1 := (unhide HO).cell (i := 1) rfl
          have o2 := (unhide HO).cell (i := 2) rfl
          go_wp2_with fail
          refine (unhide HYO _).mono ?_
          rintro e w1 ⟨rfl, hb⟩
          replace HW := hide (Below.step (unhide HW) hb)
          replace HB := hide ((unhide HB).step hb)
          replace HO := hide ((unhide HO).step hb)
          clear hb b0 b1 o0 o1 o2
          have b0 := (unhide HB).cell (i := 0) rfl
          have b1 := (unhide HB).cell (i := 1) rfl
          have o0 := (unhide HO).cell (i := 0) rfl
          have o1 := (unhide HO).cell (i := 1) rfl
          have o2 := (unhide HO).cell (i := 2) rfl
          go_wp2_with fail
          refine (unhide HM1 _ (unhide HW)).mono ?_
          rintro e w2 ⟨rfl, hb⟩
          replace HW := hide (Below.step (unhide HW) hb)
          replace HB := hide ((unhide HB).step hb)
          replace HO := hide ((unhide HO).step hb)
          clear hb b0 b1 o0 o1 o2
          have o0 := (unhide HO).cell (i := 0) rfl
          have o1 := (unhide HO).cell (i := 1) rfl
          have o2 := (unhide HO).cell (i := 2) rfl
          go_wp2
          go_ret
          exact ⟨by rw [unhide HE]; rfl, unhide HW⟩
        · have ej : decide (nj = 0) = false := by simpa using hj
          rw [ej] at HM1
          rw [if_neg hj] at HE
          clear hj ej
          have b0 := (unhide HB).cell (i := 0) rfl
          have b1 := (unhide HB).cell (i := 1) rfl
          have o0 := (unhide HO).cell (i := 0) rfl
          have o1 := (unhide HO).cell (i := 1) rfl
          have o2 := (unhide HO).cell (i := 2) rfl
          go_wp2_with fail
          refine (unhide HYO _).mono ?_
          rintro e w1 ⟨rfl, hb⟩
          replace HW := hide (Below.step (unhide HW) hb)
          replace HB := hide ((unhide HB).step hb)
          replace HO := hide ((unhide HO).step hb)
          clear hb b0 b1 o0 o1 o2
          have b0 := (unhide HB).cell (i := 0) rfl
          have b1 := (unhide HB).cell (i := 1) rfl
          have o0 := (unhide HO).cell (i := 0) rfl
          have o1 := (unhide HO).cell (i := 1) rfl
          have o2 := (unhide HO).cell (i := 2) rfl
          go_wp2_with fail
          refine (unhide HM1 _ (unhide HW)).mono ?_
          rintro e w2 ⟨rfl, hb⟩
          replace HW := hide (Below.step (unhide HW) hb)
          replace HB := hide ((unhide HB).step hb)
          replace HO := hide ((unhide HO).step hb)
          clear hb b0 b1 o0 o1 o2
          obtain ⟨ni, eni⟩ : ∃ n, n = (R.getD i []).length := ⟨_, rfl⟩
          rw [← eni] at HE HF1
          clear eni
          by_cases hi : H ≤ (ni : Int)
          · have ei : decide (H ≤ (ni : Int)) = true := by simpa using hi
            rw [ei] at HF1
            have HE2 := hide ((unhide HE).trans (by first | rw [if_pos hi] | rw [if_neg (by simp), if_pos hi]))
            clear hi ei HE
            have b0 := (unhide HB).cell (i := 0) rfl
            have b1 := (unhide HB).cell (i := 1) rfl
            have o0 := (unhide HO).cell (i := 0) rfl
            have o1 := (unhide HO).cell (i := 1) rfl
            have o2 := (unhide HO).cell (i := 2) rfl
            go_wp2_with fail
            refine (unhide HF1 _ (unhide HW)).mono ?_
            rintro e w7 ⟨rfl, hb⟩
            replace HW := hide (Below.step (unhide HW) hb)
            replace HB := hide ((unhide HB).step hb)
            replace HO := hide ((unhide HO).step hb)
            clear hb b0 b1 o0 o1 o2
            have o0 := (unhide HO).cell (i := 0) rfl
            have o1 := (unhide HO).cell (i := 1) rfl
            have o2 := (unhide HO).cell (i := 2) rfl
            go_wp2
            go_ret
            exact ⟨by rw [unhide HE2]; rfl, unhide HW⟩
          · have ei : decide (H ≤ (ni : Int)) = false := by simpa using hi
            rw [ei] at HF1
            have HE2 := hide ((unhide HE).trans (by first | rw [if_neg hi] | rw [if_neg (by simp), if_neg hi]))
            clear hi ei HE
            have b0 := (unhide HB).cell (i := 0) rfl
            have b1 := (unhide HB).cell (i := 1) rfl
            have o0 := (unhide HO).cell (i := 0) rfl
            have o1 := (unhide HO).cell (i := 1) rfl
            have o2 := (unhide HO).cell (i := 2) rfl
            go_wp2_with fail
            refine (unhide HF1 _ (unhide HW)).mono ?_
            rintro e w7 ⟨rfl, hb⟩
            replace HW := hide (Below.step (unhide HW) hb)
            replace HB := hide ((unhide HB).step hb)
            replace HO := hide ((unhide HO).step hb)
            clear hb b0 b1 o0 o1 o2
            have o0 := (unhide HO).cell (i := 0) rfl
            have o1 := (unhide HO).cell (i := 1) rfl
            have o2 := (unhide HO).cell (i := 2) rfl
            go_wp2
            go_ret
            exact ⟨by rw [unhide HE2]; rfl, unhide HW⟩

end Go.Proofs.Ytjllilmiloippaa

namespace Go.Proofs.Ytjllilmiloippaa
open Go.RowKit

set_option maxRecDepth 10000 in
set_option maxHeartbeats 16000000 in
theorem behindYardOp_any (H k b s : Int) (g : Nat) (Z : List (Option Addr × Nat)) (R : List (List Int)) (w : World) (h : Gnd w g Z (pilF idF R)) (hy : YOk H R) :
    Calls Try.prog 47 #[gndV H g R.length R.length, vYardOp k b s] w fun e w' => ∃ g' Z', e = .returned (.tuple #[gndV H g' R.length R.length, .int .i64 (doY H R k b s).2.1, .int .i64 (doY H R k b s).2.2]) ∧ Gnd w' g' Z' (pilF idF (doY H R k b s).1) ∧ Below w.heap.size w w' := by
  obtain ⟨⟨D1, D2, D3⟩, eD⟩ : ∃ D, D = doY H R k b s := ⟨_, rfl⟩
  rw [← eD]
  have ED := hide eD
  clear eD
  dsimp only
  have hn1 := hy.n1
  have hn2 := hy.n2
  have hgl0 := h.top.lt
  have HYF := hide fun W (hb : Below w.heap.size w W) => yardFault_any H k b s g Z R W (h.below hb) hy
  have HFD := hide (do_flt (k := k) (b := b) (s := s) hy)
  have HKD := hide (flt_kind (H := H) (R := R) (k := k) (b := b) (s := s))
  have HZI := hide fun (e : fltY H R 1 b s = 0) => do_in hy e
  have HZS := hide fun (e : fltY H R 3 b s = 0) => do_sh hy e
  have HZO := hide fun (e : fltY H R 2 b s = 0) => do_out hy e
  have HY := hide hy
  have HG := hide h
  clear h hy
  obtain ⟨z, ez⟩ : ∃ z, z = fltY H R k b s := ⟨_, rfl⟩
  have EZ := hide ez
  rw [← ez] at HYF HFD HKD
  clear ez
  unfold vYardOp at HYF ⊢
  unfold gndV at HYF ⊢
  go_enter Try.func47, Try.ntmps47
  go_upto_region 1 with (fail)
  obtain ⟨g0, eg0⟩ : ∃ z, z = w.heap.size := ⟨_, rfl⟩
  obtain ⟨W, eW⟩ : ∃ z, z = ((w.alloc (.cells #[.int .i64 H, .slice (some ⟨g, 0, none⟩) R.length R.length] 73)).alloc (.cells #[.int .i64 k, .int .i64 b, .int .i64 s] 34)).alloc (.cells #[.int .i64 0, .slice none 0 0] 73) := ⟨_, rfl⟩
  have HW : Hid (Below w.heap.size w W) := by rw [eW]; exact Below.step (Below.step (Below.alloc1 _ _) (Below.alloc1 _ _)) (Below.alloc1 _ _)
  have HB : Hid (OwnV W g0 [.int .i64 H, .slice (some ⟨g, 0, none⟩) R.length R.length]) := by rw [eW, eg0]; exact ((ownV_alloc _ _ _).step (Below.alloc1 _ _)).step (Below.alloc1 _ _)
  have HO : Hid (OwnV W (g0 + 1) [.int .i64 k, .int .i64 b, .int .i64 s]) := by rw [eW, eg0]; exact (own_new _ _ _ _ (by simp)).step (Below.alloc1 _ _)
  have HA : Hid (OwnV W (g0 + 1 + 1) [.int .i64 0, .slice none 0 0]) := by rw [eW, eg0]; exact own_new _ _ _ _ (by simp)
  rw [← eW, ← eg0]
  have hgl : g < g0 := by omega
  have hg0 : w.heap.size ≤ g0 := by omega
  clear eW eg0 hgl0
  replace HG := hide ((unhide HG).below (unhide HW))
  have b0 := (unhide HB).cell (i := 0) rfl
  have b1 := (unhide HB).cell (i := 1) rfl
  have o0 := (unhide HO).cell (i := 0) rfl
  have o1 := (unhide HO).cell (i := 1) rfl
  have o2 := (unhide HO).cell (i := 2) rfl
  go_wp2_with fail
  refine (unhide HYF _ (unhide HW)).mono ?_
  rintro e w1 ⟨rfl, hb⟩
  replace HW := hide (Below.step (unhide HW) hb)
  replace HB := hide ((unhide HB).step hb)
  replace HO := hide ((unhide HO).step hb)
  replace HA := hide ((unhide HA).step hb)
  replace HG := hide ((unhide HG).below hb)
  clear hb b0 b1 o0 o1 o2
  clear HYF
  have hg1 := (unhide HA).lt
  by_cases hz : z = 0
  · have ezz : (z != 0) = false := by simpa using hz
    have b0 := (unhide HB).cell (i := 0) rfl
    have b1 := (unhide HB).cell (i := 1) rfl
    go_upto_region 4 with (fail)
    clear b0 b1
    go_cut [8, 9] (fun s8 s9 wx => ∃ gb g' : Nat, s8 = .pointer (some ⟨gb, 0, none⟩) ∧ s9 = .int .i64 b ∧ g0 + 1 + 1 < gb ∧ g0 + 1 + 1 < g' ∧ gb ≠ g' ∧ Hid (Below w.heap.size w wx) ∧ Hid (OwnV wx g0 [.int .i64 H, .slice (some ⟨g, 0, none⟩) R.length R.length]) ∧ Hid (OwnV wx (g0 + 1) [.int .i64 k, .int .i64 b, .int .i64 s]) ∧ Hid (OwnV wx (g0 + 1 + 1) [.int .i64 0, .slice none 0 0]) ∧ Hid (Gnd wx g Z (pilF idF R)) ∧ Hid (OwnV wx gb [.int .i64 H, .slice (some ⟨g', 0, none⟩) R.length R.length]) ∧ Hid (Gnd wx g' Z (pilF idF R)))
    case first =>
      obtain ⟨wd, ewd⟩ : ∃ z, z = w1.drew := ⟨_, rfl⟩
      have hb : Below w1.heap.size w1 wd := by rw [ewd]; exact (Below.refl _ _).drew
      replace HW := hide (Below.step (unhide HW) hb)
      replace HB := hide ((unhide HB).step hb)
      replace HO := hide ((unhide HO).step hb)
      replace HA := hide ((unhide HA).step hb)
      replace HG := hide ((unhide HG).below hb)
      clear hb
      refine wp_region_held_drew (S := fun w' => w'.cell? ⟨g0, 0, none⟩ = some (.int .i64 H) ∧ w'.cell? ⟨g0, 1, none⟩ = some (.slice (some ⟨g, 0, none⟩) R.length R.length) ∧ w'.cell? ⟨g0 + 1, 1, none⟩ = some (.int .i64 b)) (by kernel_rfl) ⟨by rw [← ewd]; exact (unhide HB).cell (i := 0) rfl, by rw [← ewd]; exact (unhide HB).cell (i := 1) rfl, by rw [← ewd]; exact (unhide HO).cell (i := 1) rfl⟩ (fun hHeld => ?_)
      rw [← ewd] at hHeld ⊢
      clear ewd
      have hal0 := (unhide HA).lt
      refine wpAnyH_take (i := 0) (v := ?_) rfl (by kernel_rfl) (by kernel_rfl) (by kernel_rfl) (fun _ _ _ h => h) (Or.inl ⟨by rfl, ?_⟩) (by assumption) ?_
      rotate_left
      · intro wy hSw
        obtain ⟨hS0, hS1, hS2⟩ := hSw
        go_simp
        try with_reducible rfl
      try simp only [Act.put, List.getElem_toArray, List.getElem_cons_zero, List.setIfInBounds_toArray, List.set_cons_zero, List.set_cons_succ]
      refine wpAnyH_take (i := 2) (v := ?_) rfl (by kernel_rfl) (by kernel_rfl) (by kernel_rfl) (fun _ _ _ h => h) (Or.inl ⟨by rfl, ?_⟩) (by assumption) ?_
      rotate_left
      · intro wy hSw
        obtain ⟨hS0, hS1, hS2⟩ := hSw
        go_simp
        try with_reducible rfl
      try simp only [Act.put, List.getElem_toArray, List.getElem_cons_succ, List.getElem_cons_zero, List.setIfInBounds_toArray, List.set_cons_zero, List.set_cons_succ]
      refine wpAnyH_take (i := 3) (v := ?_) rfl (by kernel_rfl) (by kernel_rfl) (by kernel_rfl) (fun _ _ _ h => h) (Or.inl ⟨by rfl, ?_⟩) (by assumption) ?_
      rotate_left
      · intro wy hSw
        obtain ⟨hS0, hS1, hS2⟩ := hSw
        go_simp
        try with_reducible rfl
      try simp only [Act.put, List.getElem_toArray, List.getElem_cons_succ, List.getElem_cons_zero, List.setIfInBounds_toArray, List.set_cons_zero, List.set_cons_succ]
      refine wpAnyH_ready (rs := [1, 4]) (by kernel_rfl) (by simp) ?_
      refine AllReadyH.cons rfl (fun K hK => ?_) (AllReadyH.cons rfl (fun K hK => ?_) AllReadyH.nil)
      · go_simp
        have HCQ := hide (ownI_any H g R.length Z (pilF idF R) wd (unhide HG) (by rw [pilF_len]; exact Nat.le_refl _) (by omega))
        rw [pilF_len] at HCQ
        unfold gndV at HCQ
        refine (unhide HCQ).mono ?_
        rintro e wc0 ⟨g', rfl, hg', hG', hb⟩
        replace HW := hide (Below.step (unhide HW) hb)
        replace HB := hide ((unhide HB).step hb)
        replace HO := hide ((unhide HO).step hb)
        replace HA := hide ((unhide HA).step hb)
        replace HG := hide ((unhide HG).below hb)
        have hsz := hb.size
        have HN := hide hG'
        have hgn := hG'.top.lt
        have hal := (unhide HA).lt
        clear hG'
        clear hb HCQ
        refine hK.out _ _ ⟨(unhide HB).cell (i := 0) rfl, (unhide HB).cell (i := 1) rfl, (unhide HO).cell (i := 1) rfl⟩ (fun hHeld => ?_)
        clear hK K
        try simp only [Act.put, List.setIfInBounds_toArray, List.set_cons_zero, List.set_cons_succ]
        refine wpAnyH_ready (rs := [4]) (by kernel_rfl) (by simp) ?_
        refine AllReadyH.cons rfl (fun K hK => ?_) AllReadyH.nil
        go_simp
        obtain ⟨gb, egb⟩ : ∃ z, z = wc0.heap.size := ⟨_, rfl⟩
        have hgb1 : g0 + 1 + 1 < gb := by rw [egb]; exact (unhide HA).lt
        obtain ⟨wb1, ewb1⟩ : ∃ z, z = wc0.alloc (.cells #[.int .i64 0, .slice none 0 0] 73) := ⟨_, rfl⟩
        have hb : Below wc0.heap.size wc0 wb1 := by rw [ewb1]; exact Below.alloc1 _ _
        have HBB : Hid (OwnV wb1 gb [.int .i64 0, .slice none 0 0]) := by rw [ewb1, egb]; exact ownV_alloc _ _ _
        rw [← ewb1, ← egb]
        replace HW := hide (Below.step (unhide HW) hb)
        replace HB := hide ((unhide HB).step hb)
        replace HO := hide ((unhide HO).step hb)
        replace HA := hide ((unhide HA).step hb)
        replace HG := hide ((unhide HG).below hb)
        replace HN := hide ((unhide HN).below hb)
        have hgb2 := (unhide HBB).lt
        have hgg2 : g' < gb := by rw [egb]; exact hgn
        clear hb ewb1 egb
        refine hK.out _ _ ⟨(unhide HB).cell (i := 0) rfl, (unhide HB).cell (i := 1) rfl, (unhide HO).cell (i := 1) rfl⟩ (fun hHeld => ?_)
        clear hK K
        try simp only [Act.put, List.setIfInBounds_toArray, List.set_cons_zero, List.set_cons_succ]
        refine wpAnyH_ready (rs := [5]) (by kernel_rfl) (by simp) ?_
        refine AllReadyH.cons rfl (fun K hK => ?_) AllReadyH.nil
        have rf0 := (unhide HBB).frozen 0
        have r0 := (unhide HBB).cell (i := 0) rfl
        have rf1 := (unhide HBB).frozen 1
        have r1 := (unhide HBB).cell (i := 1) rfl
        have HBN := hide (((unhide HBB).set 0 (.int .i64 H) (by simp)).set 1 (.slice (some ⟨g', 0, none⟩) R.length R.length) (by simp))
        have HKS : Hid (Kept (fun b => b = gb) wb1 ((wb1.setCell ⟨gb, 0, none⟩ (.int .i64 H)).setCell ⟨gb, 1, none⟩ (.slice (some ⟨g', 0, none⟩) R.length R.length))) := (((Kept.refl (fun b => b = gb) _).setCell (p := ⟨gb, 0, none⟩) rfl _).setCell (p := ⟨gb, 1, none⟩) rfl _)
        have hWB := unhide HW
        replace HW := hide (below_kept hWB (unhide HKS) hWB.size (fun b e => by omega))
        clear hWB
        replace HB := hide ((unhide HB).kept (unhide HKS) (by omega))
        replace HO := hide ((unhide HO).kept (unhide HKS) (by omega))
        replace HA := hide ((unhide HA).kept (unhide HKS) (by omega))
        replace HG := hide ((unhide HG).kept (unhide HKS) (by omega) (fun k e => e ▸ noLink_own (unhide HBB) (fun q e => by cases e)))
        replace HN := hide ((unhide HN).kept (unhide HKS) (by omega) (fun k e => e ▸ noLink_own (unhide HBB) (fun q e => by cases e)))
        go_simp
        clear rf0 r0 rf1 r1
        refine hK.out _ _ ⟨(unhide HB).cell (i := 0) rfl, (unhide HB).cell (i := 1) rfl, (unhide HO).cell (i := 1) rfl⟩ (fun hHeld => ?_)
        clear hK K
        try simp only [Act.put, List.setIfInBounds_toArray, List.set_cons_zero, List.set_cons_succ]
        refine wpAnyH_take (i := 6) (v := ?_) rfl (by kernel_rfl) (by kernel_rfl) (by kernel_rfl) (fun _ _ _ h => h) (Or.inl ⟨by rfl, ?_⟩) (by assumption) ?_
        rotate_left
        · intro wy hSw
          obtain ⟨hS0, hS1, hS2⟩ := hSw
          go_simp
          try with_reducible rfl
        try simp only [Act.put, List.getElem_toArray, List.getElem_cons_succ, List.getElem_cons_zero, List.setIfInBounds_toArray, List.set_cons_zero, List.set_cons_succ]
        refine wpAnyH_done (by kernel_rfl) ?_ _
        go_wp2_with fail
        go_meet
        exact ⟨gb, g', rfl, rfl, by omega, by omega, by omega, HW, HB, HO, HA, HG, HBN, HN⟩
      · go_simp
        obtain ⟨gb, egb⟩ : ∃ z, z = wd.heap.size := ⟨_, rfl⟩
        have hgb1 : g0 + 1 + 1 < gb := by rw [egb]; exact (unhide HA).lt
        obtain ⟨wb0, ewb0⟩ : ∃ z, z = wd.alloc (.cells #[.int .i64 0, .slice none 0 0] 73) := ⟨_, rfl⟩
        have hb : Below wd.heap.size wd wb0 := by rw [ewb0]; exact Below.alloc1 _ _
        have HBB : Hid (OwnV wb0 gb [.int .i64 0, .slice none 0 0]) := by rw [ewb0, egb]; exact ownV_alloc _ _ _
        rw [← ewb0, ← egb]
        replace HW := hide (Below.step (unhide HW) hb)
        replace HB := hide ((unhide HB).step hb)
        replace HO := hide ((unhide HO).step hb)
        replace HA := hide ((unhide HA).step hb)
        replace HG := hide ((unhide HG).below hb)
        have hgb2 := (unhide HBB).lt
        clear hb ewb0 egb
        refine hK.out _ _ ⟨(unhide HB).cell (i := 0) rfl, (unhide HB).cell (i := 1) rfl, (unhide HO).cell (i := 1) rfl⟩ (fun hHeld => ?_)
        clear hK K
        try simp only [Act.put, List.setIfInBounds_toArray, List.set_cons_zero, List.set_cons_succ]
        refine wpAnyH_ready (rs := [1]) (by kernel_rfl) (by simp) ?_
        refine AllReadyH.cons rfl (fun K hK => ?_) AllReadyH.nil
        go_simp
        have HCQ := hide (ownI_any H g R.length Z (pilF idF R) wb0 (unhide HG) (by rw [pilF_len]; exact Nat.le_refl _) (by omega))
        rw [pilF_len] at HCQ
        unfold gndV at HCQ
        refine (unhide HCQ).mono ?_
        rintro e wc0a ⟨g', rfl, hg', hG', hb⟩
        replace HW := hide (Below.step (unhide HW) hb)
        replace HB := hide ((unhide HB).step hb)
        replace HO := hide ((unhide HO).step hb)
        replace HA := hide ((unhide HA).step hb)
        replace HG := hide ((unhide HG).below hb)
        replace HBB := hide ((unhide HBB).step hb)
        have hsz := hb.size
        have HN := hide hG'
        have hgn := hG'.top.lt
        have hal := (unhide HA).lt
        clear hG'
        clear hb HCQ
        refine hK.out _ _ ⟨(unhide HB).cell (i := 0) rfl, (unhide HB).cell (i := 1) rfl, (unhide HO).cell (i := 1) rfl⟩ (fun hHeld => ?_)
        clear hK K
        try simp only [Act.put, List.setIfInBounds_toArray, List.set_cons_zero, List.set_cons_succ]
        refine wpAnyH_ready (rs := [5]) (by kernel_rfl) (by simp) ?_
        refine AllReadyH.cons rfl (fun K hK => ?_) AllReadyH.nil
        have rf0 := (unhide HBB).frozen 0
        have r0 := (unhide HBB).cell (i := 0) rfl
        have rf1 := (unhide HBB).frozen 1
        have r1 := (unhide HBB).cell (i := 1) rfl
        have HBN := hide (((unhide HBB).set 0 (.int .i64 H) (by simp)).set 1 (.slice (some ⟨g', 0, none⟩) R.length R.length) (by simp))
        have HKS : Hid (Kept (fun b => b = gb) wc0a ((wc0a.setCell ⟨gb, 0, none⟩ (.int .i64 H)).setCell ⟨gb, 1, none⟩ (.slice (some ⟨g', 0, none⟩) R.length R.length))) := (((Kept.refl (fun b => b = gb) _).setCell (p := ⟨gb, 0, none⟩) rfl _).setCell (p := ⟨gb, 1, none⟩) rfl _)
        have hWB := unhide HW
        replace HW := hide (below_kept hWB (unhide HKS) hWB.size (fun b e => by omega))
        clear hWB
        replace HB := hide ((unhide HB).kept (unhide HKS) (by omega))
        replace HO := hide ((unhide HO).kept (unhide HKS) (by omega))
        replace HA := hide ((unhide HA).kept (unhide HKS) (by omega))
        replace HG := hide ((unhide HG).kept (unhide HKS) (by omega) (fun k e => e ▸ noLink_own (unhide HBB) (fun q e => by cases e)))
        replace HN := hide ((unhide HN).kept (unhide HKS) (by omega) (fun k e => e ▸ noLink_own (unhide HBB) (fun q e => by cases e)))
        go_simp
        clear rf0 r0 rf1 r1
        refine hK.out _ _ ⟨(unhide HB).cell (i := 0) rfl, (unhide HB).cell (i := 1) rfl, (unhide HO).cell (i := 1) rfl⟩ (fun hHeld => ?_)
        clear hK K
        try simp only [Act.put, List.setIfInBounds_toArray, List.set_cons_zero, List.set_cons_succ]
        refine wpAnyH_take (i := 6) (v := ?_) rfl (by kernel_rfl) (by kernel_rfl) (by kernel_rfl) (fun _ _ _ h => h) (Or.inl ⟨by rfl, ?_⟩) (by assumption) ?_
        rotate_left
        · intro wy hSw
          obtain ⟨hS0, hS1, hS2⟩ := hSw
          go_simp
          try with_reducible rfl
        try simp only [Act.put, List.getElem_toArray, List.getElem_cons_succ, List.getElem_cons_zero, List.setIfInBounds_toArray, List.set_cons_zero, List.set_cons_succ]
        refine wpAnyH_done (by kernel_rfl) ?_ _
        go_wp2_with fail
        go_meet
        exact ⟨gb, g', rfl, rfl, by omega, by omega, by omega, HW, HB, HO, HA, HG, HBN, HN⟩
    case rest =>
      obtain ⟨gb, g', rfl, rfl, hgb, hg', hgg, HW2, HB2, HO2, HA2, HG2, HC, HN⟩ := hcut
      clear HW HB HO HA HG
      rcases unhide HKD hz with hk | hk | hk
      · subst hk
        obtain ⟨⟨s0, s1⟩, s2, hD⟩ := unhide HZI ((unhide EZ).symm.trans hz)
        have HD := hide ((unhide ED).trans hD)
        obtain ⟨i, ei⟩ : ∃ i : Nat, s = (i : Int) := ⟨s.toNat, by omega⟩
        subst ei
        rw [Int.toNat_natCast] at HD s2
        have h62 := (unhide HY).h2
        have HQ := hide (putI_any H g' R.length Z (pilF idF R) b i wc (unhide HN) (by rw [pilF_len]; omega) (by rw [pilF_len]; exact Nat.le_refl _) (by omega) (by rw [pilF_lens]; omega))
        have HPP := hide (put_pil (f := idF) (R := R) (b := i) (by omega) b)
        rw [show b :: (pilF idF R).getD i [] = idF b :: (pilF idF R).getD i [] from rfl, unhide HPP, pilF_len] at HQ
        unfold gndV at HQ
        clear hD s2 hz ezz h62 HN
        have x0 := (unhide HB2).cell (i := 0) rfl
        have x1 := (unhide HB2).cell (i := 1) rfl
        have o0 := (unhide HO2).cell (i := 0) rfl
        have o1 := (unhide HO2).cell (i := 1) rfl
        have o2 := (unhide HO2).cell (i := 2) rfl
        have c0 := (unhide HC).cell (i := 0) rfl
        have c1 := (unhide HC).cell (i := 1) rfl
        go_wp2_with fail
        refine (unhide HQ).mono ?_
        rintro e w3 ⟨rfl, Z3, hG, hk⟩
        replace HB2 := hide ((unhide HB2).kept hk (by omega))
        replace HO2 := hide ((unhide HO2).kept hk (by omega))
        replace HA2 := hide ((unhide HA2).kept hk (by omega))
        replace HC := hide ((unhide HC).kept hk (by omega))
        have hWB := unhide HW2
        replace HW2 := hide (below_kept hWB hk hWB.size (fun b e => by omega))
        clear hWB
        clear hk
        clear x0 x1 o0 o1 o2 c0 c1
        have HN := hide hG
        clear hG HQ
        have c0 := (unhide HC).cell (i := 0) rfl
        have c1 := (unhide HC).cell (i := 1) rfl
        have HKS : Hid (Kept (fun b => b = g0 + 1 + 1) w3 ((w3.setCell ⟨g0 + 1 + 1, 0, none⟩ (.int .i64 H)).setCell ⟨g0 + 1 + 1, 1, none⟩ (.slice (some ⟨g', 0, none⟩) R.length R.length))) := ((Kept.refl (fun b => b = g0 + 1 + 1) _).setCell (p := ⟨g0 + 1 + 1, 0, none⟩) rfl _).setCell (p := ⟨g0 + 1 + 1, 1, none⟩) rfl _
        have rf0 := (unhide HA2).frozen 0
        have rf1 := (unhide HA2).frozen 1
        have r0 := (unhide HA2).cell (i := 0) rfl
        have r1 := (unhide HA2).cell (i := 1) rfl
        have f0 := (((unhide HA2).set 0 (.int .i64 H) (by simp)).set 1 (.slice (some ⟨g', 0, none⟩) R.length R.length) (by simp)).cell (i := 0) rfl
        have f1 := (((unhide HA2).set 0 (.int .i64 H) (by simp)).set 1 (.slice (some ⟨g', 0, none⟩) R.length R.length) (by simp)).cell (i := 1) rfl
        have HT : Hid (∀ k, k = g0 + 1 + 1 → NoLink w3 k) := fun k e => e ▸ noLink_own (unhide HA2) (fun q e => by cases e)
        have hWB : Below w.heap.size w w3 := unhide HW2
        go_wp2
        refine bodyPost_ret (v := .tuple #[.agg #[.int .i64 H, .slice (some ⟨g', 0, none⟩) R.length R.length], .int .i64 0, .int .i64 0]) (by simp [results, Try.results47, go_sem, f0, f1]) rfl ?_
        have eD := unhide HD
        simp only [Prod.mk.injEq] at eD
        obtain ⟨e1, e2, e3⟩ := eD
        exact ⟨_, _, by rw [e2, e3], by rw [e1]; exact (unhide HN).kept (unhide HKS) (by omega) (unhide HT), below_kept hWB (unhide HKS) hWB.size (fun b e => by omega)⟩
      · subst hk
        obtain ⟨p, hp, hD⟩ := unhide HZO ((unhide EZ).symm.trans hz)
        have HD := hide ((unhide ED).trans hD)
        have HQ := hide (takeOut_any H b g' Z R p wc (unhide HN) (unhide HY) hp)
        unfold gndV at HQ
        have HNL := hide ((unhide HN).noInt (by rw [pilF_len]; omega))
        cases hoff : offY H p.1 ((R.getD p.1 []).length - (p.2 + 1)) R with
        | none =>
          rw [hoff] at HD
          dsimp only at HD
          clear hD hz ezz HN
          have x0 := (unhide HB2).cell (i := 0) rfl
          have x1 := (unhide HB2).cell (i := 1) rfl
          have o0 := (unhide HO2).cell (i := 0) rfl
          have o1 := (unhide HO2).cell (i := 1) rfl
          have o2 := (unhide HO2).cell (i := 2) rfl
          have c0 := (unhide HC).cell (i := 0) rfl
          have c1 := (unhide HC).cell (i := 1) rfl
          go_wp2_with fail
          refine (unhide HQ).mono ?_
          rintro e w3 ⟨hk, h1, h2⟩
          replace HB2 := hide ((unhide HB2).kept hk (by omega))
          replace HO2 := hide ((unhide HO2).kept hk (by omega))
          replace HA2 := hide ((unhide HA2).kept hk (by omega))
          replace HC := hide ((unhide HC).kept hk (by omega))
          have hWB := unhide HW2
          replace HW2 := hide (below_kept hWB hk hWB.size (fun b e => by omega))
          clear hWB
          replace HG2 := hide ((unhide HG2).kept hk (by omega) (unhide HNL))
          clear hk
          clear x0 x1 o0 o1 o2 c0 c1
          obtain rfl := h1 hoff
          clear h1 h2 hoff HQ hp HNL
          have c0 := (unhide HB2).cell (i := 0) rfl
          have c1 := (unhide HB2).cell (i := 1) rfl
          have HKS : Hid (Kept (fun b => b = g0 + 1 + 1) w3 ((w3.setCell ⟨g0 + 1 + 1, 0, none⟩ (.int .i64 H)).setCell ⟨g0 + 1 + 1, 1, none⟩ (.slice (some ⟨g, 0, none⟩) R.length R.length))) := ((Kept.refl (fun b => b = g0 + 1 + 1) _).setCell (p := ⟨g0 + 1 + 1, 0, none⟩) rfl _).setCell (p := ⟨g0 + 1 + 1, 1, none⟩) rfl _
          have rf0 := (unhide HA2).frozen 0
          have rf1 := (unhide HA2).frozen 1
          have r0 := (unhide HA2).cell (i := 0) rfl
          have r1 := (unhide HA2).cell (i := 1) rfl
          have f0 := (((unhide HA2).set 0 (.int .i64 H) (by simp)).set 1 (.slice (some ⟨g, 0, none⟩) R.length R.length) (by simp)).cell (i := 0) rfl
          have f1 := (((unhide HA2).set 0 (.int .i64 H) (by simp)).set 1 (.slice (some ⟨g, 0, none⟩) R.length R.length) (by simp)).cell (i := 1) rfl
          have HT : Hid (∀ k, k = g0 + 1 + 1 → NoLink w3 k) := fun k e => e ▸ noLink_own (unhide HA2) (fun q e => by cases e)
          have hWB : Below w.heap.size w w3 := unhide HW2
          go_wp2
          refine bodyPost_ret (v := .tuple #[.agg #[.int .i64 H, .slice (some ⟨g, 0, none⟩) R.length R.length], .int .i64 0, .int .i64 4]) (by simp [results, Try.results47, go_sem, f0, f1]) rfl ?_
          have eD := unhide HD
          simp only [Prod.mk.injEq] at eD
          obtain ⟨e1, e2, e3⟩ := eD
          exact ⟨_, _, by rw [e2, e3], by rw [e1]; exact (unhide HG2).kept (unhide HKS) (by omega) (unhide HT), below_kept hWB (unhide HKS) hWB.size (fun b e => by omega)⟩
        | some M =>
          rw [hoff] at HD
          dsimp only at HD
          clear hD hz ezz HN
          have x0 := (unhide HB2).cell (i := 0) rfl
          have x1 := (unhide HB2).cell (i := 1) rfl
          have o0 := (unhide HO2).cell (i := 0) rfl
          have o1 := (unhide HO2).cell (i := 1) rfl
          have o2 := (unhide HO2).cell (i := 2) rfl
          have c0 := (unhide HC).cell (i := 0) rfl
          have c1 := (unhide HC).cell (i := 1) rfl
          go_wp2_with fail
          refine (unhide HQ).mono ?_
          rintro e w3 ⟨hk, h1, h2⟩
          replace HB2 := hide ((unhide HB2).kept hk (by omega))
          replace HO2 := hide ((unhide HO2).kept hk (by omega))
          replace HA2 := hide ((unhide HA2).kept hk (by omega))
          replace HC := hide ((unhide HC).kept hk (by omega))
          have hWB := unhide HW2
          replace HW2 := hide (below_kept hWB hk hWB.size (fun b e => by omega))
          clear hWB
          replace HG2 := hide ((unhide HG2).kept hk (by omega) (unhide HNL))
          clear hk
          clear x0 x1 o0 o1 o2 c0 c1
          obtain ⟨rfl, Z9, hG⟩ := h2 M hoff
          have HN := hide hG
          clear h1 h2 hoff HQ hp HNL hG
          obtain ⟨q, eq⟩ : ∃ q, q = (((R.getD p.1 []).length - (p.2 + 1) : Nat) : Int) := ⟨_, rfl⟩
          rw [← eq] at HD ⊢
          clear eq
          have c0 := (unhide HC).cell (i := 0) rfl
          have c1 := (unhide HC).cell (i := 1) rfl
          have HKS : Hid (Kept (fun b => b = g0 + 1 + 1) w3 ((w3.setCell ⟨g0 + 1 + 1, 0, none⟩ (.int .i64 H)).setCell ⟨g0 + 1 + 1, 1, none⟩ (.slice (some ⟨g', 0, none⟩) R.length R.length))) := ((Kept.refl (fun b => b = g0 + 1 + 1) _).setCell (p := ⟨g0 + 1 + 1, 0, none⟩) rfl _).setCell (p := ⟨g0 + 1 + 1, 1, none⟩) rfl _
          have rf0 := (unhide HA2).frozen 0
          have rf1 := (unhide HA2).frozen 1
          have r0 := (unhide HA2).cell (i := 0) rfl
          have r1 := (unhide HA2).cell (i := 1) rfl
          have f0 := (((unhide HA2).set 0 (.int .i64 H) (by simp)).set 1 (.slice (some ⟨g', 0, none⟩) R.length R.length) (by simp)).cell (i := 0) rfl
          have f1 := (((unhide HA2).set 0 (.int .i64 H) (by simp)).set 1 (.slice (some ⟨g', 0, none⟩) R.length R.length) (by simp)).cell (i := 1) rfl
          have HT : Hid (∀ k, k = g0 + 1 + 1 → NoLink w3 k) := fun k e => e ▸ noLink_own (unhide HA2) (fun q e => by cases e)
          have hWB : Below w.heap.size w w3 := unhide HW2
          go_wp2
          refine bodyPost_ret (v := .tuple #[.agg #[.int .i64 H, .slice (some ⟨g', 0, none⟩) R.length R.length], .int .i64 q, .int .i64 0]) (by simp [results, Try.results47, go_sem, f0, f1]) rfl ?_
          have eD := unhide HD
          simp only [Prod.mk.injEq] at eD
          obtain ⟨e1, e2, e3⟩ := eD
          exact ⟨_, _, by rw [e2, e3], by rw [e1]; exact (unhide HN).kept (unhide HKS) (by omega) (unhide HT), below_kept hWB (unhide HKS) hWB.size (fun b e => by omega)⟩
      · subst hk
        obtain ⟨⟨s0, s1⟩, ⟨b0, b1⟩, hbs, s2, s3, hD⟩ := unhide HZS ((unhide EZ).symm.trans hz)
        have HD := hide ((unhide ED).trans hD)
        obtain ⟨i, ei⟩ : ∃ i : Nat, s = (i : Int) := ⟨s.toNat, by omega⟩
        subst ei
        obtain ⟨j, ej⟩ : ∃ j : Nat, b = (j : Int) := ⟨b.toNat, by omega⟩
        subst ej
        rw [Int.toNat_natCast, Int.toNat_natCast] at HD
        rw [Int.toNat_natCast] at s2 s3
        have h6 := (unhide HY).low j (by omega)
        have h62 := (unhide HY).h2
        have hjR : j < R.length := by omega
        have hLf : (pilF idF R).getD j [] = (R.getD j []).getLastD 0 :: pil idF (R.getD j []).dropLast := by rw [pilF_get idF hjR]; exact pil_idTop (by omega)
        have HQ := hide (liftI_any H g' R.length Z (pilF idF R) _ _ j wc (unhide HN) (by rw [pilF_len]; exact hjR) (by rw [pilF_len]; exact Nat.le_refl _) (by omega) hLf (by rw [pil_len, List.length_dropLast]; omega))
        rw [pilF_len, (lift_pil _ _ hjR hLf).2.2] at HQ
        unfold gndV at HQ
        obtain ⟨lst, el⟩ : ∃ z, z = (R.getD j []).getLastD 0 := ⟨_, rfl⟩
        have EL := hide el
        rw [← el] at HQ
        have hij : j ≠ i := by omega
        clear hD hz ezz HN b0 b1 el hLf
        have x0 := (unhide HB2).cell (i := 0) rfl
        have x1 := (unhide HB2).cell (i := 1) rfl
        have o0 := (unhide HO2).cell (i := 0) rfl
        have o1 := (unhide HO2).cell (i := 1) rfl
        have o2 := (unhide HO2).cell (i := 2) rfl
        have c0 := (unhide HC).cell (i := 0) rfl
        have c1 := (unhide HC).cell (i := 1) rfl
        go_wp2_with fail
        refine (unhide HQ).mono ?_
        rintro e w2 ⟨rfl, Z2, hG, hk⟩
        replace HB2 := hide ((unhide HB2).kept hk (by omega))
        replace HO2 := hide ((unhide HO2).kept hk (by omega))
        replace HA2 := hide ((unhide HA2).kept hk (by omega))
        replace HC := hide ((unhide HC).kept hk (by omega))
        have hWB := unhide HW2
        replace HW2 := hide (below_kept hWB hk hWB.size (fun b e => by omega))
        clear hWB
        clear hk
        clear x0 x1 o0 o1 o2 c0 c1
        have HN := hide hG
        clear hG HQ
        have HQ := hide (putI_any H g' R.length Z2 (pilF idF (R.set j (R.getD j []).dropLast)) lst i w2 (unhide HN) (by rw [pilF_len, List.length_set]; omega) (by rw [pilF_len, List.length_set]; exact Nat.le_refl _) (by omega) (by rw [pilF_lens, rowset_ne (fun e => hij e.symm)]; omega))
        have HST : Hid ((pilF idF (R.set j (R.getD j []).dropLast)).set i (lst :: (pilF idF (R.set j (R.getD j []).dropLast)).getD i []) = pilF idF (shiftY R j i)) := by
          show _ = _
          have e1 := put_pil (f := idF) (R := R.set j (R.getD j []).dropLast) (b := i) (by rw [List.length_set]; omega) lst
          rw [unhide EL, shift_two hij] at e1
          rw [unhide EL]
          exact e1
        rw [unhide HST, pilF_len, List.length_set] at HQ
        unfold gndV at HQ
        clear HST HN s2 s3 h6 h62
        have x0 := (unhide HB2).cell (i := 0) rfl
        have x1 := (unhide HB2).cell (i := 1) rfl
        have o0 := (unhide HO2).cell (i := 0) rfl
        have o1 := (unhide HO2).cell (i := 1) rfl
        have o2 := (unhide HO2).cell (i := 2) rfl
        have c0 := (unhide HC).cell (i := 0) rfl
        have c1 := (unhide HC).cell (i := 1) rfl
        go_wp2_with fail
        refine (unhide HQ).mono ?_
        rintro e w3 ⟨rfl, Z3, hG, hk⟩
        replace HB2 := hide ((unhide HB2).kept hk (by omega))
        replace HO2 := hide ((unhide HO2).kept hk (by omega))
        replace HA2 := hide ((unhide HA2).kept hk (by omega))
        replace HC := hide ((unhide HC).kept hk (by omega))
        have hWB := unhide HW2
        replace HW2 := hide (below_kept hWB hk hWB.size (fun b e => by omega))
        clear hWB
        clear hk
        clear x0 x1 o0 o1 o2 c0 c1
        have HN := hide hG
        clear hG HQ
        have c0 := (unhide HC).cell (i := 0) rfl
        have c1 := (unhide HC).cell (i := 1) rfl
        have HKS : Hid (Kept (fun b => b = g0 + 1 + 1) w3 ((w3.setCell ⟨g0 + 1 + 1, 0, none⟩ (.int .i64 H)).setCell ⟨g0 + 1 + 1, 1, none⟩ (.slice (some ⟨g', 0, none⟩) R.length R.length))) := ((Kept.refl (fun b => b = g0 + 1 + 1) _).setCell (p := ⟨g0 + 1 + 1, 0, none⟩) rfl _).setCell (p := ⟨g0 + 1 + 1, 1, none⟩) rfl _
        have rf0 := (unhide HA2).frozen 0
        have rf1 := (unhide HA2).frozen 1
        have r0 := (unhide HA2).cell (i := 0) rfl
        have r1 := (unhide HA2).cell (i := 1) rfl
        have f0 := (((unhide HA2).set 0 (.int .i64 H) (by simp)).set 1 (.slice (some ⟨g', 0, none⟩) R.length R.length) (by simp)).cell (i := 0) rfl
        have f1 := (((unhide HA2).set 0 (.int .i64 H) (by simp)).set 1 (.slice (some ⟨g', 0, none⟩) R.length R.length) (by simp)).cell (i := 1) rfl
        have HT : Hid (∀ k, k = g0 + 1 + 1 → NoLink w3 k) := fun k e => e ▸ noLink_own (unhide HA2) (fun q e => by cases e)
        have hWB : Below w.heap.size w w3 := unhide HW2
        go_wp2
        refine bodyPost_ret (v := .tuple #[.agg #[.int .i64 H, .slice (some ⟨g', 0, none⟩) R.length R.length], .int .i64 0, .int .i64 0]) (by simp [results, Try.results47, go_sem, f0, f1]) rfl ?_
        have eD := unhide HD
        simp only [Prod.mk.injEq] at eD
        obtain ⟨e1, e2, e3⟩ := eD
        exact ⟨_, _, by rw [e2, e3], by rw [e1]; exact (unhide HN).kept (unhide HKS) (by omega) (unhide HT), below_kept hWB (unhide HKS) hWB.size (fun b e => by omega)⟩
  · have ezz : (z != 0) = true := by simpa using hz
    have HD := hide ((unhide ED).trans (unhide HFD hz))
    have c0 := (unhide HB).cell (i := 0) rfl
    have c1 := (unhide HB).cell (i := 1) rfl
    have HKS : Hid (Kept (fun b => b = g0 + 1 + 1) w1 ((w1.setCell ⟨g0 + 1 + 1, 0, none⟩ (.int .i64 H)).setCell ⟨g0 + 1 + 1, 1, none⟩ (.slice (some ⟨g, 0, none⟩) R.length R.length))) := ((Kept.refl (fun b => b = g0 + 1 + 1) _).setCell (p := ⟨g0 + 1 + 1, 0, none⟩) rfl _).setCell (p := ⟨g0 + 1 + 1, 1, none⟩) rfl _
    have rf0 := (unhide HA).frozen 0
    have rf1 := (unhide HA).frozen 1
    have r0 := (unhide HA).cell (i := 0) rfl
    have r1 := (unhide HA).cell (i := 1) rfl
    have f0 := (((unhide HA).set 0 (.int .i64 H) (by simp)).set 1 (.slice (some ⟨g, 0, none⟩) R.length R.length) (by simp)).cell (i := 0) rfl
    have f1 := (((unhide HA).set 0 (.int .i64 H) (by simp)).set 1 (.slice (some ⟨g, 0, none⟩) R.length R.length) (by simp)).cell (i := 1) rfl
    have HT : Hid (∀ k, k = g0 + 1 + 1 → NoLink w1 k) := fun k e => e ▸ noLink_own (unhide HA) (fun q e => by cases e)
    have hWB : Below w.heap.size w w1 := unhide HW
    go_wp2
    refine bodyPost_ret (v := .tuple #[.agg #[.int .i64 H, .slice (some ⟨g, 0, none⟩) R.length R.length], .int .i64 0, .int .i64 z]) (by simp [results, Try.results47, go_sem, f0, f1]) rfl ?_
    have eD := unhide HD
    simp only [Prod.mk.injEq] at eD
    obtain ⟨e1, e2, e3⟩ := eD
    exact ⟨_, _, by rw [e2, e3], by rw [e1]; exact (unhide HG).kept (unhide HKS) (by omega) (unhide HT), below_kept hWB (unhide HKS) hWB.size (fun b e => by omega)⟩

end Go.Proofs.Ytjllilmiloippaa

namespace Go.Proofs.Ytjllilmiloippaa
open Go.RowKit

theorem OwnRows.keptR {T : Nat → Prop} {B : Nat} {w w' : World} {g : Nat} {G C : Nat → Nat} {R : List (List Int)} (h : OwnRows B w g G C R) (hk : Kept T w w') (hT : ∀ b, B ≤ b → ¬ T b) : OwnRows B w' g G C R :=
  ⟨h.base, h.top.kept hk (hT g h.base), fun r hr => (h.rows r hr).kept hk (hT _ (h.above r hr).1), h.caps, h.above, h.apart⟩
theorem made_ints (m : Nat) : (madeCells #[.int .i64 0] m).toList = ints (List.replicate m 0) := by
  apply List.ext_getElem?
  intro q
  by_cases hq : q < m
  · simp [madeCells, ints, hq, Nat.mod_one]
  · rw [List.getElem?_eq_none (by simp [madeCells]; omega), List.getElem?_eq_none (by simp [ints]; omega)]

section
variable {w wr : World} {M M' : List (List Int)} {k : Nat} {G C : Nat → Nat}
theorem FillM.change (h : FillM w wr M k G C) (hl : M'.length = M.length) (hr : ∀ r, r < k → M'.getD r [] = M.getD r []) : FillM w wr M' k G C :=
  ⟨h.below, by rw [hl]; exact h.top.congr (fun r _ => by
      by_cases e : r < k
      · rw [if_pos e, if_pos e, hr r e]
      · rw [if_neg e, if_neg e]), fun r e => by rw [hr r e]; exact h.rows r e, fun r e => by rw [hr r e]; exact h.caps r e, h.above, h.apart⟩
theorem FillM.store {t : Nat} {x : Int} (h : FillM w wr M (k + 1) G C) (hk : k < M.length) (ht : t < (M.getD k []).length) : FillM w (wr.setCell ⟨G k, t, none⟩ (.int .i64 x)) (M.set k ((M.getD k []).set t x)) (k + 1) G C := by
  have hK : Kept (fun b => b = G k) wr (wr.setCell ⟨G k, t, none⟩ (.int .i64 x)) := (Kept.refl (fun b => b = G k) wr).setCell (p := ⟨G k, t, none⟩) rfl _
  have hab := h.above k (Nat.lt_succ_self k)
  have hlen : ∀ r, r < k + 1 → ((M.set k ((M.getD k []).set t x)).getD r []).length = (M.getD r []).length := fun r _ => by
    by_cases e : r = k
    · subst e; rw [rowset_self hk, List.length_set]
    · rw [rowset_ne e]
  refine ⟨h.below.setCell (Nat.le_of_lt hab) _, ?_, fun r hr => ?_, fun r hr => by rw [hlen r hr]; exact h.caps r hr, h.above, h.apart⟩
  · rw [List.length_set]
    refine (h.top.of_block (hK.block _ h.top.lt (fun e => by omega))).congr (fun r _ => ?_)
    by_cases e : r < k + 1
    · rw [if_pos e, if_pos e, hlen r e]
    · rw [if_neg e, if_neg e]
  · by_cases e : r = k
    · subst e
      rw [rowset_self hk]
      have := (h.rows r hr).set t (.int .i64 x) (by simp [ints]; exact ht)
      have e2 : (ints (M.getD r [])).set t (.int .i64 x) = ints ((M.getD r []).set t x) := by simp [ints, List.map_set]
      rwa [e2] at this
    · rw [rowset_ne e]
      exact (h.rows r hr).kept hK (h.apart r k hr (Nat.lt_succ_self k) e)
theorem FillM.step {w' : World} (h : FillM w wr M k G C) (hb : Below wr.heap.size wr w') : FillM w w' M k G C := ⟨Below.step h.below hb, h.top.of_block (hb.block _ h.top.lt), fun r hr => (h.rows r hr).step hb, h.caps, h.above, h.apart⟩
theorem FillM.at (h : FillM w wr M k G C) {r : Nat} (hr : r < k) (hl : r < M.length) : wr.cell? ⟨w.heap.size, r, none⟩ = some (.slice (some ⟨G r, 0, none⟩) (M.getD r []).length (C r)) := by
  have := h.top.cell (i := r) hl
  rwa [if_pos hr] at this
end

/-- What a call answers that makes a yard of its own. -/
def YdA (w : World) (H : Int) (R : List (List Int)) (e : Ending) (w' : World) : Prop := ∃ g G C cap, e = .returned (yardV H (.slice (some ⟨g, 0, none⟩) R.length cap)) ∧ R.length ≤ cap ∧ cap ≤ maxLen ∧ OwnRows w.heap.size w' g G C R ∧ Below w.heap.size w w'

set_option maxRecDepth 10000 in
set_option maxHeartbeats 3200000 in
theorem ownYard_any (H : Int) (v : Value) (R : List (List Int)) (w : World) (h : RowsIn w v R) (hn : R.length ≤ 1048576) (hl : ∀ s, s < R.length → (R.getD s []).length ≤ 1048576) :
    Calls Try.prog 46 #[yardV H v] w fun e w' => YdA w H R e w' := by
  have HV := hide h
  have HL := hide hl
  clear hl
  obtain ⟨ao, cap, rfl, hc1, hc2⟩ := rows_cap h
  clear h
  have hmk := run_make_row' (P := Try.prog) 24 30 (.slice none 0 0) 24 Try.underlying24 Try.info30 rfl .i64 .i64 R.length (by omega) (by omega)
  unfold yardV
  go_enter Try.func46, Try.ntmps46
  go_upto_region 1 with (fail)
  obtain ⟨g0, eg0⟩ : ∃ z, z = w.heap.size := ⟨_, rfl⟩
  obtain ⟨W, eW⟩ : ∃ z, z = (w.alloc (.cells #[.int .i64 H, .slice ao R.length cap] 26)).alloc (.cells #[.int .i64 0, .slice none 0 0] 26) := ⟨_, rfl⟩
  have HW : Hid (Below w.heap.size w W) := by rw [eW]; exact Below.step (Below.alloc1 _ _) (Below.alloc1 _ _)
  have HB : Hid (OwnV W g0 [.int .i64 H, .slice ao R.length cap]) := by rw [eW, eg0]; exact (ownV_alloc _ _ _).step (Below.alloc1 _ _)
  have HA : Hid (OwnV W (g0 + 1) [.int .i64 0, .slice none 0 0]) := by rw [eW, eg0]; exact own_new _ _ _ _ (by simp)
  rw [← eW, ← eg0]
  have hg0 : w.heap.size ≤ g0 := by omega
  clear eW eg0
  have hgW : g0 + 1 < W.heap.size := (unhide HA).lt
  have b1 := (unhide HB).cell (i := 1) rfl
  have b1' := ((unhide HB).step (Below.alloc1 W (.cells (madeCells #[.slice none 0 0] R.length) 30))).cell (i := 1) rfl
  go_wp2
  clear hmk b1 b1'
  go_loopg [13] R.length (fun gh iv wr => ∃ k : Nat, ∃ G C, k ≤ R.length ∧ gh = R.length - k ∧ iv = .int .i64 k ∧ FillM W wr R k G C)
  case atStart => exact ⟨0, _, _, Nat.zero_le _, rfl, rfl, fillM_start _ _ _ rfl⟩
  case round =>
    obtain ⟨k, G, C, hk, rfl, rfl, hF⟩ := hrel
    have HWr := hide (Below.step (unhide HW) hF.below)
    have HF := hide hF
    clear hF
    by_cases hkn : k < R.length
    · have hki : (k : Int) < (R.length : Int) := by omega
      obtain ⟨bb, ob, eao, hcl⟩ := rows_at (unhide HV) (by omega)
      subst eao
      obtain ⟨ar, m, cr, hcell, hrow, EM, hm1, hm2⟩ := hcl wr (unhide HWr) k hkn
      have hml := unhide HL k hkn
      rw [unhide EM] at hml
      have HQ := hide (ownCopyInt_any ar m cr _ wr hrow hml)
      unfold maxLen at hm2
      clear hcl hrow
      go_wp2_with fail
      refine (unhide HQ).mono ?_
      rintro e w3 ⟨rfl, hov, hb3⟩
      have HN := hide (fillM_step (unhide HF) (Below.refl _ _) (Nat.le_refl _) hov hb3 (cap := m) (by rw [unhide EM]; exact Nat.le_refl _) (by unfold maxLen; omega))
      rw [unhide EM] at HN
      have hbt := (unhide HF).top.of_block (hb3.block _ (unhide HF).top.lt)
      have t1 : w3.cell? ⟨W.heap.size, k, none⟩ = some (.slice none 0 0) := by
        have h3 := hbt.cell (i := k) hkn
        rwa [if_neg (Nat.lt_irrefl k)] at h3
      have t2 : w3.frozen? ⟨W.heap.size, k, none⟩ = false := hbt.frozen k
      clear hov hb3 hbt hcell HQ
      go_wp2
      go_roundg (R.length - (k + 1))
      case measure => omega
      case rel => exact ⟨k + 1, _, _, by omega, rfl, by go_num, unhide HN⟩
    · have hkk : k = R.length := by omega
      have HF' : Hid (FillM W wr R R.length G C) := by have h1 := unhide HF; rw [hkk] at h1; exact h1
      replace HB := hide ((unhide HB).step (unhide HF).below)
      replace HA := hide ((unhide HA).step (unhide HF).below)
      have b0 := (unhide HB).cell (i := 0) rfl
      have r0 := (unhide HA).cell (i := 0) rfl
      have r1 := (unhide HA).cell (i := 1) rfl
      have rf0 := (unhide HA).frozen 0
      have rf1 := (unhide HA).frozen 1
      have hWB := Below.step (unhide HW) (unhide HF').below
      have HZ := hide (fillM_done (unhide HF'))
      obtain ⟨gz, egz⟩ : ∃ z, z = W.heap.size := ⟨_, rfl⟩
      rw [← egz] at HZ ⊢
      have hgz : g0 + 1 < gz := by omega
      have HKS : Hid (Kept (fun b => b = g0 + 1) wr ((wr.setCell ⟨g0 + 1, 0, none⟩ (.int .i64 H)).setCell ⟨g0 + 1, 1, none⟩ (.slice (some ⟨gz, 0, none⟩) R.length R.length))) := ((Kept.refl (fun b => b = g0 + 1) _).setCell (p := ⟨g0 + 1, 0, none⟩) rfl _).setCell (p := ⟨g0 + 1, 1, none⟩) rfl _
      have f0 := (((unhide HA).set 0 (.int .i64 H) (by simp)).set 1 (.slice (some ⟨gz, 0, none⟩) R.length R.length) (by simp)).cell (i := 0) rfl
      have f1 := (((unhide HA).set 0 (.int .i64 H) (by simp)).set 1 (.slice (some ⟨gz, 0, none⟩) R.length R.length) (by simp)).cell (i := 1) rfl
      clear egz hkk
      go_wp2
      refine bodyPost_ret (v := .agg #[.int .i64 H, .slice (some ⟨gz, 0, none⟩) R.length R.length]) (by simp [results, Try.results46, go_sem, f0, f1]) rfl ?_
      exact ⟨gz, G, C, R.length, rfl, Nat.le_refl _, by unfold maxLen; omega, ((unhide HZ).keptR (unhide HKS) (fun b h1 e => by omega)).mono (by omega), below_kept hWB (unhide HKS) hWB.size (fun b e => by omega)⟩

set_option maxRecDepth 10000 in
set_option maxHeartbeats 6400000 in
theorem yardOf_any (H : Int) (g : Nat) (Z : List (Option Addr × Nat)) (R : List (List Int)) (w : World) (h : Gnd w g Z (pilF idF R)) (hn : R.length ≤ 12) (hl : ∀ s, s < R.length → (R.getD s []).length ≤ 6) :
    Calls Try.prog 49 #[gndV H g R.length R.length] w fun e w' => YdA w H R e w' := by
  have HG := hide h
  have HL := hide hl
  clear hl h
  have hmk := run_make_row' (P := Try.prog) 24 30 (.slice none 0 0) 24 Try.underlying24 Try.info30 rfl .i64 .i64 R.length (by omega) (by omega)
  unfold gndV
  go_enter Try.func49, Try.ntmps49
  go_upto_region 1 with (fail)
  obtain ⟨g0, eg0⟩ : ∃ z, z = w.heap.size := ⟨_, rfl⟩
  obtain ⟨W, eW⟩ : ∃ z, z = (w.alloc (.cells #[.int .i64 H, .slice (some ⟨g, 0, none⟩) R.length R.length] 73)).alloc (.cells #[.int .i64 0, .slice none 0 0] 26) := ⟨_, rfl⟩
  have HW : Hid (Below w.heap.size w W) := by rw [eW]; exact Below.step (Below.alloc1 _ _) (Below.alloc1 _ _)
  have HB : Hid (OwnV W g0 [.int .i64 H, .slice (some ⟨g, 0, none⟩) R.length R.length]) := by rw [eW, eg0]; exact (ownV_alloc _ _ _).step (Below.alloc1 _ _)
  have HA : Hid (OwnV W (g0 + 1) [.int .i64 0, .slice none 0 0]) := by rw [eW, eg0]; exact own_new _ _ _ _ (by simp)
  rw [← eW, ← eg0]
  have hg0 : w.heap.size ≤ g0 := by omega
  clear eW eg0
  replace HG := hide ((unhide HG).below (unhide HW))
  have hgW : g0 + 1 < W.heap.size := (unhide HA).lt
  have b1 := (unhide HB).cell (i := 1) rfl
  have b1' := ((unhide HB).step (Below.alloc1 W (.cells (madeCells #[.slice none 0 0] R.length) 30))).cell (i := 1) rfl
  go_wp2
  clear hmk b1 b1'
  obtain ⟨gl, egl⟩ : ∃ z, z = W.heap.size := ⟨_, rfl⟩
  have EGL := hide egl
  rw [← egl]
  go_loopg [15] R.length (fun gh iv wr => ∃ k : Nat, ∃ G C, k ≤ R.length ∧ gh = R.length - k ∧ iv = .int .i64 k ∧ FillM W wr R k G C)
  case atStart => exact ⟨0, _, _, Nat.zero_le _, rfl, rfl, fillM_start _ _ _ rfl⟩
  case round =>
    clear egl
    obtain ⟨k, G, C, hk, rfl, rfl, hF⟩ := hrel
    have HF := hide hF
    clear hF
    by_cases hkn : k < R.length
    · have hki : (k : Int) < (R.length : Int) := by omega
      have hkP : k < (pilF idF R).length := by rw [pilF_len]; exact hkn
      obtain ⟨p0, p1⟩ := ((unhide HG).below (unhide HF).below).at hkP
      have HLK := hide ((unhide HG).lnk k hkP)
      rw [pilF_get idF hkn] at HLK
      rw [pilF_row hkn] at p1
      have hm6 := unhide HL k hkn
      obtain ⟨m, em⟩ : ∃ m, (R.getD k []).length = m := ⟨_, rfl⟩
      rw [em] at p1 hm6
      have EM := hide em
      clear em
      obtain ⟨p, ep⟩ : ∃ p, (Z.getD k default).1 = p := ⟨_, rfl⟩
      rw [ep] at p0 HLK
      clear ep
      have hmk := run_make_row' (P := Try.prog) 30 3 (.int .i64 0) 8 Try.underlying30 Try.info3 rfl .i64 .i64 m (by omega) (by omega)
      go_upto_region 5 with (fail)
      obtain ⟨g5, eg5⟩ : ∃ z, z = wr.heap.size := ⟨_, rfl⟩
      obtain ⟨W2, eW⟩ : ∃ z, z = wr.alloc (.cells #[.pointer p, .int .i64 (m : Int)] 115) := ⟨_, rfl⟩
      have HB2 : Hid (Below wr.heap.size wr W2) := by rw [eW]; exact Below.alloc1 _ _
      have HPB : Hid (OwnV W2 g5 [.pointer p, .int .i64 (m : Int)]) := by rw [eW, eg5]; exact ownV_alloc _ _ _
      rw [← eW, ← eg5]
      have hgl5 : gl < g5 := by rw [unhide EGL, eg5]; exact (unhide HF).top.lt
      clear eW eg5 p0 p1
      obtain ⟨gq, egq⟩ : ∃ z, z = W2.heap.size := ⟨_, rfl⟩
      obtain ⟨W3, eW⟩ : ∃ z, z = W2.alloc (.cells (madeCells #[.int .i64 0] m) 3) := ⟨_, rfl⟩
      have HB3 : Hid (Below W2.heap.size W2 W3) := by rw [eW]; exact Below.alloc1 _ _
      have HOK : Hid (OwnV W3 gq (ints (List.replicate m 0))) := by rw [eW, egq, ← made_ints]; exact ownV_alloc _ _ _
      have hg5k : g5 < gq := by rw [egq]; exact (unhide HPB).lt
      have HFZ : Hid (FillM W wr (R.set k (List.replicate m 0)) k G C) := (unhide HF).change (by rw [List.length_set]) (fun r hr => rowset_ne (by omega))
      have e0 : (R.set k (List.replicate m 0)).getD k [] = List.replicate m 0 := rowset_self hkn
      have HN := hide (fillM_step (unhide HFZ) (unhide HB2) (Nat.le_of_eq egq.symm) (by rw [e0]; exact unhide HOK) (unhide HB3) (cap := m) (by rw [e0, List.length_replicate]; exact Nat.le_refl _) (by unfold maxLen; omega))
      rw [e0, List.length_replicate] at HN
      have hbt := ((unhide HF).top.of_block ((unhide HB2).block _ (unhide HF).top.lt)).of_block ((unhide HB3).block _ (Nat.lt_of_lt_of_le (unhide HF).top.lt (unhide HB2).size))
      have t1 : W3.cell? ⟨W.heap.size, k, none⟩ = some (.slice none 0 0) := by
        have h3 := hbt.cell (i := k) hkn
        rwa [if_neg (Nat.lt_irrefl k)] at h3
      have t2 : W3.frozen? ⟨W.heap.size, k, none⟩ = false := hbt.frozen k
      rw [← unhide EGL] at t1 t2 HN
      have b1 := (unhide HPB).cell (i := 1) rfl
      rw [eW] at t1 t2
      go_upto_region 6 with (fail)
      rw [← eW, ← egq]
      obtain ⟨W4, eW4⟩ : ∃ z, z = W3.setCell ⟨gl, k, none⟩ (.slice (some ⟨gq, 0, none⟩) m m) := ⟨_, rfl⟩
      replace HPB : Hid (OwnV W4 g5 [.pointer p, .int .i64 (m : Int)]) := by rw [eW4]; exact ((unhide HPB).step (unhide HB3)).other (by show g5 ≠ gl; omega) _
      rw [← eW4] at HN ⊢
      obtain ⟨G2, eG⟩ : ∃ z, z = fun r => if r = k then gq else G r := ⟨_, rfl⟩
      obtain ⟨C2, eC⟩ : ∃ z, z = fun r => if r = k then m else C r := ⟨_, rfl⟩
      have hG2 : G2 k = gq := by rw [eG]; exact if_pos rfl
      have hC2 : C2 k = m := by rw [eC]; exact if_pos rfl
      rw [← eG, ← eC] at HN
      clear eW egq eW4 eG eC t1 t2 hbt b1 hmk HFZ HOK HB3 HB2 HF
      have b0 := (unhide HPB).cell (i := 0) rfl
      have b1 := (unhide HPB).cell (i := 1) rfl
      have HR0 : Hid (pil idF (R.getD k []) = pil idF ((R.getD k []).take m)) := by show _ = _; rw [← unhide EM, List.take_length]
      rw [unhide HR0] at HLK
      go_wp2
      clear b0 b1 HPB HR0
      go_loopg [6, 7] m (fun gh tv pv wr => ∃ (n : Nat) (q : Option Addr) (cur : List Int), gh = n ∧ n ≤ m ∧ tv = .int .i64 (n : Int) ∧ pv = .pointer q ∧ Hid (Lnk W (pil idF ((R.getD k []).take n)) q) ∧ Hid (cur.length = m ∧ ∀ u, n ≤ u → u < m → cur.getD u 0 = (R.getD k []).getD u 0) ∧ Hid (FillM W wr (R.set k cur) (k + 1) G2 C2))
      case atStart => exact ⟨m, p, _, rfl, Nat.le_refl _, rfl, rfl, HLK, ⟨List.length_replicate, fun u h1 h2 => by omega⟩, HN⟩
      case round =>
        clear HLK HN
        obtain ⟨n, q, cur, rfl, hnm, rfl, rfl, HLK, HCU, HN⟩ := hrel
        cases gk with
        | zero =>
          have ep : q = none := unhide HLK
          subst ep
          have HFN : Hid (FillM W wr R (k + 1) G2 C2) := by
            have e1 : cur = R.getD k [] := by
              obtain ⟨h1, h2⟩ := unhide HCU
              apply List.ext_getElem?
              intro u
              by_cases hu : u < m
              · have h3 := h2 u (Nat.zero_le _) hu
                have hu1 : u < cur.length := by omega
                have hu2 : u < (R.getD k []).length := by rw [unhide EM]; exact hu
                rw [getD_lt hu1, getD_lt hu2] at h3
                rw [List.getElem?_eq_getElem hu1, List.getElem?_eq_getElem hu2, h3]
              · rw [List.getElem?_eq_none (by omega), List.getElem?_eq_none (by rw [unhide EM]; omega)]
            refine (unhide HN).change (by rw [List.length_set]) (fun r _ => ?_)
            by_cases e : r = k
            · subst e; rw [rowset_self hkn, e1]
            · rw [rowset_ne e]
          go_wp2
          go_roundg (R.length - (k + 1))
          case measure => omega
          case rel => exact ⟨k + 1, _, _, by omega, rfl, by go_num, unhide HFN⟩
        | succ n =>
          have hnl : n < (R.getD k []).length := by rw [unhide EM]; omega
          have hLs := unhide HLK
          rw [pil_succ idF hnl] at hLs
          obtain ⟨g2, q2, rfl, hoy, hly⟩ := hLs
          have HLY := hide hly
          have HOY := hide (hoy.step (unhide HN).below)
          have hg2 : g2 < W.heap.size := hoy.lt
          have hgk1 := (unhide HN).above k (Nat.lt_succ_self k)
          rw [hG2] at hgk1
          have hcl := (unhide HCU).1
          have hat := (unhide HN).at (r := k) (Nat.lt_succ_self k) (by rw [List.length_set]; exact hkn)
          rw [rowset_self hkn, hG2, hC2, hcl, ← unhide EGL] at hat
          have HCU2 : Hid ((cur.set n (idF ((R.getD k []).getD n 0))).length = m ∧ ∀ u, n ≤ u → u < m → (cur.set n (idF ((R.getD k []).getD n 0))).getD u 0 = (R.getD k []).getD u 0) := by
            refine ⟨by rw [List.length_set]; exact hcl, fun u h1 h2 => ?_⟩
            by_cases e : u = n
            · subst e
              simp [List.getD, show u < cur.length by omega, idF]
            · have := (unhide HCU).2 u (by omega) h2
              simpa [List.getD, List.getElem?_set_ne (fun x => e x.symm)] using this
          have HROW := hide ((unhide HN).rows k (Nat.lt_succ_self k))
          rw [rowset_self hkn, hG2] at HROW
          have HN2 := hide fun W' (hb : Below wr.heap.size wr W') => ((unhide HN).step hb).store (t := n) (x := idF ((R.getD k []).getD n 0)) (by rw [List.length_set]; exact hkn) (by rw [rowset_self hkn]; omega)
          simp only [rowset_self hkn, hG2, List.set_set] at HN2
          generalize idF ((R.getD k []).getD n 0) = y at *
          have hni : (n : Int) < (m : Int) := by omega
          have hn1w : ((n + 1 : Nat) : Int) - 1 = (n : Int) := by omega
          have hggk : ¬ gl = gq := by rw [unhide EGL]; omega
          have hg2k : ¬ g2 = gq := by omega
          have HHL : Hid (gl < wr.heap.size) := by show _ < _; rw [unhide EGL]; exact (unhide HN).top.lt
          have HAT := hide hat
          have HX0 : Hid (∃ z, wr.cell? ⟨gq, n, none⟩ = some z) := ⟨_, (unhide HROW).cell (ints_get _ (by omega))⟩
          have HFR := hide ((unhide HROW).frozen n)
          have hncur : n < cur.length := by omega
          clear hat hgk1 hcl HCU HN hoy hly HLK
          go_upto_region 11 with (fail)
          obtain ⟨wd, ewd⟩ : ∃ z, z = wr.drew := ⟨_, rfl⟩
          have hb : Below wr.heap.size wr wd := by rw [ewd]; exact (Below.refl _ _).drew
          have hat2 : wd.cell? ⟨gl, k, none⟩ = some (.slice (some ⟨gq, 0, none⟩) m m) := (hb.cell (unhide HHL)).trans (unhide HAT)
          replace HOY := hide ((unhide HOY).step hb)
          replace HROW := hide ((unhide HROW).step hb)
          refine wp_region_held_drew (S := fun w' => w'.cell? ⟨gl, k, none⟩ = some (.slice (some ⟨gq, 0, none⟩) m m) ∧ w'.cell? ⟨g2, 0, none⟩ = some (.int .i64 y)) (by kernel_rfl) ⟨by rw [← ewd]; exact hat2, by rw [← ewd]; exact (unhide HOY).cell (i := 0) rfl⟩ (fun hHeld => ?_)
          rw [← ewd] at hHeld ⊢
          have HN3 := hide (unhide HN2 wd hb)
          clear ewd hb HN2
          refine wpAnyH_take (i := 0) (v := ?_) rfl (by kernel_rfl) (by kernel_rfl) (by kernel_rfl) (fun _ _ _ h => h) (Or.inl ⟨by rfl, ?_⟩) (by assumption) ?_
          rotate_left
          · intro wy hSw
            obtain ⟨hS0, hS1⟩ := hSw
            go_simp
            try with_reducible rfl
          try simp only [Act.put, List.getElem_toArray, List.getElem_cons_zero, List.setIfInBounds_toArray, List.set_cons_zero, List.set_cons_succ]
          refine wpAnyH_take (i := 1) (v := ?_) rfl (by kernel_rfl) (by kernel_rfl) (by kernel_rfl) (fun _ _ _ h => h) (Or.inl ⟨by rfl, ?_⟩) (by assumption) ?_
          rotate_left
          · intro wy hSw
            obtain ⟨hS0, hS1⟩ := hSw
            go_simp
            try with_reducible rfl
          try simp only [Act.put, List.getElem_toArray, List.getElem_cons_succ, List.getElem_cons_zero, List.setIfInBounds_toArray, List.set_cons_zero, List.set_cons_succ]
          refine wpAnyH_take (i := 2) (v := ?_) rfl (by kernel_rfl) (by kernel_rfl) (by kernel_rfl) (fun _ _ _ h => h) (Or.inl ⟨by rfl, ?_⟩) (by assumption) ?_
          rotate_left
          · intro wy hSw
            obtain ⟨hS0, hS1⟩ := hSw
            go_simp
            try with_reducible rfl
          try simp only [Act.put, List.getElem_toArray, List.getElem_cons_succ, List.getElem_cons_zero, List.setIfInBounds_toArray, List.set_cons_zero, List.set_cons_succ]
          refine wpAnyH_take (i := 3) (v := ?_) rfl (by kernel_rfl) (by kernel_rfl) (by kernel_rfl) (fun _ _ _ h => h) (Or.inl ⟨by rfl, ?_⟩) (by assumption) ?_
          rotate_left
          · intro wy hSw
            obtain ⟨hS0, hS1⟩ := hSw
            go_simp
            try with_reducible rfl
          try simp only [Act.put, List.getElem_toArray, List.getElem_cons_succ, List.getElem_cons_zero, List.setIfInBounds_toArray, List.set_cons_zero, List.set_cons_succ]
          refine wpAnyH_take (i := 4) (v := ?_) rfl (by kernel_rfl) (by kernel_rfl) (by kernel_rfl) (fun _ _ _ h => h) (Or.inl ⟨by rfl, ?_⟩) (by assumption) ?_
          rotate_left
          · intro wy hSw
            obtain ⟨hS0, hS1⟩ := hSw
            go_simp
            try with_reducible rfl
          try simp only [Act.put, List.getElem_toArray, List.getElem_cons_succ, List.getElem_cons_zero, List.setIfInBounds_toArray, List.set_cons_zero, List.set_cons_succ]
          refine wpAnyH_take (i := 5) (v := ?_) rfl (by kernel_rfl) (by kernel_rfl) (by kernel_rfl) (fun _ _ _ h => h) (Or.inl ⟨by rfl, ?_⟩) (by assumption) ?_
          rotate_left
          · intro wy hSw
            obtain ⟨hS0, hS1⟩ := hSw
            go_simp
            try with_reducible rfl
          try simp only [Act.put, List.getElem_toArray, List.getElem_cons_succ, List.getElem_cons_zero, List.setIfInBounds_toArray, List.set_cons_zero, List.set_cons_succ]
          refine wpAnyH_take (i := 6) (v := ?_) rfl (by kernel_rfl) (by kernel_rfl) (by kernel_rfl) (fun _ _ _ h => h) (Or.inl ⟨by rfl, ?_⟩) (by assumption) ?_
          rotate_left
          · intro wy hSw
            obtain ⟨hS0, hS1⟩ := hSw
            go_simp
            try with_reducible rfl
          try simp only [Act.put, List.getElem_toArray, List.getElem_cons_succ, List.getElem_cons_zero, List.setIfInBounds_toArray, List.set_cons_zero, List.set_cons_succ]
          refine wpAnyH_take (i := 7) (v := ?_) rfl (by kernel_rfl) (by kernel_rfl) (by kernel_rfl) (fun _ _ _ h => h) (Or.inl ⟨by rfl, ?_⟩) (by assumption) ?_
          rotate_left
          · intro wy hSw
            obtain ⟨hS0, hS1⟩ := hSw
            go_simp
            try with_reducible rfl
          try simp only [Act.put, List.getElem_toArray, List.getElem_cons_succ, List.getElem_cons_zero, List.setIfInBounds_toArray, List.set_cons_zero, List.set_cons_succ]
          refine wpAnyH_take (i := 8) (v := ?_) rfl (by kernel_rfl) (by kernel_rfl) (by kernel_rfl) (fun _ _ _ h => h) (Or.inl ⟨by rfl, ?_⟩) (by assumption) ?_
          rotate_left
          · intro wy hSw
            obtain ⟨hS0, hS1⟩ := hSw
            go_simp
            try with_reducible rfl
          try simp only [Act.put, List.getElem_toArray, List.getElem_cons_succ, List.getElem_cons_zero, List.setIfInBounds_toArray, List.set_cons_zero, List.set_cons_succ]
          refine wpAnyH_take (i := 9) (v := ?_) rfl (by kernel_rfl) (by kernel_rfl) (by kernel_rfl) (fun _ _ _ h => h) (Or.inl ⟨by rfl, ?_⟩) (by assumption) ?_
          rotate_left
          · intro wy hSw
            obtain ⟨hS0, hS1⟩ := hSw
            go_simp
            try with_reducible rfl
          try simp only [Act.put, List.getElem_toArray, List.getElem_cons_succ, List.getElem_cons_zero, List.setIfInBounds_toArray, List.set_cons_zero, List.set_cons_succ]
          refine wpAnyH_ready (rs := [10]) (by kernel_rfl) (by simp) ?_
          refine AllReadyH.cons rfl (fun K hK => ?_) AllReadyH.nil
          obtain ⟨zz, hzz⟩ : ∃ z, wd.cell? ⟨gq, n, none⟩ = some (.int .i64 z) := ⟨_, (unhide HROW).cell (ints_get _ (by omega))⟩
          have hfr := (unhide HROW).frozen n
          have HKS : Hid (Kept (fun b => b = gq) wd (wd.setCell ⟨gq, n, none⟩ (.int .i64 y))) := (Kept.refl (fun b => b = gq) _).setCell (p := ⟨gq, n, none⟩) rfl _
          have hat3 : (wd.setCell ⟨gq, n, none⟩ (.int .i64 y)).cell? ⟨gl, k, none⟩ = some (.slice (some ⟨gq, 0, none⟩) m m) := (World.cell?_of_block ((unhide HKS).block gl (lt_of_cell hat2) hggk)).trans hat2
          replace HOY := hide ((unhide HOY).kept (unhide HKS) hg2k)
          go_simp
          clear hzz hfr hat2
          refine hK.out _ _ ⟨hat3, (unhide HOY).cell (i := 0) rfl⟩ (fun hHeld => ?_)
          clear hK K
          try simp only [Act.put, List.setIfInBounds_toArray, List.set_cons_zero, List.set_cons_succ]
          refine wpAnyH_done (by kernel_rfl) ?_ _
          have y1 := (unhide HOY).cell (i := 1) rfl
          go_wp2
          go_roundg n
          case measure => omega
          case rel => exact ⟨n, q2, _, rfl, by omega, by go_num, rfl, HLY, HCU2, HN3⟩
    · have hkk : k = R.length := by omega
      have HF' : Hid (FillM W wr R R.length G C) := by have h1 := unhide HF; rw [hkk] at h1; exact h1
      replace HB := hide ((unhide HB).step (unhide HF).below)
      replace HA := hide ((unhide HA).step (unhide HF).below)
      have b0 := (unhide HB).cell (i := 0) rfl
      have r0 := (unhide HA).cell (i := 0) rfl
      have r1 := (unhide HA).cell (i := 1) rfl
      have rf0 := (unhide HA).frozen 0
      have rf1 := (unhide HA).frozen 1
      have hWB := Below.step (unhide HW) (unhide HF').below
      have HZ := hide (fillM_done (unhide HF'))
      rw [← unhide EGL] at HZ
      have hgz : g0 + 1 < gl := by rw [unhide EGL]; exact hgW
      have HKS : Hid (Kept (fun b => b = g0 + 1) wr ((wr.setCell ⟨g0 + 1, 0, none⟩ (.int .i64 H)).setCell ⟨g0 + 1, 1, none⟩ (.slice (some ⟨gl, 0, none⟩) R.length R.length))) := ((Kept.refl (fun b => b = g0 + 1) _).setCell (p := ⟨g0 + 1, 0, none⟩) rfl _).setCell (p := ⟨g0 + 1, 1, none⟩) rfl _
      have f0 := (((unhide HA).set 0 (.int .i64 H) (by simp)).set 1 (.slice (some ⟨gl, 0, none⟩) R.length R.length) (by simp)).cell (i := 0) rfl
      have f1 := (((unhide HA).set 0 (.int .i64 H) (by simp)).set 1 (.slice (some ⟨gl, 0, none⟩) R.length R.length) (by simp)).cell (i := 1) rfl
      clear hkk
      go_wp2
      refine bodyPost_ret (v := .agg #[.int .i64 H, .slice (some ⟨gl, 0, none⟩) R.length R.length]) (by simp [results, Try.results49, go_sem, f0, f1]) rfl ?_
      exact ⟨gl, G, C, R.length, rfl, Nat.le_refl _, by unfold maxLen; omega, ((unhide HZ).keptR (unhide HKS) (fun b h1 e => by omega)).mono (by omega), below_kept hWB (unhide HKS) hWB.size (fun b e => by omega)⟩

end Go.Proofs.Ytjllilmiloippaa

namespace Go.Proofs.Ytjllilmiloippaa
open Go.RowKit

theorem gnd_ne {w : World} {g gb : Nat} {Z : List (Option Addr × Nat)} {P : List (List Int)} {k : IntKind} {x : Int} {vs : List Value} (h : Gnd w g Z P) (hp : 0 < P.length) (ho : OwnV w gb (.int k x :: vs)) : g ≠ gb := fun e => by
  subst e
  have h1 := h.top.cell (recCells_get (n := 2) (enc := ePl) (L := Z) (i := 0) (j := 0) (by rw [h.len]; exact hp) (by omega))
  simp only [Nat.zero_mul, Nat.add_zero] at h1
  have h2 := ho.cell (i := 0) rfl
  rw [h1] at h2
  simp [ePl] at h2

/-- What DoYard answers: a yard of the call's own, how many were reshuffled, the code. -/
def DoA (w : World) (H : Int) (D : List (List Int) × Int × Int) (e : Ending) (w' : World) : Prop := ∃ g G C cap, e = .returned (.tuple #[yardV H (.slice (some ⟨g, 0, none⟩) D.1.length cap), .int .i64 D.2.1, .int .i64 D.2.2]) ∧ D.1.length ≤ cap ∧ cap ≤ maxLen ∧ OwnRows w.heap.size w' g G C D.1 ∧ Below w.heap.size w w'

set_option maxRecDepth 10000 in
set_option maxHeartbeats 16000000 in
theorem implDoYard_any (H : Int) (v : Value) (R : List (List Int)) (k b s : Int) (w : World) (h : RowsIn w v R) (hn : R.length ≤ 1048576) (hl : ∀ s, s < R.length → (R.getD s []).length ≤ 1048576) :
    Calls Try.prog 14 #[yardV H v, vYardOp k b s] w fun e w' => DoA w H (doY H R k b s) e w' := by
  obtain ⟨⟨D1, D2, D3⟩, eD⟩ : ∃ D, D = doY H R k b s := ⟨_, rfl⟩
  have hDl := do_len H R k b s
  have HDO := hide fun (hy : YOk H R) => do_ok hy k b s
  rw [← eD] at hDl HDO ⊢
  have ED := hide eD
  have HDL : Hid (D1.length = R.length) := hDl
  clear eD hDl
  have HV := hide h
  have HL := hide hl
  clear hl
  obtain ⟨ao, cap, rfl, hc1, hc2⟩ := rows_cap h
  clear h
  have HYK := hide fun W (hb : Below w.heap.size w W) => implYardOk_any H (.slice ao R.length cap) R W ((unhide HV).below hb)
  have HYT : Hid (yardB H R = true → YOk H R) := fun h => of_decide_eq_true h
  have HYF : Hid (yardB H R = false → ¬ YOk H R) := fun h => of_decide_eq_false h
  have HBG := hide fun (hy : YOk H R) W (hb : Below w.heap.size w W) => boxGround_any H (.slice ao R.length cap) R W ((unhide HV).below hb) hy
  generalize yardB H R = r at HYK HYT HYF
  unfold yardV at HYK HBG ⊢
  unfold vYardOp
  unfold gndV at HBG
  go_enter Try.func14, Try.ntmps14
  go_upto_region 1 with (fail)
  obtain ⟨g0, eg0⟩ : ∃ z, z = w.heap.size := ⟨_, rfl⟩
  obtain ⟨W, eW⟩ : ∃ z, z = ((w.alloc (.cells #[.int .i64 H, .slice ao R.length cap] 26)).alloc (.cells #[.int .i64 k, .int .i64 b, .int .i64 s] 34)).alloc (.cells #[.int .i64 0, .slice none 0 0] 26) := ⟨_, rfl⟩
  have HW : Hid (Below w.heap.size w W) := by rw [eW]; exact Below.step (Below.step (Below.alloc1 _ _) (Below.alloc1 _ _)) (Below.alloc1 _ _)
  have HB : Hid (OwnV W g0 [.int .i64 H, .slice ao R.length cap]) := by rw [eW, eg0]; exact ((ownV_alloc _ _ _).step (Below.alloc1 _ _)).step (Below.alloc1 _ _)
  have HO : Hid (OwnV W (g0 + 1) [.int .i64 k, .int .i64 b, .int .i64 s]) := by rw [eW, eg0]; exact (own_new _ _ _ _ (by simp)).step (Below.alloc1 _ _)
  have HA : Hid (OwnV W (g0 + 1 + 1) [.int .i64 0, .slice none 0 0]) := by rw [eW, eg0]; exact own_new _ _ _ _ (by simp)
  rw [← eW, ← eg0]
  have hg0 : w.heap.size ≤ g0 := by omega
  clear eW eg0
  have b0 := (unhide HB).cell (i := 0) rfl
  have b1 := (unhide HB).cell (i := 1) rfl
  have o0 := (unhide HO).cell (i := 0) rfl
  have o1 := (unhide HO).cell (i := 1) rfl
  have o2 := (unhide HO).cell (i := 2) rfl
  go_wp2_with fail
  refine (unhide HYK _ (unhide HW)).mono ?_
  rintro e w1 ⟨rfl, hb⟩
  replace HW := hide (Below.step (unhide HW) hb)
  replace HB := hide ((unhide HB).step hb)
  replace HO := hide ((unhide HO).step hb)
  replace HA := hide ((unhide HA).step hb)
  clear hb b0 b1 o0 o1 o2
  clear HYK
  cases r with
  | false =>
    have HD := hide ((unhide ED).trans (do_bad (unhide HYF (by first | rfl | trivial)) k b s))
    have HQ := hide (ownYard_any H (.slice ao R.length cap) R w1 ((unhide HV).below (unhide HW)) hn (unhide HL))
    unfold yardV at HQ
    have hal := (unhide HA).lt
    have hsw := (unhide HW).size
    have b0 := (unhide HB).cell (i := 0) rfl
    have b1 := (unhide HB).cell (i := 1) rfl
    go_wp2_with fail
    refine (unhide HQ).mono ?_
    rintro e w2 ⟨gz, Gz, Cz, capz, rfl, hz1, hz2, hOR, hb⟩
    replace HW := hide (Below.step (unhide HW) hb)
    replace HA := hide ((unhide HA).step hb)
    have HOR := hide hOR
    have hgz := hOR.base
    clear hOR hb b0 b1 HQ
    have hsz : w.heap.size ≤ w1.heap.size := hsw
    have HKS : Hid (Kept (fun b => b = g0 + 1 + 1) w2 ((w2.setCell ⟨g0 + 1 + 1, 0, none⟩ (.int .i64 H)).setCell ⟨g0 + 1 + 1, 1, none⟩ (.slice (some ⟨gz, 0, none⟩) R.length capz))) := ((Kept.refl (fun b => b = g0 + 1 + 1) _).setCell (p := ⟨g0 + 1 + 1, 0, none⟩) rfl _).setCell (p := ⟨g0 + 1 + 1, 1, none⟩) rfl _
    have rf0 := (unhide HA).frozen 0
    have rf1 := (unhide HA).frozen 1
    have r0 := (unhide HA).cell (i := 0) rfl
    have r1 := (unhide HA).cell (i := 1) rfl
    have f0 := (((unhide HA).set 0 (.int .i64 H) (by simp)).set 1 (.slice (some ⟨gz, 0, none⟩) R.length capz) (by simp)).cell (i := 0) rfl
    have f1 := (((unhide HA).set 0 (.int .i64 H) (by simp)).set 1 (.slice (some ⟨gz, 0, none⟩) R.length capz) (by simp)).cell (i := 1) rfl
    have hWB : Below w.heap.size w w2 := unhide HW
    go_wp2
    refine bodyPost_ret (v := .tuple #[.agg #[.int .i64 H, .slice (some ⟨gz, 0, none⟩) R.length capz], .int .i64 0, .int .i64 1]) (by simp [results, Try.results14, go_sem, f0, f1]) rfl ?_
    have eD := unhide HD
    simp only [Prod.mk.injEq] at eD
    obtain ⟨e1, e2, e3⟩ := eD
    subst e1 e2 e3
    exact ⟨gz, Gz, Cz, capz, rfl, hz1, hz2, ((unhide HOR).keptR (unhide HKS) (fun b h1 e => by omega)).mono (by have := (unhide HW).size; omega), below_kept hWB (unhide HKS) hWB.size (fun b e => by omega)⟩
  | true =>
    have hy := unhide HYT (by first | rfl | trivial)
    have HY := hide hy
    have hn1 := hy.n1
    have hn2 := hy.n2
    clear hy HYT HYF
    have HBH := hide fun g Z W (h : Gnd W g Z (pilF idF R)) => behindYardOp_any H k b s g Z R W h (unhide HY)
    rw [← unhide ED] at HBH
    unfold gndV vYardOp at HBH
    dsimp only at HBH
    have b0 := (unhide HB).cell (i := 0) rfl
    have b1 := (unhide HB).cell (i := 1) rfl
    go_upto_region 3 with (fail)
    clear b0 b1
    go_cut [7, 8, 9] (fun s7 s8 s9 wx => ∃ (gb g' : Nat) (Z' : List (Option Addr × Nat)), s7 = .pointer (some ⟨gb, 0, none⟩) ∧ s8 = .int .i64 D2 ∧ s9 = .int .i64 D3 ∧ g0 + 1 + 1 < gb ∧ Hid (Below w.heap.size w wx) ∧ Hid (OwnV wx (g0 + 1 + 1) [.int .i64 0, .slice none 0 0]) ∧ Hid (OwnV wx gb [.int .i64 H, .slice (some ⟨g', 0, none⟩) R.length R.length]) ∧ Hid (Gnd wx g' Z' (pilF idF D1)))
    case first =>
      have hal0 := (unhide HA).lt
      obtain ⟨wd, ewd⟩ : ∃ z, z = w1.drew := ⟨_, rfl⟩
      have hb : Below w1.heap.size w1 wd := by rw [ewd]; exact (Below.refl _ _).drew
      replace HW := hide (Below.step (unhide HW) hb)
      replace HB := hide ((unhide HB).step hb)
      replace HO := hide ((unhide HO).step hb)
      replace HA := hide ((unhide HA).step hb)
      clear hb
      refine wp_region_held_drew (S := fun w' => w'.cell? ⟨g0, 0, none⟩ = some (.int .i64 H) ∧ w'.cell? ⟨g0, 1, none⟩ = some (.slice ao R.length cap) ∧ w'.cell? ⟨g0 + 1, 0, none⟩ = some (.int .i64 k) ∧ w'.cell? ⟨g0 + 1, 1, none⟩ = some (.int .i64 b) ∧ w'.cell? ⟨g0 + 1, 2, none⟩ = some (.int .i64 s)) (by kernel_rfl) ⟨by rw [← ewd]; exact (unhide HB).cell (i := 0) rfl, by rw [← ewd]; exact (unhide HB).cell (i := 1) rfl, by rw [← ewd]; exact (unhide HO).cell (i := 0) rfl, by rw [← ewd]; exact (unhide HO).cell (i := 1) rfl, by rw [← ewd]; exact (unhide HO).cell (i := 2) rfl⟩ (fun hHeld => ?_)
      rw [← ewd] at hHeld ⊢
      clear ewd
      refine wpAnyH_take (i := 0) (v := ?_) rfl (by kernel_rfl) (by kernel_rfl) (by kernel_rfl) (fun _ _ _ h => h) (Or.inl ⟨by rfl, ?_⟩) (by assumption) ?_
      rotate_left
      · intro wy hSw
        obtain ⟨hS0, hS1, hS2, hS3, hS4⟩ := hSw
        go_simp
        try with_reducible rfl
      try simp only [Act.put, List.getElem_toArray, List.getElem_cons_zero, List.setIfInBounds_toArray, List.set_cons_zero, List.set_cons_succ]
      refine wpAnyH_take (i := 2) (v := ?_) rfl (by kernel_rfl) (by kernel_rfl) (by kernel_rfl) (fun _ _ _ h => h) (Or.inl ⟨by rfl, ?_⟩) (by assumption) ?_
      rotate_left
      · intro wy hSw
        obtain ⟨hS0, hS1, hS2, hS3, hS4⟩ := hSw
        go_simp
        try with_reducible rfl
      try simp only [Act.put, List.getElem_toArray, List.getElem_cons_succ, List.getElem_cons_zero, List.setIfInBounds_toArray, List.set_cons_zero, List.set_cons_succ]
      refine wpAnyH_ready (rs := [1, 8]) (by kernel_rfl) (by simp) ?_
      refine AllReadyH.cons rfl (fun K hK => ?_) (AllReadyH.cons rfl (fun K hK => ?_) AllReadyH.nil)
      · go_simp
        have HCQ := hide (unhide HBG (unhide HY) wd (unhide HW))
        skip
        refine (unhide HCQ).mono ?_
        rintro e wc0 ⟨g1, Z1, rfl, hg1, hG1, hb⟩
        replace HW := hide (Below.step (unhide HW) hb)
        replace HB := hide ((unhide HB).step hb)
        replace HO := hide ((unhide HO).step hb)
        replace HA := hide ((unhide HA).step hb)
        have HG1 := hide hG1
        clear hG1
        clear hb HCQ
        refine hK.out _ _ ⟨(unhide HB).cell (i := 0) rfl, (unhide HB).cell (i := 1) rfl, (unhide HO).cell (i := 0) rfl, (unhide HO).cell (i := 1) rfl, (unhide HO).cell (i := 2) rfl⟩ (fun hHeld => ?_)
        clear hK K
        try simp only [Act.put, List.setIfInBounds_toArray, List.set_cons_zero, List.set_cons_succ]
        refine wpAnyH_ready (rs := [3, 8]) (by kernel_rfl) (by simp) ?_
        refine AllReadyH.cons rfl (fun K hK => ?_) (AllReadyH.cons rfl (fun K hK => ?_) AllReadyH.nil)
        · go_simp
          have HCQ := hide (unhide HBH g1 Z1 wc0 (unhide HG1))
          skip
          refine (unhide HCQ).mono ?_
          rintro e wc1 ⟨g', Z', rfl, hG', hb⟩
          replace HW := hide (Below.step (unhide HW) hb)
          replace HB := hide ((unhide HB).step hb)
          replace HO := hide ((unhide HO).step hb)
          replace HA := hide ((unhide HA).step hb)
          replace HG1 := hide ((unhide HG1).below hb)
          have HN := hide hG'
          clear hG'
          clear hb HCQ
          refine hK.out _ _ ⟨(unhide HB).cell (i := 0) rfl, (unhide HB).cell (i := 1) rfl, (unhide HO).cell (i := 0) rfl, (unhide HO).cell (i := 1) rfl, (unhide HO).cell (i := 2) rfl⟩ (fun hHeld => ?_)
          clear hK K
          try simp only [Act.put, List.setIfInBounds_toArray, List.set_cons_zero, List.set_cons_succ]
          refine wpAnyH_take (i := 4) (v := ?_) rfl (by kernel_rfl) (by kernel_rfl) (by kernel_rfl) (fun _ _ _ h => h) (Or.inl ⟨by rfl, ?_⟩) (by assumption) ?_
          rotate_left
          · intro wy hSw
            obtain ⟨hS0, hS1, hS2, hS3, hS4⟩ := hSw
            go_simp
            try with_reducible rfl
          try simp only [Act.put, List.getElem_toArray, List.getElem_cons_succ, List.getElem_cons_zero, List.setIfInBounds_toArray, List.set_cons_zero, List.set_cons_succ]
          refine wpAnyH_take (i := 5) (v := ?_) rfl (by kernel_rfl) (by kernel_rfl) (by kernel_rfl) (fun _ _ _ h => h) (Or.inl ⟨by rfl, ?_⟩) (by assumption) ?_
          rotate_left
          · intro wy hSw
            obtain ⟨hS0, hS1, hS2, hS3, hS4⟩ := hSw
            go_simp
            try with_reducible rfl
          try simp only [Act.put, List.getElem_toArray, List.getElem_cons_succ, List.getElem_cons_zero, List.setIfInBounds_toArray, List.set_cons_zero, List.set_cons_succ]
          refine wpAnyH_take (i := 6) (v := ?_) rfl (by kernel_rfl) (by kernel_rfl) (by kernel_rfl) (fun _ _ _ h => h) (Or.inl ⟨by rfl, ?_⟩) (by assumption) ?_
          rotate_left
          · intro wy hSw
            obtain ⟨hS0, hS1, hS2, hS3, hS4⟩ := hSw
            go_simp
            try with_reducible rfl
          try simp only [Act.put, List.getElem_toArray, List.getElem_cons_succ, List.getElem_cons_zero, List.setIfInBounds_toArray, List.set_cons_zero, List.set_cons_succ]
          refine wpAnyH_take (i := 7) (v := ?_) rfl (by kernel_rfl) (by kernel_rfl) (by kernel_rfl) (fun _ _ _ h => h) (Or.inl ⟨by rfl, ?_⟩) (by assumption) ?_
          rotate_left
          · intro wy hSw
            obtain ⟨hS0, hS1, hS2, hS3, hS4⟩ := hSw
            go_simp
            try with_reducible rfl
          try simp only [Act.put, List.getElem_toArray, List.getElem_cons_succ, List.getElem_cons_zero, List.setIfInBounds_toArray, List.set_cons_zero, List.set_cons_succ]
          refine wpAnyH_ready (rs := [8]) (by kernel_rfl) (by simp) ?_
          refine AllReadyH.cons rfl (fun K hK => ?_) AllReadyH.nil
          go_simp
          obtain ⟨gb, egb⟩ : ∃ z, z = wc1.heap.size := ⟨_, rfl⟩
          have hgb1 : g0 + 1 + 1 < gb := by rw [egb]; exact (unhide HA).lt
          obtain ⟨wb2, ewb2⟩ : ∃ z, z = wc1.alloc (.cells #[.int .i64 0, .slice none 0 0] 73) := ⟨_, rfl⟩
          have hb : Below wc1.heap.size wc1 wb2 := by rw [ewb2]; exact Below.alloc1 _ _
          have HBB : Hid (OwnV wb2 gb [.int .i64 0, .slice none 0 0]) := by rw [ewb2, egb]; exact ownV_alloc _ _ _
          rw [← ewb2, ← egb]
          replace HW := hide (Below.step (unhide HW) hb)
          replace HB := hide ((unhide HB).step hb)
          replace HO := hide ((unhide HO).step hb)
          replace HA := hide ((unhide HA).step hb)
          replace HN := hide ((unhide HN).below hb)
          have hgg2 : g' ≠ gb := gnd_ne (unhide HN) (by have := unhide HDL; rw [pilF_len]; omega) (unhide HBB)
          clear hb ewb2 egb
          refine hK.out _ _ ⟨(unhide HB).cell (i := 0) rfl, (unhide HB).cell (i := 1) rfl, (unhide HO).cell (i := 0) rfl, (unhide HO).cell (i := 1) rfl, (unhide HO).cell (i := 2) rfl⟩ (fun hHeld => ?_)
          clear hK K
          try simp only [Act.put, List.setIfInBounds_toArray, List.set_cons_zero, List.set_cons_succ]
          refine wpAnyH_ready (rs := [9]) (by kernel_rfl) (by simp) ?_
          refine AllReadyH.cons rfl (fun K hK => ?_) AllReadyH.nil
          have rf0 := (unhide HBB).frozen 0
          have r0 := (unhide HBB).cell (i := 0) rfl
          have rf1 := (unhide HBB).frozen 1
          have r1 := (unhide HBB).cell (i := 1) rfl
          have HBN := hide (((unhide HBB).set 0 (.int .i64 H) (by simp)).set 1 (.slice (some ⟨g', 0, none⟩) R.length R.length) (by simp))
          have HKS : Hid (Kept (fun b => b = gb) wb2 ((wb2.setCell ⟨gb, 0, none⟩ (.int .i64 H)).setCell ⟨gb, 1, none⟩ (.slice (some ⟨g', 0, none⟩) R.length R.length))) := (((Kept.refl (fun b => b = gb) _).setCell (p := ⟨gb, 0, none⟩) rfl _).setCell (p := ⟨gb, 1, none⟩) rfl _)
          have hWB := unhide HW
          replace HW := hide (below_kept hWB (unhide HKS) hWB.size (fun b e => by omega))
          clear hWB
          replace HB := hide ((unhide HB).kept (unhide HKS) (by omega))
          replace HO := hide ((unhide HO).kept (unhide HKS) (by omega))
          replace HA := hide ((unhide HA).kept (unhide HKS) (by omega))
          replace HN := hide ((unhide HN).kept (unhide HKS) (by omega) (fun k e => e ▸ noLink_own (unhide HBB) (fun q e => by cases e)))
          go_simp
          clear rf0 r0 rf1 r1
          refine hK.out _ _ ⟨(unhide HB).cell (i := 0) rfl, (unhide HB).cell (i := 1) rfl, (unhide HO).cell (i := 0) rfl, (unhide HO).cell (i := 1) rfl, (unhide HO).cell (i := 2) rfl⟩ (fun hHeld => ?_)
          clear hK K
          try simp only [Act.put, List.setIfInBounds_toArray, List.set_cons_zero, List.set_cons_succ]
          refine wpAnyH_take (i := 10) (v := ?_) rfl (by kernel_rfl) (by kernel_rfl) (by kernel_rfl) (fun _ _ _ h => h) (Or.inl ⟨by rfl, ?_⟩) (by assumption) ?_
          rotate_left
          · intro wy hSw
            obtain ⟨hS0, hS1, hS2, hS3, hS4⟩ := hSw
            go_simp
            try with_reducible rfl
          try simp only [Act.put, List.getElem_toArray, List.getElem_cons_succ, List.getElem_cons_zero, List.setIfInBounds_toArray, List.set_cons_zero, List.set_cons_succ]
          refine wpAnyH_take (i := 11) (v := ?_) rfl (by kernel_rfl) (by kernel_rfl) (by kernel_rfl) (fun _ _ _ h => h) (Or.inl ⟨by rfl, ?_⟩) (by assumption) ?_
          rotate_left
          · intro wy hSw
            obtain ⟨hS0, hS1, hS2, hS3, hS4⟩ := hSw
            go_simp
            try with_reducible rfl
          try simp only [Act.put, List.getElem_toArray, List.getElem_cons_succ, List.getElem_cons_zero, List.setIfInBounds_toArray, List.set_cons_zero, List.set_cons_succ]
          refine wpAnyH_done (by kernel_rfl) ?_ _
          go_wp2_with fail
          go_meet
          exact ⟨gb, g', Z', rfl, rfl, rfl, by omega, HW, HA, HBN, HN⟩
        · go_simp
          obtain ⟨gb, egb⟩ : ∃ z, z = wc0.heap.size := ⟨_, rfl⟩
          have hgb1 : g0 + 1 + 1 < gb := by rw [egb]; exact (unhide HA).lt
          obtain ⟨wb1, ewb1⟩ : ∃ z, z = wc0.alloc (.cells #[.int .i64 0, .slice none 0 0] 73) := ⟨_, rfl⟩
          have hb : Below wc0.heap.size wc0 wb1 := by rw [ewb1]; exact Below.alloc1 _ _
          have HBB : Hid (OwnV wb1 gb [.int .i64 0, .slice none 0 0]) := by rw [ewb1, egb]; exact ownV_alloc _ _ _
          rw [← ewb1, ← egb]
          replace HW := hide (Below.step (unhide HW) hb)
          replace HB := hide ((unhide HB).step hb)
          replace HO := hide ((unhide HO).step hb)
          replace HA := hide ((unhide HA).step hb)
          replace HG1 := hide ((unhide HG1).below hb)
          clear hb ewb1 egb
          refine hK.out _ _ ⟨(unhide HB).cell (i := 0) rfl, (unhide HB).cell (i := 1) rfl, (unhide HO).cell (i := 0) rfl, (unhide HO).cell (i := 1) rfl, (unhide HO).cell (i := 2) rfl⟩ (fun hHeld => ?_)
          clear hK K
          try simp only [Act.put, List.setIfInBounds_toArray, List.set_cons_zero, List.set_cons_succ]
          refine wpAnyH_ready (rs := [3]) (by kernel_rfl) (by simp) ?_
          refine AllReadyH.cons rfl (fun K hK => ?_) AllReadyH.nil
          go_simp
          have HCQ := hide (unhide HBH g1 Z1 wb1 (unhide HG1))
          skip
          refine (unhide HCQ).mono ?_
          rintro e wc1a ⟨g', Z', rfl, hG', hb⟩
          replace HW := hide (Below.step (unhide HW) hb)
          replace HB := hide ((unhide HB).step hb)
          replace HO := hide ((unhide HO).step hb)
          replace HA := hide ((unhide HA).step hb)
          replace HG1 := hide ((unhide HG1).below hb)
          replace HBB := hide ((unhide HBB).step hb)
          have HN := hide hG'
          clear hG'
          have hgg2 : g' ≠ gb := gnd_ne (unhide HN) (by have := unhide HDL; rw [pilF_len]; omega) (unhide HBB)
          clear hb HCQ
          refine hK.out _ _ ⟨(unhide HB).cell (i := 0) rfl, (unhide HB).cell (i := 1) rfl, (unhide HO).cell (i := 0) rfl, (unhide HO).cell (i := 1) rfl, (unhide HO).cell (i := 2) rfl⟩ (fun hHeld => ?_)
          clear hK K
          try simp only [Act.put, List.setIfInBounds_toArray, List.set_cons_zero, List.set_cons_succ]
          refine wpAnyH_take (i := 4) (v := ?_) rfl (by kernel_rfl) (by kernel_rfl) (by kernel_rfl) (fun _ _ _ h => h) (Or.inl ⟨by rfl, ?_⟩) (by assumption) ?_
          rotate_left
          · intro wy hSw
            obtain ⟨hS0, hS1, hS2, hS3, hS4⟩ := hSw
            go_simp
            try with_reducible rfl
          try simp only [Act.put, List.getElem_toArray, List.getElem_cons_succ, List.getElem_cons_zero, List.setIfInBounds_toArray, List.set_cons_zero, List.set_cons_succ]
          refine wpAnyH_take (i := 5) (v := ?_) rfl (by kernel_rfl) (by kernel_rfl) (by kernel_rfl) (fun _ _ _ h => h) (Or.inl ⟨by rfl, ?_⟩) (by assumption) ?_
          rotate_left
          · intro wy hSw
            obtain ⟨hS0, hS1, hS2, hS3, hS4⟩ := hSw
            go_simp
            try with_reducible rfl
          try simp only [Act.put, List.getElem_toArray, List.getElem_cons_succ, List.getElem_cons_zero, List.setIfInBounds_toArray, List.set_cons_zero, List.set_cons_succ]
          refine wpAnyH_take (i := 6) (v := ?_) rfl (by kernel_rfl) (by kernel_rfl) (by kernel_rfl) (fun _ _ _ h => h) (Or.inl ⟨by rfl, ?_⟩) (by assumption) ?_
          rotate_left
          · intro wy hSw
            obtain ⟨hS0, hS1, hS2, hS3, hS4⟩ := hSw
            go_simp
            try with_reducible rfl
          try simp only [Act.put, List.getElem_toArray, List.getElem_cons_succ, List.getElem_cons_zero, List.setIfInBounds_toArray, List.set_cons_zero, List.set_cons_succ]
          refine wpAnyH_take (i := 7) (v := ?_) rfl (by kernel_rfl) (by kernel_rfl) (by kernel_rfl) (fun _ _ _ h => h) (Or.inl ⟨by rfl, ?_⟩) (by assumption) ?_
          rotate_left
          · intro wy hSw
            obtain ⟨hS0, hS1, hS2, hS3, hS4⟩ := hSw
            go_simp
            try with_reducible rfl
          try simp only [Act.put, List.getElem_toArray, List.getElem_cons_succ, List.getElem_cons_zero, List.setIfInBounds_toArray, List.set_cons_zero, List.set_cons_succ]
          refine wpAnyH_ready (rs := [9]) (by kernel_rfl) (by simp) ?_
          refine AllReadyH.cons rfl (fun K hK => ?_) AllReadyH.nil
          have rf0 := (unhide HBB).frozen 0
          have r0 := (unhide HBB).cell (i := 0) rfl
          have rf1 := (unhide HBB).frozen 1
          have r1 := (unhide HBB).cell (i := 1) rfl
          have HBN := hide (((unhide HBB).set 0 (.int .i64 H) (by simp)).set 1 (.slice (some ⟨g', 0, none⟩) R.length R.length) (by simp))
          have HKS : Hid (Kept (fun b => b = gb) wc1a ((wc1a.setCell ⟨gb, 0, none⟩ (.int .i64 H)).setCell ⟨gb, 1, none⟩ (.slice (some ⟨g', 0, none⟩) R.length R.length))) := (((Kept.refl (fun b => b = gb) _).setCell (p := ⟨gb, 0, none⟩) rfl _).setCell (p := ⟨gb, 1, none⟩) rfl _)
          have hWB := unhide HW
          replace HW := hide (below_kept hWB (unhide HKS) hWB.size (fun b e => by omega))
          clear hWB
          replace HB := hide ((unhide HB).kept (unhide HKS) (by omega))
          replace HO := hide ((unhide HO).kept (unhide HKS) (by omega))
          replace HA := hide ((unhide HA).kept (unhide HKS) (by omega))
          replace HN := hide ((unhide HN).kept (unhide HKS) (by omega) (fun k e => e ▸ noLink_own (unhide HBB) (fun q e => by cases e)))
          go_simp
          clear rf0 r0 rf1 r1
          refine hK.out _ _ ⟨(unhide HB).cell (i := 0) rfl, (unhide HB).cell (i := 1) rfl, (unhide HO).cell (i := 0) rfl, (unhide HO).cell (i := 1) rfl, (unhide HO).cell (i := 2) rfl⟩ (fun hHeld => ?_)
          clear hK K
          try simp only [Act.put, List.setIfInBounds_toArray, List.set_cons_zero, List.set_cons_succ]
          refine wpAnyH_take (i := 10) (v := ?_) rfl (by kernel_rfl) (by kernel_rfl) (by kernel_rfl) (fun _ _ _ h => h) (Or.inl ⟨by rfl, ?_⟩) (by assumption) ?_
          rotate_left
          · intro wy hSw
            obtain ⟨hS0, hS1, hS2, hS3, hS4⟩ := hSw
            go_simp
            try with_reducible rfl
          try simp only [Act.put, List.getElem_toArray, List.getElem_cons_succ, List.getElem_cons_zero, List.setIfInBounds_toArray, List.set_cons_zero, List.set_cons_succ]
          refine wpAnyH_take (i := 11) (v := ?_) rfl (by kernel_rfl) (by kernel_rfl) (by kernel_rfl) (fun _ _ _ h => h) (Or.inl ⟨by rfl, ?_⟩) (by assumption) ?_
          rotate_left
          · intro wy hSw
            obtain ⟨hS0, hS1, hS2, hS3, hS4⟩ := hSw
            go_simp
            try with_reducible rfl
          try simp only [Act.put, List.getElem_toArray, List.getElem_cons_succ, List.getElem_cons_zero, List.setIfInBounds_toArray, List.set_cons_zero, List.set_cons_succ]
          refine wpAnyH_done (by kernel_rfl) ?_ _
          go_wp2_with fail
          go_meet
          exact ⟨gb, g', Z', rfl, rfl, rfl, by omega, HW, HA, HBN, HN⟩
      · go_simp
        obtain ⟨gb, egb⟩ : ∃ z, z = wd.heap.size := ⟨_, rfl⟩
        have hgb1 : g0 + 1 + 1 < gb := by rw [egb]; exact (unhide HA).lt
        obtain ⟨wb0, ewb0⟩ : ∃ z, z = wd.alloc (.cells #[.int .i64 0, .slice none 0 0] 73) := ⟨_, rfl⟩
        have hb : Below wd.heap.size wd wb0 := by rw [ewb0]; exact Below.alloc1 _ _
        have HBB : Hid (OwnV wb0 gb [.int .i64 0, .slice none 0 0]) := by rw [ewb0, egb]; exact ownV_alloc _ _ _
        rw [← ewb0, ← egb]
        replace HW := hide (Below.step (unhide HW) hb)
        replace HB := hide ((unhide HB).step hb)
        replace HO := hide ((unhide HO).step hb)
        replace HA := hide ((unhide HA).step hb)
        clear hb ewb0 egb
        refine hK.out _ _ ⟨(unhide HB).cell (i := 0) rfl, (unhide HB).cell (i := 1) rfl, (unhide HO).cell (i := 0) rfl, (unhide HO).cell (i := 1) rfl, (unhide HO).cell (i := 2) rfl⟩ (fun hHeld => ?_)
        clear hK K
        try simp only [Act.put, List.setIfInBounds_toArray, List.set_cons_zero, List.set_cons_succ]
        refine wpAnyH_ready (rs := [1]) (by kernel_rfl) (by simp) ?_
        refine AllReadyH.cons rfl (fun K hK => ?_) AllReadyH.nil
        go_simp
        have HCQ := hide (unhide HBG (unhide HY) wb0 (unhide HW))
        skip
        refine (unhide HCQ).mono ?_
        rintro e wc0a ⟨g1, Z1, rfl, hg1, hG1, hb⟩
        replace HW := hide (Below.step (unhide HW) hb)
        replace HB := hide ((unhide HB).step hb)
        replace HO := hide ((unhide HO).step hb)
        replace HA := hide ((unhide HA).step hb)
        replace HBB := hide ((unhide HBB).step hb)
        have HG1 := hide hG1
        clear hG1
        clear hb HCQ
        refine hK.out _ _ ⟨(unhide HB).cell (i := 0) rfl, (unhide HB).cell (i := 1) rfl, (unhide HO).cell (i := 0) rfl, (unhide HO).cell (i := 1) rfl, (unhide HO).cell (i := 2) rfl⟩ (fun hHeld => ?_)
        clear hK K
        try simp only [Act.put, List.setIfInBounds_toArray, List.set_cons_zero, List.set_cons_succ]
        refine wpAnyH_ready (rs := [3]) (by kernel_rfl) (by simp) ?_
        refine AllReadyH.cons rfl (fun K hK => ?_) AllReadyH.nil
        go_simp
        have HCQ := hide (unhide HBH g1 Z1 wc0a (unhide HG1))
        skip
        refine (unhide HCQ).mono ?_
        rintro e wc1a ⟨g', Z', rfl, hG', hb⟩
        replace HW := hide (Below.step (unhide HW) hb)
        replace HB := hide ((unhide HB).step hb)
        replace HO := hide ((unhide HO).step hb)
        replace HA := hide ((unhide HA).step hb)
        replace HBB := hide ((unhide HBB).step hb)
        replace HG1 := hide ((unhide HG1).below hb)
        have HN := hide hG'
        clear hG'
        have hgg2 : g' ≠ gb := gnd_ne (unhide HN) (by have := unhide HDL; rw [pilF_len]; omega) (unhide HBB)
        clear hb HCQ
        refine hK.out _ _ ⟨(unhide HB).cell (i := 0) rfl, (unhide HB).cell (i := 1) rfl, (unhide HO).cell (i := 0) rfl, (unhide HO).cell (i := 1) rfl, (unhide HO).cell (i := 2) rfl⟩ (fun hHeld => ?_)
        clear hK K
        try simp only [Act.put, List.setIfInBounds_toArray, List.set_cons_zero, List.set_cons_succ]
        refine wpAnyH_take (i := 4) (v := ?_) rfl (by kernel_rfl) (by kernel_rfl) (by kernel_rfl) (fun _ _ _ h => h) (Or.inl ⟨by rfl, ?_⟩) (by assumption) ?_
        rotate_left
        · intro wy hSw
          obtain ⟨hS0, hS1, hS2, hS3, hS4⟩ := hSw
          go_simp
          try with_reducible rfl
        try simp only [Act.put, List.getElem_toArray, List.getElem_cons_succ, List.getElem_cons_zero, List.setIfInBounds_toArray, List.set_cons_zero, List.set_cons_succ]
        refine wpAnyH_take (i := 5) (v := ?_) rfl (by kernel_rfl) (by kernel_rfl) (by kernel_rfl) (fun _ _ _ h => h) (Or.inl ⟨by rfl, ?_⟩) (by assumption) ?_
        rotate_left
        · intro wy hSw
          obtain ⟨hS0, hS1, hS2, hS3, hS4⟩ := hSw
          go_simp
          try with_reducible rfl
        try simp only [Act.put, List.getElem_toArray, List.getElem_cons_succ, List.getElem_cons_zero, List.setIfInBounds_toArray, List.set_cons_zero, List.set_cons_succ]
        refine wpAnyH_take (i := 6) (v := ?_) rfl (by kernel_rfl) (by kernel_rfl) (by kernel_rfl) (fun _ _ _ h => h) (Or.inl ⟨by rfl, ?_⟩) (by assumption) ?_
        rotate_left
        · intro wy hSw
          obtain ⟨hS0, hS1, hS2, hS3, hS4⟩ := hSw
          go_simp
          try with_reducible rfl
        try simp only [Act.put, List.getElem_toArray, List.getElem_cons_succ, List.getElem_cons_zero, List.setIfInBounds_toArray, List.set_cons_zero, List.set_cons_succ]
        refine wpAnyH_take (i := 7) (v := ?_) rfl (by kernel_rfl) (by kernel_rfl) (by kernel_rfl) (fun _ _ _ h => h) (Or.inl ⟨by rfl, ?_⟩) (by assumption) ?_
        rotate_left
        · intro wy hSw
          obtain ⟨hS0, hS1, hS2, hS3, hS4⟩ := hSw
          go_simp
          try with_reducible rfl
        try simp only [Act.put, List.getElem_toArray, List.getElem_cons_succ, List.getElem_cons_zero, List.setIfInBounds_toArray, List.set_cons_zero, List.set_cons_succ]
        refine wpAnyH_ready (rs := [9]) (by kernel_rfl) (by simp) ?_
        refine AllReadyH.cons rfl (fun K hK => ?_) AllReadyH.nil
        have rf0 := (unhide HBB).frozen 0
        have r0 := (unhide HBB).cell (i := 0) rfl
        have rf1 := (unhide HBB).frozen 1
        have r1 := (unhide HBB).cell (i := 1) rfl
        have HBN := hide (((unhide HBB).set 0 (.int .i64 H) (by simp)).set 1 (.slice (some ⟨g', 0, none⟩) R.length R.length) (by simp))
        have HKS : Hid (Kept (fun b => b = gb) wc1a ((wc1a.setCell ⟨gb, 0, none⟩ (.int .i64 H)).setCell ⟨gb, 1, none⟩ (.slice (some ⟨g', 0, none⟩) R.length R.length))) := (((Kept.refl (fun b => b = gb) _).setCell (p := ⟨gb, 0, none⟩) rfl _).setCell (p := ⟨gb, 1, none⟩) rfl _)
        have hWB := unhide HW
        replace HW := hide (below_kept hWB (unhide HKS) hWB.size (fun b e => by omega))
        clear hWB
        replace HB := hide ((unhide HB).kept (unhide HKS) (by omega))
        replace HO := hide ((unhide HO).kept (unhide HKS) (by omega))
        replace HA := hide ((unhide HA).kept (unhide HKS) (by omega))
        replace HN := hide ((unhide HN).kept (unhide HKS) (by omega) (fun k e => e ▸ noLink_own (unhide HBB) (fun q e => by cases e)))
        go_simp
        clear rf0 r0 rf1 r1
        refine hK.out _ _ ⟨(unhide HB).cell (i := 0) rfl, (unhide HB).cell (i := 1) rfl, (unhide HO).cell (i := 0) rfl, (unhide HO).cell (i := 1) rfl, (unhide HO).cell (i := 2) rfl⟩ (fun hHeld => ?_)
        clear hK K
        try simp only [Act.put, List.setIfInBounds_toArray, List.set_cons_zero, List.set_cons_succ]
        refine wpAnyH_take (i := 10) (v := ?_) rfl (by kernel_rfl) (by kernel_rfl) (by kernel_rfl) (fun _ _ _ h => h) (Or.inl ⟨by rfl, ?_⟩) (by assumption) ?_
        rotate_left
        · intro wy hSw
          obtain ⟨hS0, hS1, hS2, hS3, hS4⟩ := hSw
          go_simp
          try with_reducible rfl
        try simp only [Act.put, List.getElem_toArray, List.getElem_cons_succ, List.getElem_cons_zero, List.setIfInBounds_toArray, List.set_cons_zero, List.set_cons_succ]
        refine wpAnyH_take (i := 11) (v := ?_) rfl (by kernel_rfl) (by kernel_rfl) (by kernel_rfl) (fun _ _ _ h => h) (Or.inl ⟨by rfl, ?_⟩) (by assumption) ?_
        rotate_left
        · intro wy hSw
          obtain ⟨hS0, hS1, hS2, hS3, hS4⟩ := hSw
          go_simp
          try with_reducible rfl
        try simp only [Act.put, List.getElem_toArray, List.getElem_cons_succ, List.getElem_cons_zero, List.setIfInBounds_toArray, List.set_cons_zero, List.set_cons_succ]
        refine wpAnyH_done (by kernel_rfl) ?_ _
        go_wp2_with fail
        go_meet
        exact ⟨gb, g', Z', rfl, rfl, rfl, by omega, HW, HA, HBN, HN⟩
    case rest =>
      obtain ⟨gb, g', Z', rfl, rfl, rfl, hgb, HW2, HA2, HC, HN⟩ := hcut
      clear HW HB HO HA
      have HQ := hide (yardOf_any H g' Z' D1 wc (unhide HN) (by have := unhide HDL; omega) (fun s hs => by have h1 := (unhide HDO (unhide HY)).low s hs; have h2 := (unhide HY).h2; omega))
      rw [unhide HDL] at HQ
      unfold gndV at HQ
      have hal := (unhide HA2).lt
      have hsw := (unhide HW2).size
      have c0 := (unhide HC).cell (i := 0) rfl
      have c1 := (unhide HC).cell (i := 1) rfl
      go_wp2_with fail
      refine (unhide HQ).mono ?_
      rintro e w2 ⟨gz, Gz, Cz, capz, rfl, hz1, hz2, hOR, hb⟩
      rw [unhide HDL] at hz1
      replace HW2 := hide (Below.step (unhide HW2) hb)
      replace HA2 := hide ((unhide HA2).step hb)
      have HOR := hide hOR
      have hgz := hOR.base
      clear hOR hb c0 c1 HQ
      rw [unhide HDL]
      have HKS : Hid (Kept (fun b => b = g0 + 1 + 1) w2 ((w2.setCell ⟨g0 + 1 + 1, 0, none⟩ (.int .i64 H)).setCell ⟨g0 + 1 + 1, 1, none⟩ (.slice (some ⟨gz, 0, none⟩) R.length capz))) := ((Kept.refl (fun b => b = g0 + 1 + 1) _).setCell (p := ⟨g0 + 1 + 1, 0, none⟩) rfl _).setCell (p := ⟨g0 + 1 + 1, 1, none⟩) rfl _
      have rf0 := (unhide HA2).frozen 0
      have rf1 := (unhide HA2).frozen 1
      have r0 := (unhide HA2).cell (i := 0) rfl
      have r1 := (unhide HA2).cell (i := 1) rfl
      have f0 := (((unhide HA2).set 0 (.int .i64 H) (by simp)).set 1 (.slice (some ⟨gz, 0, none⟩) R.length capz) (by simp)).cell (i := 0) rfl
      have f1 := (((unhide HA2).set 0 (.int .i64 H) (by simp)).set 1 (.slice (some ⟨gz, 0, none⟩) R.length capz) (by simp)).cell (i := 1) rfl
      have hWB : Below w.heap.size w w2 := unhide HW2
      go_wp2
      refine bodyPost_ret (v := .tuple #[.agg #[.int .i64 H, .slice (some ⟨gz, 0, none⟩) R.length capz], .int .i64 D2, .int .i64 D3]) (by simp [results, Try.results14, go_sem, f0, f1]) rfl ?_
      exact ⟨gz, Gz, Cz, capz, by dsimp only; rw [unhide HDL], by dsimp only; rw [unhide HDL]; exact hz1, hz2, ((unhide HOR).keptR (unhide HKS) (fun b h1 e => by omega)).mono hsw, below_kept hWB (unhide HKS) hWB.size (fun b e => by omega)⟩

end Go.Proofs.Ytjllilmiloippaa

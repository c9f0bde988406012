/- Who bears what of a loss: in numbers (mathematics alone). -/
import Derived.Test.YtogoknldhimgfaaAvM
import Derived.Test.YtogoknldhimgfaaWalkH
namespace Go.Proofs.Ytogoknldhimgfaa

instance (r : List Int) (x y : Int) : Decidable (bf r x y) := by unfold bf; infer_instance
/-- The places. -/
def plcs (n : Nat) : List Int := (List.range n).map Int.ofNat
theorem plcs_len (n : Nat) : (plcs n).length = n := by simp [plcs]
theorem ix_plcs {n k : Nat} (h : k < n) : ix (plcs n) k = (k : Int) := by unfold ix plcs; rw [getD_lt (by simpa using h)]; simp
theorem mem_plcs {n : Nat} {x : Int} : x ∈ plcs n ↔ ∃ k, k < n ∧ x = (k : Int) := by
  unfold plcs
  simp only [List.mem_map, List.mem_range]
  constructor
  · rintro ⟨k, h1, h2⟩; exact ⟨k, h1, h2.symm⟩
  · rintro ⟨k, h1, h2⟩; exact ⟨k, h1, h2.symm⟩
/-- How many stand ahead of x. -/
def rk (r : List Int) (n : Nat) (x : Int) : Nat := (plcs n).countP fun y => decide (bf r y x)
structure SP (r : List Int) (n : Nat) (P : List Int) : Prop where
  perm : P.Perm (plcs n)
  srt : Srt r P 0 n
theorem SP.len {r P : List Int} {n : Nat} (h : SP r n P) : P.length = n := by rw [h.perm.length_eq, plcs_len]
theorem SP.rk {r P : List Int} {n k : Nat} (h : SP r n P) (hk : k < n) : rk r n (ix P k) = k := by
  have hl := h.len
  unfold Go.Proofs.Ytogoknldhimgfaa.rk
  rw [← h.perm.countP_eq]
  have e : P = P.take k ++ P.drop k := (List.take_append_drop k P).symm
  rw [congrArg (List.countP fun y => decide (bf r y (ix P k))) e, List.countP_append]
  have h1 : (P.take k).countP (fun y => decide (bf r y (ix P k))) = k := by
    rw [List.countP_eq_length.2]
    · rw [List.length_take, hl]; omega
    · intro y hy
      obtain ⟨j, hj, rfl⟩ := List.mem_iff_getElem.1 hy
      simp only [List.length_take] at hj
      have := h.srt j k (Nat.zero_le _) (by omega) hk
      unfold ix at this
      rw [getD_lt (by omega)] at this
      simpa [List.getElem_take] using this
  have h2 : (P.drop k).countP (fun y => decide (bf r y (ix P k))) = 0 := by
    rw [List.countP_eq_zero]
    intro y hy
    obtain ⟨j, hj, rfl⟩ := List.mem_iff_getElem.1 hy
    simp only [List.length_drop] at hj
    simp only [List.getElem_drop, decide_eq_true_eq]
    intro hb
    by_cases e0 : j = 0
    · subst e0
      have e1 : ix P k = P[k + 0] := by unfold ix; rw [getD_lt (by omega)]; simp
      rw [e1] at hb; exact bf_irr hb
    · have := h.srt k (k + j) (Nat.zero_le _) (by omega) (by omega)
      have e1 : ix P (k + j) = P[k + j] := by unfold ix; rw [getD_lt (by omega)]
      rw [e1] at this
      exact bf_irr (bf_trans this hb)
  rw [h1, h2]
  rfl
theorem SP.has {r P : List Int} {n i : Nat} (h : SP r n P) (hi : i < n) : ∃ k, k < n ∧ ix P k = (i : Int) := by
  have hm : (i : Int) ∈ P := h.perm.mem_iff.2 (mem_plcs.2 ⟨i, hi, rfl⟩)
  obtain ⟨k, hk, e⟩ := List.mem_iff_getElem.1 hm
  exact ⟨k, by rw [← h.len]; exact hk, by unfold ix; rw [getD_lt hk]; exact e⟩
theorem SP.val {r P : List Int} {n k : Nat} (h : SP r n P) (hk : k < n) : ∃ i, i < n ∧ ix P k = ((i : Nat) : Int) := by
  have hm : ix P k ∈ P := by unfold ix; rw [getD_lt (by rw [h.len]; exact hk)]; exact List.getElem_mem _
  exact mem_plcs.1 (h.perm.mem_iff.1 hm)
/-- There is such an order. -/
theorem sp_ex (r : List Int) (n : Nat) : ∃ P, SP r n P := by
  refine ⟨(plcs n).mergeSort fun x y => decide (bf r x y ∨ x = y), List.mergeSort_perm _ _, ?_⟩
  have hp := List.pairwise_mergeSort (le := fun x y => decide (bf r x y ∨ x = y)) (fun a b c h1 h2 => by
    simp only [decide_eq_true_eq] at *
    rcases h1 with h1 | rfl
    · rcases h2 with h2 | rfl
      · exact Or.inl (bf_trans h1 h2)
      · exact Or.inl h1
    · exact h2) (fun a b => by
    simp only [Bool.or_eq_true, decide_eq_true_eq]
    unfold bf
    omega) (plcs n)
  have hq := List.mergeSort_perm (plcs n) fun x y => decide (bf r x y ∨ x = y)
  generalize (plcs n).mergeSort (fun x y => decide (bf r x y ∨ x = y)) = P at *
  have hnd : P.Nodup := hq.nodup_iff.2 (by
    unfold plcs
    rw [List.nodup_iff_pairwise_ne, List.pairwise_map]
    exact List.pairwise_lt_range.imp fun h e => by have e2 := Int.ofNat.inj e; omega)
  have hl : P.length = n := by rw [hq.length_eq, plcs_len]
  intro i j _ hij hj
  have h1 := List.pairwise_iff_getElem.1 hp i j (by omega) (by omega) hij
  have h2 := List.pairwise_iff_getElem.1 (List.nodup_iff_pairwise_ne.1 hnd) i j (by omega) (by omega) hij
  simp only [decide_eq_true_eq] at h1
  unfold ix
  rw [getD_lt (by omega), getD_lt (by omega)]
  exact h1.resolve_right h2
theorem rk_inj {r : List Int} {n i j : Nat} (hi : i < n) (hj : j < n) (h : rk r n (i : Int) = rk r n (j : Int)) : i = j := by
  obtain ⟨P, hP⟩ := sp_ex r n
  obtain ⟨k, k1, k2⟩ := hP.has hi
  obtain ⟨m, m1, m2⟩ := hP.has hj
  rw [← k2, ← m2, hP.rk k1, hP.rk m1] at h
  subst h
  have : (i : Int) = j := k2.symm.trans m2
  omega
/-- The first greatest of what is left is the next in order. -/
theorem rk_next {r : List Int} {n k at_ : Nat} (h0 : ∀ i, i < n → 0 ≤ ix r i) (hk : k < n) (ha : at_ < n)
    (h1 : ∀ j, j < n → (if rk r n (j : Int) < k then (-1 : Int) else ix r j) ≤ (if rk r n (at_ : Int) < k then (-1 : Int) else ix r at_))
    (h2 : ∀ j, j < at_ → (if rk r n (j : Int) < k then (-1 : Int) else ix r j) < (if rk r n (at_ : Int) < k then (-1 : Int) else ix r at_)) : rk r n (at_ : Int) = k := by
  obtain ⟨P, hP⟩ := sp_ex r n
  obtain ⟨i, i1, i2⟩ := hP.val hk
  have hi : rk r n (i : Int) = k := by rw [← i2, hP.rk hk]
  obtain ⟨m, m1, m2⟩ := hP.has ha
  have hm : rk r n (at_ : Int) = m := by rw [← m2, hP.rk m1]
  have g1 := h1 i i1
  rw [hi, hm, if_neg (by omega)] at g1
  have g0 := h0 i i1
  by_cases c1 : m < k
  · rw [if_pos c1] at g1; omega
  · rw [if_neg c1] at g1
    by_cases c2 : m = k
    · rw [hm, c2]
    · have hb := hP.srt k m (Nat.zero_le _) (by omega) m1
      rw [i2, m2] at hb
      unfold bf ky at hb
      rw [Int.toNat_natCast, Int.toNat_natCast] at hb
      rcases hb with hb | ⟨hb1, hb2⟩
      · unfold ix at g1; omega
      · have g2 := h2 i (by omega)
        rw [hi, hm, if_neg (by omega), if_neg c1] at g2
        unfold ix at g2; omega

/-- Values, their sum; quotients and rests. -/
def smA (L : List Int) (k : Nat) : Int := sumTo (fun i => ix L i) k
def avG (L : List Int) : Prop := (1 ≤ L.length ∧ L.length ≤ 40) ∧ ∀ i, i < L.length → 0 ≤ ix L i ∧ ix L i ≤ 1000000000
instance (L : List Int) : Decidable (avG L) := by unfold avG; infer_instance
def avOk (L : List Int) (x : Int) : Prop := avG L ∧ 0 < smA L L.length ∧ (0 ≤ x ∧ x ≤ 1000000000) ∧ x ≤ smA L L.length
instance (L : List Int) (x : Int) : Decidable (avOk L x) := by unfold avOk; infer_instance
def avq (L : List Int) (x : Int) (i : Nat) : Int := x * ix L i / smA L L.length
def avr (L : List Int) (x : Int) (i : Nat) : Int := x * ix L i % smA L L.length
def avR (L : List Int) (x : Int) : List Int := (List.range L.length).map (avr L x)
theorem avR_len (L : List Int) (x : Int) : (avR L x).length = L.length := by simp [avR]
theorem avR_at {L : List Int} {x : Int} {i : Nat} (h : i < L.length) : ix (avR L x) i = avr L x i := by unfold ix avR; rw [getD_lt (by simpa using h)]; simp
/-- What is left behind k of them. -/
def avl (L : List Int) (x : Int) (k : Nat) : Int := x - sumTo (avq L x) k
def avS (L : List Int) (x : Int) (t : Nat) : List Int := (List.range L.length).map fun i => avq L x i + if rk (avR L x) L.length (i : Int) < t then 1 else 0
theorem avS_len (L : List Int) (x : Int) (t : Nat) : (avS L x t).length = L.length := by simp [avS]
theorem avS_at {L : List Int} {x : Int} {t i : Nat} (h : i < L.length) : ix (avS L x t) i = avq L x i + if rk (avR L x) L.length (i : Int) < t then 1 else 0 := by unfold ix avS; rw [getD_lt (by simpa using h)]; simp
def avV (L : List Int) (x : Int) : List Int × Bool := if avOk L x then (avS L x (avl L x L.length).toNat, true) else ([], false)
theorem avV_not {L : List Int} {x : Int} (h : ¬ avOk L x) : avV L x = ([], false) := if_neg h
theorem avV_yes {L : List Int} {x : Int} (h : avOk L x) : avV L x = (avS L x (avl L x L.length).toNat, true) := if_pos h
theorem smA_bd {L : List Int} (h : avG L) {k : Nat} (hk : k ≤ L.length) : 0 ≤ smA L k ∧ smA L k ≤ 40000000000 := by
  have h1 := sumTo_bd (f := fun i => ix L i) (B := 1000000000) (n := L.length) (fun i hi => h.2 i hi) k hk
  have h2 : (k : Int) * 1000000000 ≤ 40 * 1000000000 := by have := h.1.2; omega
  unfold smA
  omega
section
variable {L : List Int} {x : Int}
theorem avr_bd (h : avOk L x) (i : Nat) : 0 ≤ avr L x i ∧ avr L x i < smA L L.length := ⟨Int.emod_nonneg _ (by have := h.2.1; omega), Int.emod_lt_of_pos _ h.2.1⟩
theorem av_mul_bd (h : avOk L x) {i : Nat} (hi : i < L.length) : 0 ≤ x * ix L i ∧ x * ix L i ≤ 1000000000000000000 := by
  have h1 := h.1.2 i hi
  have h2 := h.2.2.1
  exact ⟨Int.mul_nonneg h2.1 h1.1, by have := Int.mul_le_mul h2.2 h1.2 h1.1 (by omega : (0 : Int) ≤ 1000000000); omega⟩
theorem av_qr (i : Nat) : smA L L.length * avq L x i + avr L x i = x * ix L i := Int.mul_ediv_add_emod _ _
theorem avq_bd (h : avOk L x) {i : Nat} (hi : i < L.length) : 0 ≤ avq L x i ∧ avq L x i ≤ x := by
  have h1 := av_mul_bd h hi
  have hs := h.2.1
  refine ⟨Int.ediv_nonneg h1.1 (by omega), ?_⟩
  have hle : ix L i ≤ smA L L.length := by
    have key : ∀ k, k ≤ L.length → i < k → ix L i ≤ smA L k := by
      intro k
      induction k with
      | zero => intro _ h; omega
      | succ k ih =>
        intro hk hik
        have hb := smA_bd h.1 (k := k) (by omega)
        have hv := h.1.2 k (by omega)
        have e : smA L (k + 1) = smA L k + ix L k := rfl
        rw [e]
        by_cases c : i = k
        · subst c; omega
        · have := ih (by omega) (by omega); omega
    exact key _ (Nat.le_refl _) hi
  apply Int.ediv_le_of_le_mul hs
  exact Int.mul_le_mul_of_nonneg_left hle h.2.2.1.1
theorem av_sum (k : Nat) : smA L L.length * sumTo (avq L x) k + sumTo (avr L x) k = x * smA L k := by
  induction k with
  | zero => simp [sumTo, smA]
  | succ k ih =>
    have e1 : sumTo (avq L x) (k + 1) = sumTo (avq L x) k + avq L x k := rfl
    have e2 : sumTo (avr L x) (k + 1) = sumTo (avr L x) k + avr L x k := rfl
    have e3 : smA L (k + 1) = smA L k + ix L k := rfl
    have hq := av_qr (L := L) (x := x) k
    rw [e1, e2, e3, Int.mul_add, Int.mul_add, ← ih, ← hq]
    omega
theorem avl_bd (h : avOk L x) : 0 ≤ avl L x L.length ∧ avl L x L.length < (L.length : Int) := by
  have hs := h.2.1
  have h1 := av_sum (L := L) (x := x) L.length
  have h2 := sumTo_bd (f := avr L x) (B := smA L L.length - 1) (n := L.length) (fun i _ => by have := avr_bd h i; omega) L.length (Nat.le_refl _)
  have e : smA L L.length * avl L x L.length = sumTo (avr L x) L.length := by
    unfold avl
    rw [Int.mul_sub, Int.mul_comm (smA L L.length) x]
    omega
  have hn : 0 < (L.length : Int) := by have := h.1.1.1; omega
  constructor
  · refine Int.not_lt.1 fun hlt => ?_
    have : smA L L.length * avl L x L.length < 0 := Int.mul_neg_of_pos_of_neg hs hlt
    omega
  · refine Int.not_le.1 fun hge => ?_
    have h3 : smA L L.length * (L.length : Int) ≤ smA L L.length * avl L x L.length := Int.mul_le_mul_of_nonneg_left hge (by omega)
    have h4 : (L.length : Int) * (smA L L.length - 1) = smA L L.length * (L.length : Int) - L.length := by rw [Int.mul_sub, Int.mul_one, Int.mul_comm]
    omega
theorem avl_bds (h : avOk L x) {k : Nat} (hk : k ≤ L.length) : -40000000000 ≤ avl L x k ∧ avl L x k ≤ 1000000000 := by
  have h1 := sumTo_bd (f := avq L x) (B := 1000000000) (n := L.length) (fun i hi => by have := avq_bd h hi; have := h.2.2.1; omega) k hk
  have h2 : (k : Int) * 1000000000 ≤ 40 * 1000000000 := by have := h.1.1.2; omega
  have := h.2.2.1
  unfold avl
  omega
/-- One unit more for the next in order. -/
theorem avS_next {t i : Nat} (hi : i < L.length) (hr : rk (avR L x) L.length (i : Int) = t) : avS L x (t + 1) = (avS L x t).set i (ix (avS L x t) i + 1) := by
  apply List.ext_getElem?
  intro j
  by_cases hj : j < L.length
  · rw [List.getElem?_eq_getElem (by rw [avS_len]; exact hj), List.getElem?_eq_getElem (by rw [List.length_set, avS_len]; exact hj)]
    have e1 : (avS L x (t + 1))[j]'(by rw [avS_len]; exact hj) = ix (avS L x (t + 1)) j := by unfold ix; rw [getD_lt (by rw [avS_len]; exact hj)]
    rw [e1, List.getElem_set]
    by_cases c : i = j
    · subst c
      rw [if_pos rfl, avS_at hi, avS_at hi, hr, if_pos (by omega), if_neg (by omega)]
      congr 1
      omega
    · rw [if_neg c]
      have e2 : (avS L x t)[j]'(by rw [avS_len]; exact hj) = ix (avS L x t) j := by unfold ix; rw [getD_lt (by rw [avS_len]; exact hj)]
      rw [e2, avS_at hj, avS_at hj]
      have hne : rk (avR L x) L.length (j : Int) ≠ t := fun e => c (rk_inj hi hj (by rw [hr, e]))
      by_cases c2 : rk (avR L x) L.length (j : Int) < t
      · rw [if_pos c2, if_pos (by omega)]
      · rw [if_neg c2, if_neg (by omega)]
  · rw [List.getElem?_eq_none (by rw [avS_len]; omega), List.getElem?_eq_none (by rw [List.length_set, avS_len]; omega)]
end

end Go.Proofs.Ytogoknldhimgfaa

/- Cranes in numbers: what is right, what a move and a push leave. No statement about the program stands here. -/
import Derived.Test.YtogoknldhimgfaaRCrane
import Derived.Test.YtogoknldhimgfaaRMove
namespace Go.Proofs.Ytogoknldhimgfaa
open Go.RowKit

/-- The k-th crane. -/
abbrev cr (L : List CraneT) (k : Nat) : CraneT := L.getD k default
def CrG (c : CraneT) : Prop := (0 ≤ c.2.1 ∧ c.2.1 ≤ c.1) ∧ c.1 ≤ c.2.2 ∧ c.2.2 ≤ 1000
instance (c : CraneT) : Decidable (CrG c) := by unfold CrG; infer_instance
/-- The k-th crane is right, and far enough from the one ahead. -/
def CrS (L : List CraneT) (gap : Int) (k : Nat) : Prop := CrG (cr L k) ∧ (0 < k → (cr L (k - 1)).1 + gap ≤ (cr L k).1)
instance (L : List CraneT) (gap : Int) (k : Nat) : Decidable (CrS L gap k) := by unfold CrS; infer_instance
def CrP (L : List CraneT) (gap : Int) : Prop := (1 ≤ L.length ∧ L.length ≤ 8) ∧ (1 ≤ gap ∧ gap ≤ 20) ∧ ∀ k, k < L.length → CrS L gap k
instance (L : List CraneT) (gap : Int) : Decidable (CrP L gap) := by unfold CrP; infer_instance
def crB (L : List CraneT) (gap : Int) : Bool := decide (CrP L gap)
theorem crB_iff {L : List CraneT} {gap : Int} : crB L gap = true ↔ CrP L gap := by simp [crB]
theorem crB_not {L : List CraneT} {gap : Int} (h : ¬ CrP L gap) : crB L gap = false := by simpa [crB] using h
theorem crB_no {L : List CraneT} {gap : Int} (h : crB L gap = false) : ¬ CrP L gap := by simpa [crB] using h

theorem cr_set {L : List CraneT} {i : Nat} (hi : i < L.length) (x : CraneT) (k : Nat) : cr (L.set i x) k = if k = i then x else cr L k := by
  unfold cr
  rw [List.getD_eq_getElem?_getD, List.getElem?_set]
  by_cases e : i = k
  · subst e; simp [hi]
  · rw [if_neg e, if_neg (fun h => e h.symm), ← List.getD_eq_getElem?_getD]

/-- The list with crane a at t. -/
def mvS (L : List CraneT) (a : Nat) (t : Int) : List CraneT := L.set a (t, (cr L a).2)
theorem mvS_len (L : List CraneT) (a : Nat) (t : Int) : (mvS L a t).length = L.length := List.length_set
/-- What is wrong with a move whatever the others do. -/
def mvF (L : List CraneT) (gap a t : Int) : Int :=
  if ¬ (CrP L gap ∧ 0 ≤ a ∧ a < L.length) then 1 else if ¬ ((cr L a.toNat).2.1 ≤ t ∧ t ≤ (cr L a.toNat).2.2) then 2 else 0
def mvC (L : List CraneT) (gap a t : Int) : Int := if mvF L gap a t = 0 then (if CrP (mvS L a.toNat t) gap then 0 else 3) else mvF L gap a t
def mvL (L : List CraneT) (gap a t : Int) : List CraneT := if mvC L gap a t = 0 then mvS L a.toNat t else L
theorem mvL_len (L : List CraneT) (gap a t : Int) : (mvL L gap a t).length = L.length := by unfold mvL; split; exact mvS_len _ _ _; rfl
theorem mvF_zero {L : List CraneT} {gap a t : Int} : mvF L gap a t = 0 ↔ (CrP L gap ∧ 0 ≤ a ∧ a < L.length) ∧ (cr L a.toNat).2.1 ≤ t ∧ t ≤ (cr L a.toNat).2.2 := by
  unfold mvF
  by_cases h1 : CrP L gap ∧ 0 ≤ a ∧ a < L.length
  · rw [if_neg (fun h => h h1)]
    by_cases h2 : (cr L a.toNat).2.1 ≤ t ∧ t ≤ (cr L a.toNat).2.2
    · rw [if_neg (fun h => h h2)]; exact ⟨fun _ => ⟨h1, h2⟩, fun _ => rfl⟩
    · rw [if_pos h2]; exact ⟨fun h => by omega, fun h => absurd h.2 h2⟩
  · rw [if_pos h1]; exact ⟨fun h => by omega, fun h => absurd h.1 h1⟩

/-! Pushes: s is 1 or -1. -/
/-- The place of the k-th crane outward from a. -/
def pI (s : Int) (a k : Nat) : Nat := ((a : Int) + s * k).toNat
/-- The list when k cranes outward have been looked at. -/
def shL (s : Int) (L : List CraneT) (gap : Int) (a : Nat) (t : Int) : Nat → List CraneT
  | 0 => mvS L a t
  | k + 1 =>
    let M := shL s L gap a t k
    let q := (cr M (pI s a k)).1 + s * gap
    if 0 < s * (q - (cr M (pI s a (k + 1))).1) then M.set (pI s a (k + 1)) (q, (cr M (pI s a (k + 1))).2) else M
theorem shL_len (s : Int) (L : List CraneT) (gap : Int) (a : Nat) (t : Int) : ∀ k, (shL s L gap a t k).length = L.length
  | 0 => mvS_len _ _ _
  | k + 1 => by
    simp only [shL]
    split
    · rw [List.length_set]; exact shL_len s L gap a t k
    · exact shL_len s L gap a t k
/-- How many stand outward of a. -/
def pN (s : Int) (a n : Nat) : Nat := if s = 1 then n - 1 - a else a
section
variable {s : Int} {L : List CraneT} {gap : Int} {a : Nat} {t : Int}
theorem pI_lt (hs : s = 1 ∨ s = -1) (ha : a < L.length) {k : Nat} (hk : k ≤ pN s a L.length) : pI s a k < L.length ∧ ((pI s a k : Nat) : Int) = a + s * k := by
  unfold pI; unfold pN at hk
  rcases hs with rfl | rfl
  · rw [if_pos rfl] at hk; omega
  · rw [if_neg (by omega)] at hk; omega
theorem pI_inj (hs : s = 1 ∨ s = -1) (ha : a < L.length) {k j : Nat} (hk : k ≤ pN s a L.length) (hj : j ≤ pN s a L.length) (h : pI s a k = pI s a j) : k = j := by
  have h1 := (pI_lt hs ha hk).2
  have h2 := (pI_lt hs ha hj).2
  rw [h] at h1
  rcases hs with rfl | rfl <;> omega
/-- What lies beyond k outward, or on the other side, is as it was. -/
theorem shL_out (hs : s = 1 ∨ s = -1) (ha : a < L.length) : ∀ k, k ≤ pN s a L.length → ∀ p, p < L.length → (∀ j, j ≤ k → p ≠ pI s a j) → cr (shL s L gap a t k) p = cr L p := by
  intro k
  induction k with
  | zero =>
    intro _ p hp h
    have h0 := h 0 (Nat.le_refl _)
    have e0 : pI s a 0 = a := by unfold pI; simp
    rw [e0] at h0
    simp only [shL, mvS]
    rw [cr_set ha, if_neg h0]
  | succ k ih =>
    intro hk p hp h
    have hi := ih (by omega) p hp (fun j hj => h j (by omega))
    simp only [shL]
    split
    · rw [cr_set (by rw [shL_len]; exact (pI_lt hs ha hk).1), if_neg (h (k + 1) (Nat.le_refl _))]; exact hi
    · exact hi
/-- What was looked at stays. -/
theorem shL_in (hs : s = 1 ∨ s = -1) (ha : a < L.length) {k : Nat} : ∀ m, k + m ≤ pN s a L.length → cr (shL s L gap a t (k + m)) (pI s a k) = cr (shL s L gap a t k) (pI s a k) := by
  intro m
  induction m with
  | zero => intro _; rfl
  | succ m ih =>
    intro hk
    rw [show k + (m + 1) = (k + m) + 1 by omega]
    simp only [shL]
    split
    · rw [cr_set (by rw [shL_len]; exact (pI_lt hs ha (by omega)).1), if_neg (fun h => by have := pI_inj hs ha (by omega) (by omega) h; omega)]
      exact ih (by omega)
    · exact ih (by omega)
theorem shL_low (hs : s = 1 ∨ s = -1) (ha : a < L.length) : ∀ k, k ≤ pN s a L.length → ∀ p, (cr (shL s L gap a t k) p).2 = (cr L p).2 := by
  intro k
  induction k with
  | zero =>
    intro _ p
    simp only [shL, mvS]
    rw [cr_set ha]
    split
    · rename_i h; rw [h]
    · rfl
  | succ k ih =>
    intro hk p
    have hi := ih (by omega) p
    simp only [shL]
    split
    · rw [cr_set (by rw [shL_len]; exact (pI_lt hs ha hk).1)]
      split
      · rename_i h; rw [← h]; exact hi
      · exact hi
    · exact hi
/-- Neighbours outward of right cranes. -/
theorem crP_out (hs : s = 1 ∨ s = -1) (ha : a < L.length) (h : CrP L gap) {k : Nat} (hk : k + 1 ≤ pN s a L.length) : 0 ≤ s * ((cr L (pI s a (k + 1))).1 - ((cr L (pI s a k)).1 + s * gap)) := by
  have h1 := (pI_lt hs ha (show k ≤ pN s a L.length by omega))
  have h2 := pI_lt hs ha hk
  rcases hs with rfl | rfl
  · have := (h.2.2 _ h2.1).2 (by omega)
    rw [show pI 1 a (k + 1) - 1 = pI 1 a k by omega] at this
    omega
  · have := (h.2.2 _ h1.1).2 (by omega)
    rw [show pI (-1) a k - 1 = pI (-1) a (k + 1) by omega] at this
    omega
/-- Behind the first that is far enough nothing changes. -/
theorem shL_stop (hs : s = 1 ∨ s = -1) (ha : a < L.length) (h : CrP L gap) {k : Nat} (hk : k + 1 ≤ pN s a L.length)
    (hst : ¬ 0 < s * ((cr (shL s L gap a t k) (pI s a k)).1 + s * gap - (cr (shL s L gap a t k) (pI s a (k + 1))).1)) : ∀ m, k + m ≤ pN s a L.length → shL s L gap a t (k + m) = shL s L gap a t k := by
  intro m
  induction m with
  | zero => intro _; rfl
  | succ m ih =>
    intro hm
    have e := ih (by omega)
    rw [show k + (m + 1) = (k + m) + 1 by omega]
    simp only [shL]
    rw [e]
    by_cases hm0 : m = 0
    · subst hm0
      simp only [Nat.add_zero]
      rw [if_neg hst]
    · have hc := crP_out hs ha h (k := k + m) (by omega)
      have o1 : cr (shL s L gap a t k) (pI s a (k + m)) = cr L (pI s a (k + m)) := shL_out hs ha k (by omega) _ (pI_lt hs ha (by omega)).1 (fun j hj he => by have := pI_inj hs ha (by omega) (by omega) he; omega)
      have o2 : cr (shL s L gap a t k) (pI s a (k + m + 1)) = cr L (pI s a (k + m + 1)) := shL_out hs ha k (by omega) _ (pI_lt hs ha (by omega)).1 (fun j hj he => by have := pI_inj hs ha (by omega) (by omega) he; omega)
      rw [o1, o2, if_neg]
      rcases hs with rfl | rfl <;> omega
/-- What is held while a push goes outward: all that was looked at is right and far enough. -/
structure Psh (s : Int) (L : List CraneT) (gap : Int) (a : Nat) (t : Int) (k : Nat) : Prop where
  good : ∀ j, j ≤ k → CrG (cr (shL s L gap a t k) (pI s a j))
  far : ∀ j, j < k → 0 ≤ s * ((cr (shL s L gap a t k) (pI s a (j + 1))).1 - ((cr (shL s L gap a t k) (pI s a j)).1 + s * gap))
theorem Psh.start (ha : a < L.length) (h : CrP L gap) (ht : (cr L a).2.1 ≤ t ∧ t ≤ (cr L a).2.2) : Psh s L gap a t 0 := by
  refine ⟨fun j hj => ?_, fun j hj => by omega⟩
  obtain rfl : j = 0 := by omega
  have e0 : pI s a 0 = a := by unfold pI; simp
  rw [e0]
  simp only [shL, mvS]
  rw [cr_set ha, if_pos rfl]
  have := (h.2.2 a ha).1
  unfold CrG at this ⊢
  dsimp only
  omega
theorem Psh.next (hs : s = 1 ∨ s = -1) (ha : a < L.length) {k : Nat} (hk : k + 1 ≤ pN s a L.length) (h : Psh s L gap a t k) (hp : 0 < s * ((cr (shL s L gap a t k) (pI s a k)).1 + s * gap - (cr (shL s L gap a t k) (pI s a (k + 1))).1))
    (hg : CrG ((cr (shL s L gap a t k) (pI s a k)).1 + s * gap, (cr (shL s L gap a t k) (pI s a (k + 1))).2)) : Psh s L gap a t (k + 1) := by
  have e1 : shL s L gap a t (k + 1) = (shL s L gap a t k).set (pI s a (k + 1)) ((cr (shL s L gap a t k) (pI s a k)).1 + s * gap, (cr (shL s L gap a t k) (pI s a (k + 1))).2) := by
    simp only [shL]; rw [if_pos hp]
  have hlt : pI s a (k + 1) < (shL s L gap a t k).length := by rw [shL_len]; exact (pI_lt hs ha hk).1
  have hx : ∀ j, j ≤ k + 1 → cr (shL s L gap a t (k + 1)) (pI s a j) = if j = k + 1 then ((cr (shL s L gap a t k) (pI s a k)).1 + s * gap, (cr (shL s L gap a t k) (pI s a (k + 1))).2) else cr (shL s L gap a t k) (pI s a j) := by
    intro j hj
    rw [e1, cr_set hlt]
    by_cases e : j = k + 1
    · subst e; rw [if_pos rfl, if_pos rfl]
    · rw [if_neg e, if_neg (fun h => e (pI_inj hs ha (by omega) hk h))]
  refine ⟨fun j hj => ?_, fun j hj => ?_⟩
  · rw [hx j hj]
    split
    · exact hg
    · exact h.good j (by omega)
  · rw [hx (j + 1) (by omega), hx j (by omega), if_neg (show ¬ j = k + 1 by omega)]
    by_cases e : j = k
    · subst e; rw [if_pos rfl]; rcases hs with rfl | rfl <;> (dsimp only; omega)
    · rw [if_neg (by omega)]; exact h.far j (by omega)
/-- The push has come to its end: the cranes are right. -/
theorem Psh.done (hs : s = 1 ∨ s = -1) (ha : a < L.length) (h0 : CrP L gap) (hst : 0 < s * (t - (cr L a).1)) {k : Nat} (hk : k ≤ pN s a L.length) (h : Psh s L gap a t k)
    (hend : k + 1 ≤ pN s a L.length → ¬ 0 < s * ((cr (shL s L gap a t k) (pI s a k)).1 + s * gap - (cr (shL s L gap a t k) (pI s a (k + 1))).1)) : CrP (shL s L gap a t k) gap := by
  have hl := shL_len s L gap a t k
  refine ⟨by rw [hl]; exact h0.1, h0.2.1, fun p hp => ?_⟩
  rw [hl] at hp
  have hold := h0.2.2 p hp
  have ea : pI s a 0 = a := by unfold pI; simp
  -- which of the two kinds a place is
  have kind : ∀ q, q < L.length → (∃ j, j ≤ k ∧ q = pI s a j) ∨ (∀ j, j ≤ k → q ≠ pI s a j) := fun q _ => by
    by_cases hq : ∃ j, j ≤ k ∧ q = pI s a j
    · exact Or.inl hq
    · exact Or.inr fun j hj e => hq ⟨j, hj, e⟩
  have pos : ∀ j, j ≤ k → ((pI s a j : Nat) : Int) = a + s * j := fun j hj => (pI_lt hs ha (by omega)).2
  have hgd : CrG (cr (shL s L gap a t k) p) := by
    rcases kind p hp with ⟨j, hj, rfl⟩ | ho
    · exact h.good j hj
    · rw [shL_out hs ha k hk p hp ho]; exact hold.1
  refine ⟨hgd, fun hp0 => ?_⟩
  have hold2 := hold.2 hp0
  have h0s : (cr (shL s L gap a t k) a).1 = t := by
    have := shL_in (gap := gap) (t := t) hs ha (k := 0) k (by omega)
    rw [ea, Nat.zero_add] at this
    rw [this]
    simp only [shL, mvS]
    rw [cr_set ha, if_pos rfl]
  rcases kind p hp with ⟨j, hj, ej⟩ | ho <;> rcases kind (p - 1) (by omega) with ⟨i, hi, ei⟩ | ho'
  · have p1 := pos j hj
    have p2 := pos i hi
    rcases hs with rfl | rfl
    · obtain rfl : j = i + 1 := by omega
      have := h.far i (by omega)
      rw [← ei, ← ej] at this; omega
    · obtain rfl : i = j + 1 := by omega
      have := h.far j (by omega)
      rw [← ei, ← ej] at this; omega
  · have p1 := pos j hj
    rcases hs with rfl | rfl
    · have hj0 : j = 0 := by
        rcases Nat.eq_zero_or_pos j with e | e
        · exact e
        · exact absurd (by have := pos (j - 1) (by omega); omega) (ho' (j - 1) (by omega))
      subst hj0
      rw [ea] at ej
      have e1 : cr L p = cr L a := by rw [ej]
      have e2 : cr (shL 1 L gap a t k) p = cr (shL 1 L gap a t k) a := by rw [ej]
      rw [shL_out (Or.inl rfl) ha k hk _ (by omega) ho', e2, h0s]
      rw [e1] at hold2
      omega
    · have hk1 : j = k := by
        rcases Nat.lt_or_ge j k with e | e
        · exact absurd (by have := pos (j + 1) (by omega); omega) (ho' (j + 1) (by omega))
        · omega
      subst hk1
      have hkn : j + 1 ≤ pN (-1) a L.length := by unfold pN; rw [if_neg (by omega)]; omega
      have e2 : pI (-1) a (j + 1) = p - 1 := by have := (pI_lt (Or.inr rfl) ha hkn).2; omega
      have := hend hkn
      rw [e2, ← ej] at this
      omega
  · have p2 := pos i hi
    rcases hs with rfl | rfl
    · have hk1 : i = k := by
        rcases Nat.lt_or_ge i k with e | e
        · exact absurd (by have := pos (i + 1) (by omega); omega) (ho (i + 1) (by omega))
        · omega
      subst hk1
      have hkn : i + 1 ≤ pN 1 a L.length := by unfold pN; rw [if_pos rfl]; omega
      have e2 : pI 1 a (i + 1) = p := by have := (pI_lt (Or.inl rfl) ha hkn).2; omega
      have := hend hkn
      rw [e2, ← ei] at this
      omega
    · have hi0 : i = 0 := by
        rcases Nat.eq_zero_or_pos i with e | e
        · exact e
        · exact absurd (by have := pos (i - 1) (by omega); omega) (ho (i - 1) (by omega))
      subst hi0
      rw [ea] at ei
      rw [shL_out (Or.inr rfl) ha k hk _ hp ho, ei, h0s]
      rw [ei] at hold2
      omega
  · rw [shL_out hs ha k hk _ hp ho, shL_out hs ha k hk _ (by omega) ho']
    exact hold2
/-- One that is pushed beyond what it may: the cranes are not right in the end. -/
theorem push_bad (hs : s = 1 ∨ s = -1) (ha : a < L.length) {k : Nat} (hk : k + 1 ≤ pN s a L.length) (hp : 0 < s * ((cr (shL s L gap a t k) (pI s a k)).1 + s * gap - (cr (shL s L gap a t k) (pI s a (k + 1))).1))
    (hg : ¬ CrG ((cr (shL s L gap a t k) (pI s a k)).1 + s * gap, (cr (shL s L gap a t k) (pI s a (k + 1))).2)) : ¬ CrP (shL s L gap a t (pN s a L.length)) gap := by
  intro h
  have hi := shL_in (L := L) (gap := gap) (t := t) hs ha (k := k + 1) (pN s a L.length - (k + 1)) (by omega)
  rw [show k + 1 + (pN s a L.length - (k + 1)) = pN s a L.length by omega] at hi
  have := (h.2.2 (pI s a (k + 1)) (by rw [shL_len]; exact (pI_lt hs ha hk).1)).1
  rw [hi] at this
  simp only [shL] at this
  rw [if_pos hp, cr_set (by rw [shL_len]; exact (pI_lt hs ha hk).1), if_pos rfl] at this
  exact hg this
end
/-- What a push tells. -/
def psS (L : List CraneT) (a : Nat) (t : Int) : Int := if (cr L a).1 < t then 1 else -1
def psE (L : List CraneT) (gap : Int) (a : Nat) (t : Int) : List CraneT := if t = (cr L a).1 then mvS L a t else shL (psS L a t) L gap a t (pN (psS L a t) a L.length)
def psV (L : List CraneT) (gap a t : Int) : List CraneT × Bool := if mvF L gap a t = 0 ∧ CrP (psE L gap a.toNat t) gap then (psE L gap a.toNat t, true) else (L, false)
theorem psV_len (L : List CraneT) (gap a t : Int) : (psV L gap a t).1.length = L.length := by
  unfold psV
  split
  · unfold psE
    split
    · exact mvS_len _ _ _
    · exact shL_len _ _ _ _ _ _
  · rfl
theorem mvS_same {L : List CraneT} {a : Nat} {t : Int} (ha : a < L.length) (h : t = (cr L a).1) : mvS L a t = L := by
  subst h
  unfold mvS
  apply List.ext_getElem?
  intro k
  rw [List.getElem?_set]
  split
  · rename_i e
    subst e
    rw [List.getElem?_eq_getElem ha]
    simp [cr, List.getD, ha]
  · rfl

/-! Moves one behind the other. -/
abbrev mov (M : List MoveT) (k : Nat) : MoveT := M.getD k default
def rmL (L : List CraneT) (gap : Int) (M : List MoveT) : Nat → List CraneT
  | 0 => L
  | k + 1 => mvL (rmL L gap M k) gap (mov M k).1 (mov M k).2
def rmC (L : List CraneT) (gap : Int) (M : List MoveT) (k : Nat) : Int := mvC (rmL L gap M k) gap (mov M k).1 (mov M k).2
def rmCs (L : List CraneT) (gap : Int) (M : List MoveT) (k : Nat) : List Int := (List.range k).map (rmC L gap M)
/-- How many of the moves are done. -/
def rmN (M : List MoveT) : Nat := if M.length ≤ 60 then M.length else 0
theorem rmL_len (L : List CraneT) (gap : Int) (M : List MoveT) : ∀ k, (rmL L gap M k).length = L.length
  | 0 => rfl
  | k + 1 => by simp only [rmL]; rw [mvL_len]; exact rmL_len L gap M k
theorem rmCs_len (L : List CraneT) (gap : Int) (M : List MoveT) (k : Nat) : (rmCs L gap M k).length = k := by simp [rmCs]
theorem rmCs_next (L : List CraneT) (gap : Int) (M : List MoveT) (k : Nat) : rmCs L gap M (k + 1) = rmCs L gap M k ++ [rmC L gap M k] := by simp [rmCs, List.range_succ]
theorem rmN_le (M : List MoveT) : rmN M ≤ 60 := by unfold rmN; split <;> omega

end Go.Proofs.Ytogoknldhimgfaa

/- Calls at a quay in numbers. No statement about the program stands here. -/
import Derived.Test.YtogoknldhimgfaaRCall
import Derived.Test.YtogoknldhimgfaaWalkD
namespace Go.Proofs.Ytogoknldhimgfaa
open Go.RowKit

/-- The k-th call; its parts. -/
abbrev ca (L : List CallT) (k : Nat) : CallT := L.getD k default
abbrev cId (c : CallT) : Int := c.1
abbrev cLg (c : CallT) : Int := c.2.1
abbrev cFr (c : CallT) : Int := c.2.2.1
abbrev cTo (c : CallT) : Int := c.2.2.2.1
abbrev cAt (c : CallT) : Int := c.2.2.2.2
/-- What is asked of a call but its Id. -/
def CaC (long : Int) (c : CallT) : Prop := (1 ≤ cLg c ∧ cLg c ≤ 1000) ∧ (0 ≤ cFr c ∧ cFr c < cTo c ∧ cTo c ≤ 100000000) ∧ (cAt c = -1 ∨ (0 ≤ cAt c ∧ cAt c + cLg c ≤ long))
instance (long : Int) (c : CallT) : Decidable (CaC long c) := by unfold CaC; infer_instance
/-- The k-th call is right. -/
def CaS (long : Int) (L : List CallT) (k : Nat) : Prop := (1 ≤ cId (ca L k) ∧ cId (ca L k) ≤ 1000000) ∧ CaC long (ca L k) ∧ (0 < k → cId (ca L (k - 1)) < cId (ca L k))
instance (long : Int) (L : List CallT) (k : Nat) : Decidable (CaS long L k) := by unfold CaS; infer_instance
def CaP (long : Int) (L : List CallT) : Prop := (1 ≤ long ∧ long ≤ 1000) ∧ L.length ≤ 24 ∧ ∀ k, k < L.length → CaS long L k
instance (long : Int) (L : List CallT) : Decidable (CaP long L) := by unfold CaP; infer_instance
def caB (long : Int) (L : List CallT) : Bool := decide (CaP long L)
theorem caB_iff {long : Int} {L : List CallT} : caB long L = true ↔ CaP long L := by simp [caB]
theorem caB_not {long : Int} {L : List CallT} (h : ¬ CaP long L) : caB long L = false := by simpa [caB] using h
theorem caB_no {long : Int} {L : List CallT} (h : caB long L = false) : ¬ CaP long L := by simpa [caB] using h
theorem caB_row {long : Int} {L : List CallT} {k : Nat} (hk : k < L.length) (h : ¬ CaS long L k) : caB long L = false := caB_not fun h' => h (h'.2.2 k hk)
theorem caB_long {long : Int} {L : List CallT} (h : inB long 1 1000 = false) : caB long L = false := caB_not fun h' => by have := h'.1; rw [inB_mk (by omega) (by omega)] at h; cases h
theorem caB_all {long : Int} {L : List CallT} (h1 : inB long 1 1000 = true) (h2 : L.length ≤ 24) (h : ∀ k, k < L.length → CaS long L k) : caB long L = true := caB_iff.2 ⟨inB_true h1, h2, h⟩
theorem inB_no {x a b : Int} (h : inB x a b = false) : x < a ∨ b < x := by
  by_cases h1 : x < a
  · exact Or.inl h1
  · by_cases h2 : b < x
    · exact Or.inr h2
    · rw [inB_mk (by omega) (by omega)] at h; cases h
/-- The Id ahead of the k-th call. -/
def ahd (L : List CallT) (k : Nat) : Int := if k = 0 then 0 else cId (ca L (k - 1))
theorem ahd_bd {long : Int} {L : List CallT} {k : Nat} (h : ∀ r, r < k → CaS long L r) : 0 ≤ ahd L k ∧ ahd L k ≤ 1000000 := by
  unfold ahd
  split
  · omega
  · have := (h (k - 1) (by omega)).1; omega
theorem caS_ahd {long : Int} {L : List CallT} {k : Nat} (h : ∀ r, r < k → CaS long L r) : CaS long L k ↔ (ahd L k + 1 ≤ cId (ca L k) ∧ cId (ca L k) ≤ 1000000) ∧ CaC long (ca L k) := by
  unfold CaS ahd
  by_cases e : k = 0
  · rw [if_pos e]
    constructor
    · rintro ⟨h1, h2, _⟩; exact ⟨⟨by omega, h1.2⟩, h2⟩
    · rintro ⟨h1, h2⟩; exact ⟨⟨by omega, h1.2⟩, h2, fun h => by omega⟩
  · have := (h (k - 1) (by omega)).1
    rw [if_neg e]
    constructor
    · rintro ⟨h1, h2, h3⟩; have := h3 (by omega); exact ⟨⟨by omega, h1.2⟩, h2⟩
    · rintro ⟨h1, h2⟩; exact ⟨⟨by omega, h1.2⟩, h2, fun _ => by omega⟩

/-! The greatest sum of lengths. -/
def onAt (c : CallT) (m : Int) : Bool := decide (cFr c ≤ m) && decide (m < cTo c)
def lgs (L : List CallT) (m : Int) : Nat → Int
  | 0 => 0
  | k + 1 => lgs L m k + (if onAt (ca L k) m then cLg (ca L k) else 0)
def bdM (L : List CallT) : Nat → Int
  | 0 => 0
  | k + 1 => max (bdM L k) (lgs L (cFr (ca L k)) L.length)
def bdV (long : Int) (L : List CallT) : Int × Bool := if CaP long L then (bdM L L.length, true) else (0, false)
theorem lgs_bd {long : Int} {L : List CallT} (h : CaP long L) (m : Int) : ∀ k, k ≤ L.length → 0 ≤ lgs L m k ∧ lgs L m k ≤ 1000 * (k : Int) := by
  intro k
  induction k with
  | zero => intro _; simp [lgs]
  | succ k ih =>
    intro hk
    have h1 := ih (by omega)
    have h2 := (h.2.2 k (by omega)).2.1.1
    simp only [lgs]
    split <;> (push_cast; omega)
theorem bdM_bd {long : Int} {L : List CallT} (h : CaP long L) : ∀ k, 0 ≤ bdM L k ∧ bdM L k ≤ 24000 := by
  intro k
  induction k with
  | zero => simp [bdM]
  | succ k ih =>
    have h1 := lgs_bd h (cFr (ca L k)) L.length (Nat.le_refl _)
    have h2 := h.2.1
    simp only [bdM]
    omega
theorem onAt_in (c : CallT) (m : Int) : onAt c m = inB m (cFr c) (cTo c - 1) := by
  rw [Bool.eq_iff_iff]
  simp only [onAt, inB, Bool.and_eq_true, decide_eq_true_eq]
  omega

end Go.Proofs.Ytogoknldhimgfaa

/- Twice the volume, and four times the moment along, as plain functions of the strips; the contracts of both Volume2 and both Along4. -/
import Derived.Test.YtliodmahbdmcbaaWalkL
namespace Go.Proofs.Ytliodmahbdmcbaa
open Go.RowKit

theorem strips_len (step rise : Int) (R : List (List Int)) (c : Int) : (strips step rise R c).length ≤ 11 := by
  unfold strips
  by_cases h : waterOk step rise R c = true
  · rw [if_pos h, range_len]
    unfold waterOk at h
    simp only [Bool.and_eq_true] at h
    have := (hullOk_right h.1).len2
    omega
  · rw [if_neg h]; simp

theorem strips_at {step rise : Int} {R : List (List Int)} {c : Int} {i : Nat} (hi : i < (strips step rise R c).length) : Right step rise R ∧ 0 ≤ (strips step rise R c).getD i 0 ∧ (strips step rise R c).getD i 0 ≤ 4000000 := by
  unfold strips at hi ⊢
  by_cases h : waterOk step rise R c = true
  · rw [if_pos h] at hi ⊢
    rw [range_len] at hi
    unfold waterOk at h
    simp only [Bool.and_eq_true] at h
    have hR := hullOk_right h.1
    have hc := inB_true h.2
    have e : ((List.range (R.length - 1)).map (strip2 step rise R c.toNat)).getD i 0 = strip2 step rise R c.toNat i := by simp [List.getD, hi]
    rw [e]
    exact ⟨hR, (strip2_bd hR (s := i) (c := c.toNat) (by omega) (by omega)).2⟩
  · rw [if_neg h] at hi; simp at hi

def sumL (xs : List Int) (k : Nat) : Int := sumTo (fun i => xs.getD i 0) k

theorem sumL_bd {step rise : Int} {R : List (List Int)} {c : Int} {k : Nat} (hk : k ≤ (strips step rise R c).length) : 0 ≤ sumL (strips step rise R c) k ∧ sumL (strips step rise R c) k ≤ 48000000 := by
  have h := sumTo_bd (f := fun i => (strips step rise R c).getD i 0) (B := 4000000) (n := (strips step rise R c).length) (fun i hi => (strips_at hi).2) k hk
  have := strips_len step rise R c
  unfold sumL
  omega

def volume (step rise : Int) (R : List (List Int)) (c : Int) : Int := sumL (strips step rise R c) (strips step rise R c).length

end Go.Proofs.Ytliodmahbdmcbaa

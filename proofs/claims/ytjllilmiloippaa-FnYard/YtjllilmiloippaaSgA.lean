/- Shears and bendings as numbers, and when strips are right; contracts of the specification's l3All and the program's stripsOk. -/
import Derived.Test.YtjllilmiloippaaWalkL
namespace Go.Proofs.Ytjllilmiloippaa
open Go.RowKit

theorem sumTo_abs {f : Nat → Int} {B : Int} {n : Nat} (h : ∀ i, i < n → -B ≤ f i ∧ f i ≤ B) : ∀ k, k ≤ n → -(k * B) ≤ sumTo f k ∧ sumTo f k ≤ k * B
  | 0, _ => by simp [sumTo]
  | k + 1, hk => by
    have ih := sumTo_abs h k (by omega)
    have hf := h k (by omega)
    have e : ((k + 1 : Nat) : Int) * B = k * B + B := by rw [Int.natCast_add, Int.add_mul]; simp
    rw [e]
    simp only [sumTo]
    omega

def shOk (W B : List Int) : Bool := decide (W.length = B.length) && decide (W.length ≤ 40) && W.all (fun x => inB x 0 1000000) && B.all (fun x => inB x 0 2000000)

/-- Twice the shear at station k. -/
def shAt (W B : List Int) (k : Nat) : Int := sumTo (fun i => 2 * W.getD i 0 - B.getD i 0) k
/-- Four times the bending at station k. -/
def beAt (W B : List Int) (st : Int) (k : Nat) : Int := sumTo (fun i => st * (shAt W B i + shAt W B (i + 1))) k

def shear (W B : List Int) : List Int := if shOk W B = true then (List.range (W.length + 1)).map (shAt W B) else []
def beOk (W B : List Int) (st : Int) : Bool := shOk W B && inB st 1 100
def bend (W B : List Int) (st : Int) : List Int := if beOk W B st = true then (List.range (W.length + 1)).map (beAt W B st) else []
def balanced (W B : List Int) (st : Int) : Bool := beOk W B st && decide (0 < W.length) && decide (shAt W B W.length = 0) && decide (beAt W B st W.length = 0)

structure ShR (W B : List Int) : Prop where
  same : B.length = W.length
  len : W.length ≤ 40
  w : ∀ i, i < W.length → 0 ≤ W.getD i 0 ∧ W.getD i 0 ≤ 1000000
  b : ∀ i, i < W.length → 0 ≤ B.getD i 0 ∧ B.getD i 0 ≤ 2000000

theorem shOk_r {W B : List Int} (h : shOk W B = true) : ShR W B := by
  simp only [shOk, Bool.and_eq_true, decide_eq_true_eq] at h
  obtain ⟨⟨⟨h1, h2⟩, h3⟩, h4⟩ := h
  exact ⟨h1.symm, h2, fun i hi => inB_true (all_at (d := 0) h3 hi), fun i hi => inB_true (all_at (d := 0) h4 (by omega))⟩

theorem shAt_bd {W B : List Int} (h : ShR W B) {k : Nat} (hk : k ≤ W.length) : -80000000 ≤ shAt W B k ∧ shAt W B k ≤ 80000000 := by
  have := sumTo_abs (f := fun i => 2 * W.getD i 0 - B.getD i 0) (B := 2000000) (n := W.length) (fun i hi => by have := h.w i hi; have := h.b i hi; omega) k hk
  have := h.len
  unfold shAt
  omega

theorem beStep_bd {W B : List Int} {st : Int} (h : ShR W B) (hs : 1 ≤ st ∧ st ≤ 100) {k : Nat} (hk : k < W.length) : -16000000000 ≤ st * (shAt W B k + shAt W B (k + 1)) ∧ st * (shAt W B k + shAt W B (k + 1)) ≤ 16000000000 := by
  have h1 := shAt_bd h (show k ≤ W.length by omega)
  have h2 := shAt_bd h (show k + 1 ≤ W.length by omega)
  have hx1 : -160000000 ≤ shAt W B k + shAt W B (k + 1) := by omega
  have hx2 : shAt W B k + shAt W B (k + 1) ≤ 160000000 := by omega
  generalize shAt W B k + shAt W B (k + 1) = x at *
  constructor
  · have := Int.mul_le_mul_of_nonneg_left hx1 (show 0 ≤ st by omega); omega
  · have := Int.mul_le_mul_of_nonneg_left hx2 (show 0 ≤ st by omega); omega

theorem beAt_bd {W B : List Int} {st : Int} (h : ShR W B) (hs : 1 ≤ st ∧ st ≤ 100) {k : Nat} (hk : k ≤ W.length) : -640000000000 ≤ beAt W B st k ∧ beAt W B st k ≤ 640000000000 := by
  have := sumTo_abs (f := fun i => st * (shAt W B i + shAt W B (i + 1))) (B := 16000000000) (n := W.length) (fun i hi => beStep_bd h hs hi) k hk
  have := h.len
  unfold beAt
  omega

theorem shAt_succ (W B : List Int) (k : Nat) : shAt W B (k + 1) = shAt W B k + (2 * W.getD k 0 - B.getD k 0) := rfl
theorem beAt_succ (W B : List Int) (st : Int) (k : Nat) : beAt W B st (k + 1) = beAt W B st k + st * (shAt W B k + shAt W B (k + 1)) := rfl
theorem shear_len (W B : List Int) : (shear W B).length ≤ 41 := by
  unfold shear
  split
  · rename_i h; have := (shOk_r h).len; simp; omega
  · simp
theorem bend_len (W B : List Int) (st : Int) : (bend W B st).length ≤ 41 := by
  unfold bend
  split
  · rename_i h; simp only [beOk, Bool.and_eq_true] at h; have := (shOk_r h.1).len; simp; omega
  · simp

end Go.Proofs.Ytjllilmiloippaa

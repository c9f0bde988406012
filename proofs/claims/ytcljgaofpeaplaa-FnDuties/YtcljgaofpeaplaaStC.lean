/- When tanks are right, what their free surfaces sum to; contracts of the program's tanksOk and surfaces and of the specification's l2Tanks. -/
import Derived.Test.YtcljgaofpeaplaaRTank
import Derived.Test.YtcljgaofpeaplaaStB
namespace Go.Proofs.Ytcljgaofpeaplaa
open Go.RowKit

def tankB (m : I2) : Bool := inB m.1 0 100 && inB m.2 0 50
def tanksB (L : List I2) : Bool := decide (L.length ≤ 10) && L.all tankB

theorem tanksB_long {L : List I2} (h : ¬ L.length ≤ 10) : tanksB L = false := by simp [tanksB, h]

theorem tanksB_at {L : List I2} (h : tanksB L = true) : L.length ≤ 10 ∧ ∀ i, i < L.length → tankB (L.getD i default) = true := by
  unfold tanksB at h
  simp only [Bool.and_eq_true, decide_eq_true_eq] at h
  exact ⟨h.1, fun i hi => all_at h.2 hi⟩

theorem tankB_true {x y : Int} (h : tankB (x, y) = true) : (0 ≤ x ∧ x ≤ 100) ∧ (0 ≤ y ∧ y ≤ 50) := by
  unfold tankB at h
  simp only [Bool.and_eq_true] at h
  exact ⟨inB_true h.1, inB_true h.2⟩

def surfF (T : List I2) (i : Nat) : Int := (T.getD i default).1 * (T.getD i default).2 * (T.getD i default).2 * (T.getD i default).2
def surf (T : List I2) : Int := sumTo (surfF T) T.length

theorem surf_term {x y : Int} (h : tankB (x, y) = true) : (0 ≤ x * y ∧ x * y ≤ 5000) ∧ (0 ≤ x * y * y ∧ x * y * y ≤ 250000) ∧ (0 ≤ x * y * y * y ∧ x * y * y * y ≤ 12500000) := by
  have hm := tankB_true h
  have h1 := mul_bd hm.1.1 hm.1.2 hm.2.1 hm.2.2
  have h2 := mul_bd h1.1 h1.2 hm.2.1 hm.2.2
  exact ⟨h1, h2, mul_bd h2.1 h2.2 hm.2.1 hm.2.2⟩

theorem surf_to {T : List I2} (h : tanksB T = true) {k : Nat} (hk : k ≤ T.length) : 0 ≤ sumTo (surfF T) k ∧ sumTo (surfF T) k ≤ k * 12500000 :=
  sumTo_bd (fun i hi => (surf_term ((tanksB_at h).2 i hi)).2.2) k hk

theorem surf_bd {T : List I2} (h : tanksB T = true) : 0 ≤ surf T ∧ surf T ≤ 125000000 := by
  have := surf_to h (Nat.le_refl _)
  have := (tanksB_at h).1
  unfold surf
  omega

end Go.Proofs.Ytcljgaofpeaplaa

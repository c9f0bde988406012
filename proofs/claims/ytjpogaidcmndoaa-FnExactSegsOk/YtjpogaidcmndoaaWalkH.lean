/- The area at a water line as a plain function, and the contracts of the specification's and the program's Plane: both tell it. -/
import Derived.Test.YtjpogaidcmndoaaWalkG
namespace Go.Proofs.Ytjpogaidcmndoaa
open Go.RowKit

theorem ret_int {k : IntKind} {a b : Int} (h : a = b) : Ending.returned (.int k a) = .returned (.int k b) := by rw [h]

/-- f 0 + f 1 + .. + f (k - 1). -/
def sumTo (f : Nat → Int) : Nat → Int
  | 0 => 0
  | k + 1 => sumTo f k + f k

theorem sumTo_bd {f : Nat → Int} {B : Int} {n : Nat} (h : ∀ i, i < n → 0 ≤ f i ∧ f i ≤ B) : ∀ k, k ≤ n → 0 ≤ sumTo f k ∧ sumTo f k ≤ k * B
  | 0, _ => by simp [sumTo]
  | k + 1, hk => by
    have h1 := sumTo_bd h k (by omega)
    have h2 := h k (by omega)
    have e : ((k + 1 : Nat) : Int) * B = k * B + B := by
      rw [Int.natCast_add, Int.add_mul]; simp
    simp only [sumTo]
    omega

theorem mul_bd {a b A B : Int} (h1 : 0 ≤ a) (h2 : a ≤ A) (h3 : 0 ≤ b) (h4 : b ≤ B) : 0 ≤ a * b ∧ a * b ≤ A * B :=
  ⟨Int.mul_nonneg h1 h3, Int.mul_le_mul h2 h4 h3 (Int.le_trans h1 h2)⟩

/-- What a right hull is. -/
structure Right (step rise : Int) (R : List (List Int)) : Prop where
  step1 : 1 ≤ step
  step2 : step ≤ 100
  rise1 : 1 ≤ rise
  rise2 : rise ≤ 20
  len1 : 2 ≤ R.length
  len2 : R.length ≤ 12
  wat1 : 2 ≤ (R.getD 0 []).length
  wat2 : (R.getD 0 []).length ≤ 10
  even : ∀ r, r < R.length → (R.getD r []).length = (R.getD 0 []).length
  cells : ∀ r c, r < R.length → c < (R.getD 0 []).length → 0 ≤ cellOf R r c ∧ cellOf R r c ≤ 50

theorem hullOk_right {step rise : Int} {R : List (List Int)} (h : hullOk step rise R = true) : Right step rise R := by
  unfold hullOk at h
  simp only [Bool.and_eq_true] at h
  obtain ⟨⟨⟨h1, h2⟩, h3⟩, h4⟩ := h
  have h1 := inB_true h1
  have h2 := inB_true h2
  have h3 := inB_true h3
  have row : ∀ r, r < R.length → (R.getD r []).length = (R.getD 0 []).length ∧ inB (R.getD r []).length 2 10 = true ∧ ((R.getD r []).all fun x => inB x 0 50) = true := fun r hr => by
    have := all_at (d := []) h4 hr
    unfold rowOk at this
    simp only [Bool.and_eq_true, beq_iff_eq] at this
    exact ⟨this.1.1, this.1.2, this.2⟩
  have r0 := row 0 (by omega)
  have i0 := inB_true r0.2.1
  refine ⟨h1.1, h1.2, h2.1, h2.2, by omega, by omega, by omega, by omega, fun r hr => (row r hr).1, fun r c hr hc => ?_⟩
  have := all_at (d := 0) (row r hr).2.2 (show c < (R.getD r []).length by rw [(row r hr).1]; exact hc)
  exact inB_true this

def planeF (step : Int) (R : List (List Int)) (c : Nat) (s : Nat) : Int := step * (cellOf R s c + cellOf R (s + 1) c)

theorem planeF_bd {step rise : Int} {R : List (List Int)} (h : Right step rise R) {c : Nat} (hc : c < (R.getD 0 []).length) : ∀ s, s < R.length - 1 → 0 ≤ planeF step R c s ∧ planeF step R c s ≤ 10000 := fun s hs => by
  have a := h.cells s c (by omega) hc
  have b := h.cells (s + 1) c (by omega) hc
  have h1 := h.step1
  have h2 := h.step2
  exact mul_bd (A := 100) (B := 100) (by omega) h2 (by omega) (by omega)

def plane (step rise : Int) (R : List (List Int)) (c : Int) : Int := if waterOk step rise R c = true then sumTo (planeF step R c.toNat) (R.length - 1) else 0

/-- Two rows beside each other, their values written out, with the numbers at place j. -/
theorem two_cells {w : World} {ao : Option Addr} {R : List (List Int)} {k j : Nat} (h : ∀ r, r < R.length → ∃ b o vr, ao = some ⟨b, o, none⟩ ∧ w.cell? ⟨b, o + r, none⟩ = some vr ∧ IntsIn w vr (R.getD r [])) (hk : k + 1 < R.length)
    (hj : j < (R.getD k []).length) (hj' : j < (R.getD (k + 1) []).length) :
    ∃ b o b1 o1 m cr b2 o2 m' cr', ao = some ⟨b, o, none⟩ ∧ w.cell? ⟨b, o + k, none⟩ = some (.slice (some ⟨b1, o1, none⟩) m cr) ∧ w.cell? ⟨b, o + (k + 1), none⟩ = some (.slice (some ⟨b2, o2, none⟩) m' cr') ∧
      w.cell? ⟨b1, o1 + j, none⟩ = some (.int .i64 (cellOf R k j)) ∧ w.cell? ⟨b2, o2 + j, none⟩ = some (.int .i64 (cellOf R (k + 1) j)) ∧ (j : Int) < m ∧ (j : Int) < m' := by
  obtain ⟨b, o, ar, m, cr, rfl, hcell, hrow, EM, hm0⟩ := rowAt h (show k < R.length by omega)
  obtain ⟨b', o', ar', m', cr', eb, hcell', hrow', EM', hm0'⟩ := rowAt h hk
  simp only [Option.some.injEq, Addr.mk.injEq, and_true] at eb
  obtain ⟨rfl, rfl⟩ := eb
  rw [unhide EM] at hj
  rw [unhide EM'] at hj'
  obtain ⟨b1, o1, rfl, hx⟩ := intAt hrow hj
  obtain ⟨b2, o2, rfl, hy⟩ := intAt hrow' hj'
  exact ⟨b, o, b1, o1, m, cr, b2, o2, m', cr', rfl, hcell, hcell', hx, hy, by omega, by omega⟩

end Go.Proofs.Ytjpogaidcmndoaa

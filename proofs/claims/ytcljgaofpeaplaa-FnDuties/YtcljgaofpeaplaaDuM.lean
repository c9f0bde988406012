/- Duties of two ships, in numbers: turned about, and turned a quarter. No statement about the program stands here. -/
import Derived.Test.YtcljgaofpeaplaaRrK0
namespace Go.Proofs.Ytcljgaofpeaplaa

/-- What is told by the reasons, in their order. -/
def dutyB (P A B D1 D2 H R1 R2 E1 E2 : Bool) : Int := firstOf [(false, 4), (P, 0), (A && !B, 2), (B && !A, 1), (D1, 2), (D2, 1), (H, 3), (R1 && !R2, 2), (R2 && !R1, 1), (E1, 2), (E2, 1)]
def DuO (x y : Int) : Prop := (x = 1 ∧ y = 2) ∨ (x = 2 ∧ y = 1) ∨ (x = 0 ∧ y = 0) ∨ (x = 3 ∧ y = 3)
instance (x y : Int) : Decidable (DuO x y) := by unfold DuO; infer_instance
theorem dutyB_sym : ∀ P A B D1 D2 H R1 R2 E1 E2 : Bool, (D1 && D2) = false → (E1 && E2) = false → DuO (dutyB P A B D1 D2 H R1 R2 E1 E2) (dutyB P B A D2 D1 H R2 R1 E2 E1) := by decide +kernel
section
variable {ax ay au av ak ad cx cy cu cv ck cd : Int}
theorem duty_B (h1 : shipB ax ay au av ak ad = true) (h2 : shipB cx cy cu cv ck cd = true) : duty ax ay au av ak ad cx cy cu cv ck cd = dutyB (prtB ax ay au av ak ad cx cy cu cv ck cd) (behB ax ay au av ak ad cx cy cu cv ck cd) (behB cx cy cu cv ck cd ax ay au av ak ad) (decide (ak < ck)) (decide (ck < ak)) (hdB ax ay au av ak ad cx cy cu cv ck cd && (ak == 1 && ck == 1)) (rgtB ax ay au av ak ad cx cy cu cv ck cd) (rgtB cx cy cu cv ck cd ax ay au av ak ad) (decide (ad < cd)) (decide (cd < ad)) := by
  unfold duty dutyB
  rw [h1, h2]
  rfl
theorem prt_sym : prtB ax ay au av ak ad cx cy cu cv ck cd = prtB cx cy cu cv ck cd ax ay au av ak ad := by
  unfold prtB
  rw [show (cx - ax) * (cu - au) + (cy - ay) * (cv - av) = (ax - cx) * (au - cu) + (ay - cy) * (av - cv) by grind]
theorem nd_sym (p q r s : Int) : ndB p q r s = ndB r s p q := by
  unfold ndB bes
  rw [show p * r + q * s = r * p + s * q by grind, show (p * s - q * r) * (p * s - q * r) = (r * q - s * p) * (r * q - s * p) by grind]
theorem hd_sym (h1 : shipB ax ay au av ak ad = true) (h2 : shipB cx cy cu cv ck cd = true) : (hdB ax ay au av ak ad cx cy cu cv ck cd && (ak == 1 && ck == 1)) = (hdB cx cy cu cv ck cd ax ay au av ak ad && (ck == 1 && ak == 1)) := by
  unfold hdB
  rw [h1, h2, nd_sym au av cu cv, Bool.and_comm (ak == 1)]
  simp only [Bool.true_and]
  rw [Bool.and_comm (ahdB ax ay au av ak ad cx cy cu cv ck cd)]
/-- The other one's duty. -/
theorem duty_sym (h1 : shipB ax ay au av ak ad = true) (h2 : shipB cx cy cu cv ck cd = true) : DuO (duty ax ay au av ak ad cx cy cu cv ck cd) (duty cx cy cu cv ck cd ax ay au av ak ad) := by
  rw [duty_B h1 h2, duty_B h2 h1, ← prt_sym (ax := ax), ← hd_sym h1 h2]
  exact dutyB_sym _ _ _ _ _ _ _ _ _ _ (by rw [Bool.and_eq_false_iff]; simp; omega) (by rw [Bool.and_eq_false_iff]; simp; omega)
theorem bes_turn (P Q p q r s : Int) : bes P Q (-q) p (-s) r = bes P Q p q r s := by
  unfold bes
  rw [show (-q) * r - p * (-s) = p * s - q * r by grind, show (-q) * (-s) + p * r = p * r + q * s by grind]
/-- Both turned a quarter: the bearing and the ways. -/
theorem duty_turn {ex ey fx fy : Int} (h1 : shipB ax ay au av ak ad = true) (h2 : shipB cx cy cu cv ck cd = true) (h3 : shipB ex ey (-av) au ak ad = true) (h4 : shipB fx fy (-cv) cu ck cd = true) (e1 : fx - ex = -(cy - ay)) (e2 : fy - ey = cx - ax) :
    duty ex ey (-av) au ak ad fx fy (-cv) cu ck cd = duty ax ay au av ak ad cx cy cu cv ck cd := by
  have e3 : ex - fx = -(ay - cy) := by omega
  have e4 : ey - fy = ax - cx := by omega
  rw [duty_B h1 h2, duty_B h3 h4]
  have p1 : prtB ex ey (-av) au ak ad fx fy (-cv) cu ck cd = prtB ax ay au av ak ad cx cy cu cv ck cd := by
    unfold prtB
    rw [e1, e2, show -(cy - ay) * (-cv - -av) + (cx - ax) * (cu - au) = (cx - ax) * (cu - au) + (cy - ay) * (cv - av) by grind]
  have p2 : behB ex ey (-av) au ak ad fx fy (-cv) cu ck cd = behB ax ay au av ak ad cx cy cu cv ck cd := by
    unfold behB bhB
    rw [h1, h2, h3, h4, e3, e4, bes_turn, show -(ay - cy) * (-cv) + (ax - cx) * cu = (ax - cx) * cu + (ay - cy) * cv by grind]
  have p3 : behB fx fy (-cv) cu ck cd ex ey (-av) au ak ad = behB cx cy cu cv ck cd ax ay au av ak ad := by
    unfold behB bhB
    rw [h1, h2, h3, h4, e1, e2, bes_turn, show -(cy - ay) * (-av) + (cx - ax) * au = (cx - ax) * au + (cy - ay) * av by grind]
  have p4 : hdB ex ey (-av) au ak ad fx fy (-cv) cu ck cd = hdB ax ay au av ak ad cx cy cu cv ck cd := by
    unfold hdB ahdB ahB ndB
    rw [h1, h2, h3, h4, e1, e2, e3, e4, bes_turn, bes_turn, bes_turn, show (-av) * (-cv) + au * cu = au * cu + av * cv by grind, show -(cy - ay) * (-av) + (cx - ax) * au = (cx - ax) * au + (cy - ay) * av by grind, show -(ay - cy) * (-cv) + (ax - cx) * cu = (ax - cx) * cu + (ay - cy) * cv by grind]
  have p5 : rgtB ex ey (-av) au ak ad fx fy (-cv) cu ck cd = rgtB ax ay au av ak ad cx cy cu cv ck cd := by
    unfold rgtB
    rw [e1, e2, show (-av) * (cx - ax) - au * -(cy - ay) = au * (cy - ay) - av * (cx - ax) by grind]
  have p6 : rgtB fx fy (-cv) cu ck cd ex ey (-av) au ak ad = rgtB cx cy cu cv ck cd ax ay au av ak ad := by
    unfold rgtB
    rw [e3, e4, show (-cv) * (ax - cx) - cu * -(ay - cy) = cu * (ay - cy) - cv * (ax - cx) by grind]
  rw [p1, p2, p3, p4, p5, p6]
end

end Go.Proofs.Ytcljgaofpeaplaa

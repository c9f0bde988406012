/- The area at a water line as a plain function, and the contracts of the specification's and the program's Plane: both tell it. -/
import Derived.Test.YticcjdcglfiggaaWalkG
namespace Go.Proofs.Yticcjdcglfiggaa
open Go.RowKit

theorem ret_int {k : IntKind} {a b : Int} (h : a = b) : Ending.returned (.int k a) = .returned (.int k b) := by rw [h]

/-- f 0 + f 1 + .. + f (k - 1). -/
def sumTo (f : Nat → Int) : Nat → Int
  | 0 => 0
  | k + 1 => sumTo f k + f k

theorem sumTo_bd {f : Nat → Int} {B : Int} {n : Nat} (h : ∀ i, i < n → 0 ≤ f i ∧ f i ≤ B) : ∀ k, k ≤ n → 0 ≤ sumTo f k ∧ sumTo f k ≤ k * B
  | 0, _ => by simp [sumTo]
  | k + 1, hk => by
    have h1 := sumTo_bd h k (by omega)
    have h2 := h k (by omega)
    have e : ((k + 1 : Nat) : Int) * B = k * B + B := by
      rw [Int.natCast_add, Int.add_mul]; simp
    simp only [sumTo]
    omega

theorem mul_bd {a b A B : Int} (h1 : 0 ≤ a) (h2 : a ≤ A) (h3 : 0 ≤ b) (h4 : b ≤ B) : 0 ≤ a * b ∧ a * b ≤ A * B :=
  ⟨Int.mul_nonneg h1 h3, Int.mul_le_mul h2 h4 h3 (Int.le_trans h1 h2)⟩

/-- What a right hull is. -/
structure Right (step rise : Int) (R : List (List Int)) : Prop where
  step1 : 1 ≤ step
  step2 : step ≤ 100
  rise1 : 1 ≤ rise
  rise2 : rise ≤ 20
  len1 : 2 ≤ R.length
  len2 : R.length ≤ 12
  wat1 : 2 ≤ (R.getD 0 []).length
  wat2 : (R.getD 0 []).length ≤ 10
  even : ∀ r, r < R.length → (R.getD r []).length = (R.getD 0 []).length
  cells : ∀ r c, r < R.length → c < (R.getD 0 []).length → 0 ≤ cellOf R r c ∧ cellOf R r c ≤ 50

theorem hullOk_right {step rise : Int} {R : List (List Int)} (h : hullOk step rise R = true) : Right step rise R := by
  unfold hullOk at h
  simp only [Bool.and_eq_true] at h
  obtain ⟨⟨⟨h1, h2⟩, h3⟩, h4⟩ := h
  have h1 := inB_true h1
  have h2 := inB_true h2
  have h3 := inB_true h3
  have row : ∀ r, r < R.length → (R.getD r []).length = (R.getD 0 []).length ∧ inB (R.getD r []).length 2 10 = true ∧ ((R.getD r []).all fun x => inB x 0 50) = true := fun r hr => by
    have := all_at (d := []) h4 hr
    unfold rowOk at this
    simp only [Bool.and_eq_true, beq_iff_eq] at this
    exact ⟨this.1.1, this.1.2, this.2⟩
  have r0 := row 0 (by omega)
  have i0 := inB_true r0.2.1
  refine ⟨h1.1, h1.2, h2.1, h2.2, by omega, by omega, by omega, by omega, fun r hr => (row r hr).1, fun r c hr hc => ?_⟩
  have := all_at (d := 0) (row r hr).2.2 (show c < (R.getD r []).length by rw [(row r hr).1]; exact hc)
  exact inB_true this

def planeF (step : Int) (R : List (List Int)) (c : Nat) (s : Nat) : Int := step * (cellOf R s c + cellOf R (s + 1) c)

theorem planeF_bd {step rise : Int} {R : List (List Int)} (h : Right step rise R) {c : Nat} (hc : c < (R.getD 0 []).length) : ∀ s, s < R.length - 1 → 0 ≤ planeF step R c s ∧ planeF step R c s ≤ 10000 := fun s hs => by
  have a := h.cells s c (by omega) hc
  have b := h.cells (s + 1) c (by omega) hc
  have h1 := h.step1
  have h2 := h.step2
  exact mul_bd (A := 100) (B := 100) (by omega) h2 (by omega) (by omega)

def plane (step rise : Int) (R : List (List Int)) (c : Int) : Int := if waterOk step rise R c = true then sumTo (planeF step R c.toNat) (R.length - 1) else 0

/-- Two rows beside each other, their values written out, with the numbers at place j. -/
theorem two_cells {w : World} {ao : Option Addr} {R : List (List Int)} {k j : Nat} (h : ∀ r, r < R.length → ∃ b o vr, ao = some ⟨b, o, none⟩ ∧ w.cell? ⟨b, o + r, none⟩ = some vr ∧ IntsIn w vr (R.getD r [])) (hk : k + 1 < R.length)
    (hj : j < (R.getD k []).length) (hj' : j < (R.getD (k + 1) []).length) :
    ∃ b o b1 o1 m cr b2 o2 m' cr', ao = some ⟨b, o, none⟩ ∧ w.cell? ⟨b, o + k, none⟩ = some (.slice (some ⟨b1, o1, none⟩) m cr) ∧ w.cell? ⟨b, o + (k + 1), none⟩ = some (.slice (some ⟨b2, o2, none⟩) m' cr') ∧
      w.cell? ⟨b1, o1 + j, none⟩ = some (.int .i64 (cellOf R k j)) ∧ w.cell? ⟨b2, o2 + j, none⟩ = some (.int .i64 (cellOf R (k + 1) j)) ∧ (j : Int) < m ∧ (j : Int) < m' := by
  obtain ⟨b, o, ar, m, cr, rfl, hcell, hrow, EM, hm0⟩ := rowAt h (show k < R.length by omega)
  obtain ⟨b', o', ar', m', cr', eb, hcell', hrow', EM', hm0'⟩ := rowAt h hk
  simp only [Option.some.injEq, Addr.mk.injEq, and_true] at eb
  obtain ⟨rfl, rfl⟩ := eb
  rw [unhide EM] at hj
  rw [unhide EM'] at hj'
  obtain ⟨b1, o1, rfl, hx⟩ := intAt hrow hj
  obtain ⟨b2, o2, rfl, hy⟩ := intAt hrow' hj'
  exact ⟨b, o, b1, o1, m, cr, b2, o2, m', cr', rfl, hcell, hcell', hx, hy, by omega, by omega⟩

set_option maxHeartbeats 1600000 in
theorem specPlane_any (step rise : Int) (v : Value) (R : List (List Int)) (c : Int) (w : World) (h : RowsIn w v R) :
    Calls Try.prog 109 #[hullV step rise v, .int .i64 c] w fun e w' => e = .returned (.int .i64 (plane step rise R c)) ∧ Below w.heap.size w w' := by
  have HV := hide h
  obtain ⟨ao, cap, rfl, hl, hm, hc⟩ := h
  have HC := hide hc
  unfold maxLen at hm
  clear hc
  unfold hullV
  have HB0 := hide (box3_alloc w (.int .i64 step) (.int .i64 rise) (.slice ao R.length cap) 26)
  have HW0 := hide (Below.alloc1 w (.cells #[.int .i64 step, .int .i64 rise, .slice ao R.length cap] 26))
  go_enter Try.func109, Try.ntmps109
  go_wp2_with fail
  refine (l1Water_any step rise _ R c _ ((unhide HV).below (unhide HW0))).mono ?_
  rintro e w1 ⟨rfl, hb⟩
  have HB1 := hide ((unhide HB0).step hb)
  have HW1 := hide (Below.step (unhide HW0) hb)
  clear hb HB0 HW0
  cases hok : waterOk step rise R c with
  | false =>
    have HF : Hid (plane step rise R c = 0) := by show _ = _; simp [plane, hok]
    clear hok
    go_wp2
    go_ret
    exact ⟨ret_int (unhide HF).symm, unhide HW1⟩
  | true =>
    have HF : Hid (plane step rise R c = sumTo (planeF step R c.toNat) (R.length - 1)) := by show _ = _; simp [plane, hok]
    unfold waterOk at hok
    simp only [Bool.and_eq_true] at hok
    have hR := hullOk_right hok.1
    have hcb := inB_true hok.2
    clear hok
    obtain ⟨j, rfl⟩ := Int.eq_ofNat_of_zero_le hcb.1
    rw [Int.toNat_natCast] at HF
    have hj : j < (R.getD 0 []).length := by omega
    clear hcb
    have hl1 := hR.len1
    have hl2 := hR.len2
    have HR := hide hR
    have HJ := hide hj
    clear hR hj
    go_wp2
    go_loopg [5, 6] R.length (fun g sv i wr => ∃ k : Nat, k + 1 ≤ R.length ∧ g = R.length - k ∧ i = .int .i64 k ∧ sv = .int .i64 (sumTo (planeF step R j) k) ∧ Below w1.heap.size w1 wr)
    case atStart => exact ⟨0, by omega, rfl, rfl, rfl, Below.refl _ _⟩
    case round =>
      obtain ⟨k, hk, rfl, rfl, rfl, hB⟩ := hrel
      have HBX := (unhide HB1).step hB
      have HWr := hide (Below.step (unhide HW1) hB)
      have HBr := hide hB
      obtain ⟨c0, c1, c2⟩ := HBX
      clear hB
      by_cases hkn : k + 1 < R.length
      · have hj' := unhide HJ
        have ev := (unhide HR).even
        obtain ⟨b, o, b1, o1, m, cr, b2, o2, m', cr', rfl, g1, g2, g3, g4, g5, g6⟩ := two_cells (unhide HC) hkn (by rw [ev k (by omega)]; exact hj') (by rw [ev (k + 1) hkn]; exact hj')
        have q1 := ((unhide HWr).cell (lt_of_cell g1)).trans g1
        have q2 := ((unhide HWr).cell (lt_of_cell g2)).trans g2
        have q3 := ((unhide HWr).cell (lt_of_cell g3)).trans g3
        have q4 := ((unhide HWr).cell (lt_of_cell g4)).trans g4
        have pb := planeF_bd (unhide HR) hj' k (by omega)
        have sb := sumTo_bd (planeF_bd (unhide HR) hj') k (by omega)
        have xb := (unhide HR).cells k j (by omega) hj'
        have yb := (unhide HR).cells (k + 1) j hkn hj'
        have ES : Hid (sumTo (planeF step R j) (k + 1) = sumTo (planeF step R j) k + step * (cellOf R k j + cellOf R (k + 1) j)) := rfl
        clear g1 g2 g3 g4 ev hj'
        unfold planeF at pb
        generalize cellOf R k j = x at *
        generalize cellOf R (k + 1) j = y at *
        generalize sumTo (planeF step R j) k = S at *
        obtain ⟨pb1, pb2⟩ := pb
        obtain ⟨sb1, sb2⟩ := sb
        obtain ⟨xb1, xb2⟩ := xb
        obtain ⟨yb1, yb2⟩ := yb
        go_wp2
        go_quiet (fail)
        go_wp2
        go_roundg (R.length - (k + 1))
        case measure => omega
        case rel => exact ⟨k + 1, by omega, rfl, by go_num, by rw [unhide ES], below_drewN (unhide HBr) _⟩
      · go_wp2
        go_ret
        have hkk : R.length - 1 = k := by omega
        exact ⟨ret_int (by rw [unhide HF, hkk]), unhide HWr⟩

set_option maxHeartbeats 1600000 in
theorem implPlane_any (step rise : Int) (v : Value) (R : List (List Int)) (c : Int) (w : World) (h : RowsIn w v R) :
    Calls Try.prog 15 #[hullV step rise v, .int .i64 c] w fun e w' => e = .returned (.int .i64 (plane step rise R c)) ∧ Below w.heap.size w w' := by
  have HV := hide h
  obtain ⟨ao, cap, rfl, hl, hm, hc⟩ := h
  unfold maxLen at hm
  clear hc
  unfold hullV
  have HB0 := hide (box3_alloc w (.int .i64 step) (.int .i64 rise) (.slice ao R.length cap) 26)
  have HW0 := hide (Below.alloc1 w (.cells #[.int .i64 step, .int .i64 rise, .slice ao R.length cap] 26))
  go_enter Try.func15, Try.ntmps15
  go_wp2_with fail
  refine (isWater_any step rise _ R c _ ((unhide HV).below (unhide HW0))).mono ?_
  rintro e w1 ⟨rfl, hb⟩
  have HB1 := hide ((unhide HB0).step hb)
  have HW1 := hide (Below.step (unhide HW0) hb)
  clear hb HB0 HW0
  cases hok : waterOk step rise R c with
  | false =>
    have HF : Hid (plane step rise R c = 0) := by show _ = _; simp [plane, hok]
    clear hok
    go_wp2
    go_ret
    exact ⟨ret_int (unhide HF).symm, unhide HW1⟩
  | true =>
    have HF : Hid (plane step rise R c = sumTo (planeF step R c.toNat) (R.length - 1)) := by show _ = _; simp [plane, hok]
    unfold waterOk at hok
    simp only [Bool.and_eq_true] at hok
    have hR := hullOk_right hok.1
    have hcb := inB_true hok.2
    clear hok
    obtain ⟨j, rfl⟩ := Int.eq_ofNat_of_zero_le hcb.1
    rw [Int.toNat_natCast] at HF
    have hj : j < (R.getD 0 []).length := by omega
    clear hcb
    have hl1 := hR.len1
    have hl2 := hR.len2
    have HR := hide hR
    have HJ := hide hj
    clear hR hj
    obtain ⟨c0, c1, c2⟩ := unhide HB1
    go_wp2_with fail
    refine (stripCount_any step rise _ R _ ((unhide HV).below (unhide HW1))).mono ?_
    rintro e w2 ⟨rfl, hb⟩
    have HB2 := hide ((unhide HB1).step hb)
    have HW2 := hide (Below.step (unhide HW1) hb)
    clear hb HB1 HW1 c0 c1 c2
    go_wp2
    go_loopg [5, 15] R.length (fun g sv i wr => ∃ k : Nat, k + 1 ≤ R.length ∧ g = R.length - k ∧ i = .int .i64 k ∧ sv = .int .i64 (sumTo (planeF step R j) k) ∧ Below w2.heap.size w2 wr)
    case atStart => exact ⟨0, by omega, rfl, rfl, rfl, Below.refl _ _⟩
    case round =>
      obtain ⟨k, hk, rfl, rfl, rfl, hB⟩ := hrel
      have HBX := (unhide HB2).step hB
      have HBX' := hide HBX
      have HWr := hide (Below.step (unhide HW2) hB)
      have HBr := hide hB
      obtain ⟨c0, c1, c2⟩ := HBX
      clear hB
      by_cases hkn : k + 1 < R.length
      · have hj' := unhide HJ
        have ev := (unhide HR).even
        have HT := hide (bothHalves_any step rise _ R (k : Int) (j : Int) k j wr ((unhide HV).below (unhide HWr)) rfl rfl hkn (by rw [ev k (by omega)]; exact hj') (by rw [ev (k + 1) hkn]; exact hj'))
        have pb := planeF_bd (unhide HR) hj' k (by omega)
        have sb := sumTo_bd (planeF_bd (unhide HR) hj') k (by omega)
        have xb := (unhide HR).cells k j (by omega) hj'
        have yb := (unhide HR).cells (k + 1) j hkn hj'
        have ES : Hid (sumTo (planeF step R j) (k + 1) = sumTo (planeF step R j) k + step * (cellOf R k j + cellOf R (k + 1) j)) := rfl
        clear ev hj'
        unfold planeF at pb
        generalize cellOf R k j = x at *
        generalize cellOf R (k + 1) j = y at *
        generalize sumTo (planeF step R j) k = S at *
        obtain ⟨pb1, pb2⟩ := pb
        obtain ⟨sb1, sb2⟩ := sb
        obtain ⟨xb1, xb2⟩ := xb
        obtain ⟨yb1, yb2⟩ := yb
        go_wp2_with fail
        refine (unhide HT).mono ?_
        rintro e w3 ⟨rfl, hb⟩
        have d0 := ((unhide HBX').step hb).c0
        have HB3 := hide (Below.step (unhide HBr) hb)
        clear hb c0 c1 c2
        go_wp2
        go_roundg (R.length - (k + 1))
        case measure => omega
        case rel => exact ⟨k + 1, by omega, rfl, by go_num, by rw [unhide ES], unhide HB3⟩
      · go_wp2
        go_ret
        have hkk : R.length - 1 = k := by omega
        exact ⟨ret_int (by rw [unhide HF, hkk]), unhide HWr⟩

end Go.Proofs.Yticcjdcglfiggaa

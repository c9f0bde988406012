/- Three times the inertia at a water line as a plain function, and the contracts of the specification's and the program's Inertia3: both tell it. -/
import Derived.Test.YticcjdcglfiggaaWalkH
namespace Go.Proofs.Yticcjdcglfiggaa
open Go.RowKit

theorem cube_bd {x : Int} (h1 : 0 ≤ x) (h2 : x ≤ 50) : (0 ≤ x * x ∧ x * x ≤ 2500) ∧ (0 ≤ x * x * x ∧ x * x * x ≤ 125000) := by
  have a := mul_bd (A := 50) (B := 50) h1 h2 h1 h2
  have b := mul_bd (A := 2500) (B := 50) a.1 (by omega) h1 h2
  exact ⟨⟨a.1, by omega⟩, ⟨b.1, by omega⟩⟩

def inerF (step : Int) (R : List (List Int)) (c : Nat) (s : Nat) : Int := step * (cellOf R s c * cellOf R s c * cellOf R s c + cellOf R (s + 1) c * cellOf R (s + 1) c * cellOf R (s + 1) c)

theorem inerF_bd {step rise : Int} {R : List (List Int)} (h : Right step rise R) {c : Nat} (hc : c < (R.getD 0 []).length) : ∀ s, s < R.length - 1 → 0 ≤ inerF step R c s ∧ inerF step R c s ≤ 25000000 := fun s hs => by
  have a := h.cells s c (by omega) hc
  have b := h.cells (s + 1) c (by omega) hc
  have a' := cube_bd a.1 a.2
  have b' := cube_bd b.1 b.2
  have h1 := h.step1
  have h2 := h.step2
  exact mul_bd (A := 100) (B := 250000) (by omega) h2 (by omega) (by omega)

def inertia (step rise : Int) (R : List (List Int)) (c : Int) : Int := if waterOk step rise R c = true then sumTo (inerF step R c.toNat) (R.length - 1) else 0

set_option maxHeartbeats 1600000 in
theorem specInertia3_any (step rise : Int) (v : Value) (R : List (List Int)) (c : Int) (w : World) (h : RowsIn w v R) :
    Calls Try.prog 105 #[hullV step rise v, .int .i64 c] w fun e w' => e = .returned (.int .i64 (inertia step rise R c)) ∧ Below w.heap.size w w' := by
  have HV := hide h
  obtain ⟨ao, cap, rfl, hl, hm, hc⟩ := h
  have HC := hide hc
  unfold maxLen at hm
  clear hc
  unfold hullV
  have HB0 := hide (box3_alloc w (.int .i64 step) (.int .i64 rise) (.slice ao R.length cap) 26)
  have HW0 := hide (Below.alloc1 w (.cells #[.int .i64 step, .int .i64 rise, .slice ao R.length cap] 26))
  go_enter Try.func105, Try.ntmps105
  go_wp2_with fail
  refine (l1Water_any step rise _ R c _ ((unhide HV).below (unhide HW0))).mono ?_
  rintro e w1 ⟨rfl, hb⟩
  have HB1 := hide ((unhide HB0).step hb)
  have HW1 := hide (Below.step (unhide HW0) hb)
  clear hb HB0 HW0
  cases hok : waterOk step rise R c with
  | false =>
    have HF : Hid (inertia step rise R c = 0) := by show _ = _; simp [inertia, hok]
    clear hok
    go_wp2
    go_ret
    exact ⟨ret_int (unhide HF).symm, unhide HW1⟩
  | true =>
    have HF : Hid (inertia step rise R c = sumTo (inerF step R c.toNat) (R.length - 1)) := by show _ = _; simp [inertia, hok]
    unfold waterOk at hok
    simp only [Bool.and_eq_true] at hok
    have hR := hullOk_right hok.1
    have hcb := inB_true hok.2
    clear hok
    obtain ⟨j, rfl⟩ := Int.eq_ofNat_of_zero_le hcb.1
    rw [Int.toNat_natCast] at HF
    have hj : j < (R.getD 0 []).length := by omega
    clear hcb
    have hl1 := hR.len1
    have hl2 := hR.len2
    have HR := hide hR
    have HJ := hide hj
    clear hR hj
    go_wp2
    go_loopg [5, 6] R.length (fun g sv i wr => ∃ k : Nat, k + 1 ≤ R.length ∧ g = R.length - k ∧ i = .int .i64 k ∧ sv = .int .i64 (sumTo (inerF step R j) k) ∧ Below w1.heap.size w1 wr)
    case atStart => exact ⟨0, by omega, rfl, rfl, rfl, Below.refl _ _⟩
    case round =>
      obtain ⟨k, hk, rfl, rfl, rfl, hB⟩ := hrel
      have HBX := (unhide HB1).step hB
      have HWr := hide (Below.step (unhide HW1) hB)
      have HBr := hide hB
      obtain ⟨c0, c1, c2⟩ := HBX
      clear hB
      by_cases hkn : k + 1 < R.length
      · have hj' := unhide HJ
        have ev := (unhide HR).even
        obtain ⟨b, o, b1, o1, m, cr, b2, o2, m', cr', rfl, g1, g2, g3, g4, g5, g6⟩ := two_cells (unhide HC) hkn (by rw [ev k (by omega)]; exact hj') (by rw [ev (k + 1) hkn]; exact hj')
        have q1 := ((unhide HWr).cell (lt_of_cell g1)).trans g1
        have q2 := ((unhide HWr).cell (lt_of_cell g2)).trans g2
        have q3 := ((unhide HWr).cell (lt_of_cell g3)).trans g3
        have q4 := ((unhide HWr).cell (lt_of_cell g4)).trans g4
        have pb := inerF_bd (unhide HR) hj' k (by omega)
        have sb := sumTo_bd (inerF_bd (unhide HR) hj') k (by omega)
        have xb := (unhide HR).cells k j (by omega) hj'
        have yb := (unhide HR).cells (k + 1) j hkn hj'
        have ES : Hid (sumTo (inerF step R j) (k + 1) = sumTo (inerF step R j) k + step * (cellOf R k j * cellOf R k j * cellOf R k j + cellOf R (k + 1) j * cellOf R (k + 1) j * cellOf R (k + 1) j)) := rfl
        clear g1 g2 g3 g4 ev hj'
        unfold inerF at pb
        generalize cellOf R k j = x at *
        generalize cellOf R (k + 1) j = y at *
        generalize sumTo (inerF step R j) k = S at *
        obtain ⟨pb1, pb2⟩ := pb
        obtain ⟨sb1, sb2⟩ := sb
        obtain ⟨⟨xc1, xc2⟩, xc3, xc4⟩ := cube_bd xb.1 xb.2
        obtain ⟨⟨yc1, yc2⟩, yc3, yc4⟩ := cube_bd yb.1 yb.2
        obtain ⟨xb1, xb2⟩ := xb
        obtain ⟨yb1, yb2⟩ := yb
        go_wp2
        go_quiet (fail)
        go_wp2
        go_roundg (R.length - (k + 1))
        case measure => omega
        case rel => exact ⟨k + 1, by omega, rfl, by go_num, by rw [unhide ES], below_drewN (unhide HBr) _⟩
      · go_wp2
        go_ret
        have hkk : R.length - 1 = k := by omega
        exact ⟨ret_int (by rw [unhide HF, hkk]), unhide HWr⟩

set_option maxHeartbeats 1600000 in
theorem implInertia3_any (step rise : Int) (v : Value) (R : List (List Int)) (c : Int) (w : World) (h : RowsIn w v R) :
    Calls Try.prog 16 #[hullV step rise v, .int .i64 c] w fun e w' => e = .returned (.int .i64 (inertia step rise R c)) ∧ Below w.heap.size w w' := by
  have HV := hide h
  obtain ⟨ao, cap, rfl, hl, hm, hc⟩ := h
  unfold maxLen at hm
  clear hc
  unfold hullV
  have HB0 := hide (box3_alloc w (.int .i64 step) (.int .i64 rise) (.slice ao R.length cap) 26)
  have HW0 := hide (Below.alloc1 w (.cells #[.int .i64 step, .int .i64 rise, .slice ao R.length cap] 26))
  go_enter Try.func16, Try.ntmps16
  go_wp2_with fail
  refine (isWater_any step rise _ R c _ ((unhide HV).below (unhide HW0))).mono ?_
  rintro e w1 ⟨rfl, hb⟩
  have HB1 := hide ((unhide HB0).step hb)
  have HW1 := hide (Below.step (unhide HW0) hb)
  clear hb HB0 HW0
  cases hok : waterOk step rise R c with
  | false =>
    have HF : Hid (inertia step rise R c = 0) := by show _ = _; simp [inertia, hok]
    clear hok
    go_wp2
    go_ret
    exact ⟨ret_int (unhide HF).symm, unhide HW1⟩
  | true =>
    have HF : Hid (inertia step rise R c = sumTo (inerF step R c.toNat) (R.length - 1)) := by show _ = _; simp [inertia, hok]
    unfold waterOk at hok
    simp only [Bool.and_eq_true] at hok
    have hR := hullOk_right hok.1
    have hcb := inB_true hok.2
    clear hok
    obtain ⟨j, rfl⟩ := Int.eq_ofNat_of_zero_le hcb.1
    rw [Int.toNat_natCast] at HF
    have hj : j < (R.getD 0 []).length := by omega
    clear hcb
    have hl1 := hR.len1
    have hl2 := hR.len2
    have HR := hide hR
    have HJ := hide hj
    clear hR hj
    obtain ⟨c0, c1, c2⟩ := unhide HB1
    go_wp2_with fail
    refine (stripCount_any step rise _ R _ ((unhide HV).below (unhide HW1))).mono ?_
    rintro e w2 ⟨rfl, hb⟩
    have HB2 := hide ((unhide HB1).step hb)
    have HW2 := hide (Below.step (unhide HW1) hb)
    clear hb HB1 HW1 c0 c1 c2
    go_wp2
    go_loopg [5, 15] R.length (fun g sv i wr => ∃ k : Nat, k + 1 ≤ R.length ∧ g = R.length - k ∧ i = .int .i64 k ∧ sv = .int .i64 (sumTo (inerF step R j) k) ∧ Below w2.heap.size w2 wr)
    case atStart => exact ⟨0, by omega, rfl, rfl, rfl, Below.refl _ _⟩
    case round =>
      obtain ⟨k, hk, rfl, rfl, rfl, hB⟩ := hrel
      have HBX := (unhide HB2).step hB
      have HBX' := hide HBX
      have HWr := hide (Below.step (unhide HW2) hB)
      have HBr := hide hB
      obtain ⟨c0, c1, c2⟩ := HBX
      clear hB
      by_cases hkn : k + 1 < R.length
      · have hj' := unhide HJ
        have ev := (unhide HR).even
        have HT := hide (bothHalves_any step rise _ R (k : Int) (j : Int) k j wr ((unhide HV).below (unhide HWr)) rfl rfl hkn (by rw [ev k (by omega)]; exact hj') (by rw [ev (k + 1) hkn]; exact hj'))
        have pb := inerF_bd (unhide HR) hj' k (by omega)
        have sb := sumTo_bd (inerF_bd (unhide HR) hj') k (by omega)
        have xb := (unhide HR).cells k j (by omega) hj'
        have yb := (unhide HR).cells (k + 1) j hkn hj'
        have ES : Hid (sumTo (inerF step R j) (k + 1) = sumTo (inerF step R j) k + step * (cellOf R k j * cellOf R k j * cellOf R k j + cellOf R (k + 1) j * cellOf R (k + 1) j * cellOf R (k + 1) j)) := rfl
        clear ev hj'
        unfold inerF at pb
        generalize cellOf R k j = x at *
        generalize cellOf R (k + 1) j = y at *
        generalize sumTo (inerF step R j) k = S at *
        obtain ⟨pb1, pb2⟩ := pb
        obtain ⟨sb1, sb2⟩ := sb
        obtain ⟨⟨xc1, xc2⟩, xc3, xc4⟩ := cube_bd xb.1 xb.2
        obtain ⟨⟨yc1, yc2⟩, yc3, yc4⟩ := cube_bd yb.1 yb.2
        obtain ⟨xb1, xb2⟩ := xb
        obtain ⟨yb1, yb2⟩ := yb
        go_wp2_with fail
        refine (unhide HT).mono ?_
        rintro e w3 ⟨rfl, hb⟩
        have d0 := ((unhide HBX').step hb).c0
        have HB3 := hide (Below.step (unhide HBr) hb)
        clear hb c0 c1 c2
        go_wp2
        go_roundg (R.length - (k + 1))
        case measure => omega
        case rel => exact ⟨k + 1, by omega, rfl, by go_num, by rw [unhide ES], unhide HB3⟩
      · go_wp2
        go_ret
        have hkk : R.length - 1 = k := by omega
        exact ⟨ret_int (by rw [unhide HF, hkk]), unhide HWr⟩

end Go.Proofs.Yticcjdcglfiggaa

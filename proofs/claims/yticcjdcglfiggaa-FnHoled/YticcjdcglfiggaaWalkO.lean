/- Four times the moment of the volume about the lowest water line as a plain function; the contracts of both Height4. -/
import Derived.Test.YticcjdcglfiggaaWalkH
namespace Go.Proofs.Yticcjdcglfiggaa
open Go.RowKit

theorem plane_bd (step rise : Int) (R : List (List Int)) (c : Int) : 0 ≤ plane step rise R c ∧ plane step rise R c ≤ 110000 := by
  unfold plane
  by_cases h : waterOk step rise R c = true
  · rw [if_pos h]
    unfold waterOk at h
    simp only [Bool.and_eq_true] at h
    have hR := hullOk_right h.1
    have hc := inB_true h.2
    have := sumTo_bd (planeF_bd hR (c := c.toNat) (by omega)) (R.length - 1) (Nat.le_refl _)
    have := hR.len2
    omega
  · rw [if_neg h]; omega

def heightF (step rise : Int) (R : List (List Int)) (k : Nat) : Int := rise * (plane step rise R k + plane step rise R ((k : Int) + 1)) * rise * (2 * (k : Int) + 1)

theorem heightF_bd {step rise : Int} (R : List (List Int)) (h1 : 1 ≤ rise) (h2 : rise ≤ 20) : ∀ k : Nat, k < 10 →
    (0 ≤ rise * (plane step rise R k + plane step rise R ((k : Int) + 1)) ∧ rise * (plane step rise R k + plane step rise R ((k : Int) + 1)) ≤ 4400000) ∧
    (0 ≤ rise * (plane step rise R k + plane step rise R ((k : Int) + 1)) * rise ∧ rise * (plane step rise R k + plane step rise R ((k : Int) + 1)) * rise ≤ 88000000) ∧
    0 ≤ heightF step rise R k ∧ heightF step rise R k ≤ 2000000000 := fun k hk => by
  have a := plane_bd step rise R k
  have b := plane_bd step rise R ((k : Int) + 1)
  have d := mul_bd (a := rise) (b := plane step rise R k + plane step rise R ((k : Int) + 1)) (A := 20) (B := 220000) (by omega) h2 (by omega) (by omega)
  have e := mul_bd (b := rise) (A := 4400000) (B := 20) d.1 (by omega) (by omega) h2
  have f := mul_bd (b := 2 * (k : Int) + 1) (A := 88000000) (B := 20) e.1 (by omega) (by omega) (by omega)
  unfold heightF
  exact ⟨⟨d.1, by omega⟩, ⟨e.1, by omega⟩, f.1, by omega⟩

def height (step rise : Int) (R : List (List Int)) (c : Int) : Int := if waterOk step rise R c = true then sumTo (heightF step rise R) c.toNat else 0

set_option maxHeartbeats 1600000 in
theorem specHeight4_any (step rise : Int) (v : Value) (R : List (List Int)) (c : Int) (w : World) (h : RowsIn w v R) :
    Calls Try.prog 104 #[hullV step rise v, .int .i64 c] w fun e w' => e = .returned (.int .i64 (height step rise R c)) ∧ Below w.heap.size w w' := by
  have HV := hide h
  obtain ⟨ao, cap, rfl, hl, hm, hc⟩ := h
  unfold maxLen at hm
  clear hc
  unfold hullV
  have HB0 := hide (box3_alloc w (.int .i64 step) (.int .i64 rise) (.slice ao R.length cap) 26)
  have HW0 := hide (Below.alloc1 w (.cells #[.int .i64 step, .int .i64 rise, .slice ao R.length cap] 26))
  go_enter Try.func104, Try.ntmps104
  go_wp2_with fail
  refine (l1Water_any step rise _ R c _ ((unhide HV).below (unhide HW0))).mono ?_
  rintro e w1 ⟨rfl, hb⟩
  have HB1 := hide ((unhide HB0).step hb)
  have HW1 := hide (Below.step (unhide HW0) hb)
  clear hb HB0 HW0
  cases hok : waterOk step rise R c with
  | false =>
    have HF : Hid (height step rise R c = 0) := by show _ = _; simp [height, hok]
    clear hok
    go_wp2
    go_ret
    exact ⟨ret_int (unhide HF).symm, unhide HW1⟩
  | true =>
    have HF : Hid (height step rise R c = sumTo (heightF step rise R) c.toNat) := by show _ = _; simp [height, hok]
    unfold waterOk at hok
    simp only [Bool.and_eq_true] at hok
    have hR := hullOk_right hok.1
    have hcb := inB_true hok.2
    clear hok
    obtain ⟨j, rfl⟩ := Int.eq_ofNat_of_zero_le hcb.1
    rw [Int.toNat_natCast] at HF
    have hjb : j ≤ 9 := by have := hR.wat2; omega
    have hr1 := hR.rise1
    have hr2 := hR.rise2
    clear hcb hR
    go_wp2
    go_loopg [5, 6] j (fun g sv i wr => ∃ k : Nat, k ≤ j ∧ g = j - k ∧ i = .int .i64 k ∧ sv = .int .i64 (sumTo (heightF step rise R) k) ∧ Below w1.heap.size w1 wr)
    case atStart => exact ⟨0, by omega, rfl, rfl, rfl, Below.refl _ _⟩
    case round =>
      obtain ⟨k, hk, rfl, rfl, rfl, hB⟩ := hrel
      have HX := hide ((unhide HB1).step hB)
      have HWr := hide (Below.step (unhide HW1) hB)
      have HBr := hide hB
      clear hB
      by_cases hkn : k < j
      · have S1 := hide fun x : Gr wr => specPlane_any step rise _ R (k : Int) x.val ((unhide HV).below (Below.step (unhide HWr) x.ok))
        have S2 := hide fun x : Gr wr => specPlane_any step rise _ R ((k : Int) + 1) x.val ((unhide HV).below (Below.step (unhide HWr) x.ok))
        have hb := heightF_bd (step := step) R hr1 hr2 k (by omega)
        have sb := sumTo_bd (n := 10) (fun i hi => (heightF_bd (step := step) R hr1 hr2 i hi).2.2) k (by omega)
        have pb := plane_bd step rise R k
        have pb' := plane_bd step rise R ((k : Int) + 1)
        have ES : Hid (sumTo (heightF step rise R) (k + 1) = sumTo (heightF step rise R) k + rise * (plane step rise R k + plane step rise R ((k : Int) + 1)) * rise * (2 * (k : Int) + 1)) := rfl
        have r0 := fun x : Gr wr => gr_cell (unhide HX).c0 x
        have r1 := fun x : Gr wr => gr_cell (unhide HX).c1 x
        have r2 := fun x : Gr wr => gr_cell (unhide HX).c2 x
        have gsome := gr_some wr
        unfold heightF at hb
        generalize plane step rise R k = x at *
        generalize plane step rise R ((k : Int) + 1) = y at *
        generalize sumTo (heightF step rise R) k = S at *
        obtain ⟨sb1, sb2⟩ := sb
        obtain ⟨⟨hb1, hb2⟩, ⟨hb3, hb4⟩, hb5, hb6⟩ := hb
        obtain ⟨pb1, pb2⟩ := pb
        obtain ⟨pb3, pb4⟩ := pb'
        go_wp2
        refine wp_region_grown (by kernel_rfl) (by kernel_rfl) ?_
        repeat (go_big_quiet_step (fail))
        go_big_quiet_want
        go_big_quiet_op
        go_big_quiet_call (exact calls_grown (unhide S1 _))
        repeat (go_big_quiet_step (fail))
        go_big_quiet_want
        go_big_quiet_op
        go_big_quiet_call (exact calls_grown (unhide S2 _))
        repeat (go_big_quiet_step (fail))
        refine wpQuiet_nil ?_
        intro w3 hw3
        obtain ⟨z, hz⟩ := hw3
        have HB3 := hide (Below.step (unhide HBr) (hz ▸ z.ok : Below wr.heap.size wr w3))
        clear hz r0 r1 r2 gsome
        go_wp2
        go_roundg (j - (k + 1))
        case measure => omega
        case rel => exact ⟨k + 1, by omega, rfl, by go_num, by rw [unhide ES], unhide HB3⟩
      · have hkk : k = j := by omega
        subst hkk
        go_wp2
        go_ret
        exact ⟨ret_int (unhide HF).symm, unhide HWr⟩

set_option maxHeartbeats 1600000 in
theorem implHeight4_any (step rise : Int) (v : Value) (R : List (List Int)) (c : Int) (w : World) (h : RowsIn w v R) :
    Calls Try.prog 17 #[hullV step rise v, .int .i64 c] w fun e w' => e = .returned (.int .i64 (height step rise R c)) ∧ Below w.heap.size w w' := by
  have HV := hide h
  obtain ⟨ao, cap, rfl, hl, hm, hc⟩ := h
  unfold maxLen at hm
  clear hc
  unfold hullV
  have HB0 := hide (box3_alloc w (.int .i64 step) (.int .i64 rise) (.slice ao R.length cap) 26)
  have HW0 := hide (Below.alloc1 w (.cells #[.int .i64 step, .int .i64 rise, .slice ao R.length cap] 26))
  go_enter Try.func17, Try.ntmps17
  go_wp2_with fail
  refine (isWater_any step rise _ R c _ ((unhide HV).below (unhide HW0))).mono ?_
  rintro e w1 ⟨rfl, hb⟩
  have HB1 := hide ((unhide HB0).step hb)
  have HW1 := hide (Below.step (unhide HW0) hb)
  clear hb HB0 HW0
  cases hok : waterOk step rise R c with
  | false =>
    have HF : Hid (height step rise R c = 0) := by show _ = _; simp [height, hok]
    clear hok
    go_wp2
    go_ret
    exact ⟨ret_int (unhide HF).symm, unhide HW1⟩
  | true =>
    have HF : Hid (height step rise R c = sumTo (heightF step rise R) c.toNat) := by show _ = _; simp [height, hok]
    unfold waterOk at hok
    simp only [Bool.and_eq_true] at hok
    have hR := hullOk_right hok.1
    have hcb := inB_true hok.2
    clear hok
    obtain ⟨j, rfl⟩ := Int.eq_ofNat_of_zero_le hcb.1
    rw [Int.toNat_natCast] at HF
    have hjb : j ≤ 9 := by have := hR.wat2; omega
    have hr1 := hR.rise1
    have hr2 := hR.rise2
    clear hcb hR
    go_wp2
    go_loopg [5, 12] j (fun g sv i wr => ∃ k : Nat, k ≤ j ∧ g = j - k ∧ i = .int .i64 k ∧ sv = .int .i64 (sumTo (heightF step rise R) k) ∧ Below w1.heap.size w1 wr)
    case atStart => exact ⟨0, by omega, rfl, rfl, rfl, Below.refl _ _⟩
    case round =>
      obtain ⟨k, hk, rfl, rfl, rfl, hB⟩ := hrel
      have HX := hide ((unhide HB1).step hB)
      have HWr := hide (Below.step (unhide HW1) hB)
      have HBr := hide hB
      clear hB
      by_cases hkn : k < j
      · have S1 := hide fun x : Gr wr => implPlane_any step rise _ R (k : Int) x.val ((unhide HV).below (Below.step (unhide HWr) x.ok))
        have S2 := hide fun x : Gr wr => implPlane_any step rise _ R ((k : Int) + 1) x.val ((unhide HV).below (Below.step (unhide HWr) x.ok))
        have hb := heightF_bd (step := step) R hr1 hr2 k (by omega)
        have sb := sumTo_bd (n := 10) (fun i hi => (heightF_bd (step := step) R hr1 hr2 i hi).2.2) k (by omega)
        have pb := plane_bd step rise R k
        have pb' := plane_bd step rise R ((k : Int) + 1)
        have ES : Hid (sumTo (heightF step rise R) (k + 1) = sumTo (heightF step rise R) k + rise * (plane step rise R k + plane step rise R ((k : Int) + 1)) * rise * (2 * (k : Int) + 1)) := rfl
        have r0 := fun x : Gr wr => gr_cell (unhide HX).c0 x
        have r1 := fun x : Gr wr => gr_cell (unhide HX).c1 x
        have r2 := fun x : Gr wr => gr_cell (unhide HX).c2 x
        have gsome := gr_some wr
        unfold heightF at hb
        generalize plane step rise R k = x at *
        generalize plane step rise R ((k : Int) + 1) = y at *
        generalize sumTo (heightF step rise R) k = S at *
        obtain ⟨sb1, sb2⟩ := sb
        obtain ⟨⟨hb1, hb2⟩, ⟨hb3, hb4⟩, hb5, hb6⟩ := hb
        obtain ⟨pb1, pb2⟩ := pb
        obtain ⟨pb3, pb4⟩ := pb'
        go_wp2
        refine wp_region_grown (by kernel_rfl) (by kernel_rfl) ?_
        repeat (go_big_quiet_step (fail))
        go_big_quiet_want
        go_big_quiet_op
        go_big_quiet_call (exact calls_grown (unhide S1 _))
        repeat (go_big_quiet_step (fail))
        go_big_quiet_want
        go_big_quiet_op
        go_big_quiet_call (exact calls_grown (unhide S2 _))
        repeat (go_big_quiet_step (fail))
        refine wpQuiet_nil ?_
        intro w3 hw3
        obtain ⟨z, hz⟩ := hw3
        have HB3 := hide (Below.step (unhide HBr) (hz ▸ z.ok : Below wr.heap.size wr w3))
        clear hz r0 r1 r2 gsome
        go_wp2
        go_roundg (j - (k + 1))
        case measure => omega
        case rel => exact ⟨k + 1, by omega, rfl, by go_num, by rw [unhide ES], unhide HB3⟩
      · have hkk : k = j := by omega
        subst hkk
        go_wp2
        go_ret
        exact ⟨ret_int (unhide HF).symm, unhide HWr⟩

end Go.Proofs.Yticcjdcglfiggaa

/- FnAfloat: whatever the bytes, of the drawn hull the water line told has the volume and the one below it has not; where none is told the highest one has too little. -/
import Derived.Test.YtepdlcobhoklfaaDrawH3
import Derived.Test.YtepdlcobhoklfaaWalkP
namespace Go.Proofs.Ytepdlcobhoklfaa
open Go.RowKit

theorem afloat_cases {step rise : Int} {R : List (List Int)} {vol : Int} (h1 : hullOk step rise R = true) (h2 : inB vol 0 1000000000 = true) :
    (∃ k : Nat, k < (R.getD 0 []).length ∧ afloat step rise R vol = k ∧ 2 * vol ≤ volume step rise R (k : Int) ∧ ∀ t : Nat, t < k → volume step rise R (t : Int) < 2 * vol) ∨
    (afloat step rise R vol = -1 ∧ ∀ t : Nat, t < (R.getD 0 []).length → volume step rise R (t : Int) < 2 * vol) := by
  unfold afloat
  rw [if_pos ⟨h1, h2⟩]
  cases hf : (List.range (R.getD 0 []).length).find? fun k : Nat => decide (2 * vol ≤ volume step rise R (k : Int)) with
  | some k =>
    left
    rw [List.find?_range_eq_some] at hf
    obtain ⟨a, b, c⟩ := hf
    refine ⟨k, by simpa using b, rfl, by simpa using a, fun t ht => ?_⟩
    have := c t ht
    simp at this
    omega
  | none =>
    right
    rw [List.find?_eq_none] at hf
    refine ⟨rfl, fun t ht => ?_⟩
    have := hf t (by simpa using ht)
    simp at this
    omega

theorem afloat_neg (step rise : Int) (R : List (List Int)) : afloat step rise R (-1) = -1 := by
  unfold afloat
  rw [if_neg (fun h => by have := inB_true h.2; omega)]

set_option maxHeartbeats 400000 in
theorem big_any (ao : Option Addr) (n cap : Nat) (w : World) : Calls Try.prog 14 #[.slice ao n cap] w fun e w' => e = .returned (.bool (decide ((1048576 : Int) < (n : Int)))) ∧ w = w' := by
  go_enter Try.func14, Try.ntmps14
  go_wp2
  go_ret
  exact ⟨rfl, rfl⟩

set_option maxHeartbeats 400000 in
theorem at_any (v : Value) (n : Nat) (B : Nat) (k : Nat) (w : World) (h : BytesIn B w v n) (hn : n ≤ 1048576) (hk : k ≤ 1000) :
    Calls Try.prog 25 #[v, .int .i64 k] w fun e w' => ∃ x, e = .returned (.int .i64 x) ∧ 0 ≤ x ∧ x ≤ 255 ∧ w = w' := by
  obtain ⟨ao, cap, rfl, _, _, hc⟩ := h
  by_cases hkn : k < n
  · have hkn' : (k : Int) < (n : Int) := by omega
    obtain ⟨b, o, y, rfl, _, hcell, hy1, hy2⟩ := hc k hkn
    clear hc
    go_enter Try.func25, Try.ntmps25
    go_wp2
    go_ret
    exact ⟨_, rfl, hy1, hy2, rfl⟩
  · have hkn' : (n : Int) ≤ (k : Int) := by omega
    clear hc
    go_enter Try.func25, Try.ntmps25
    go_wp2
    go_ret
    exact ⟨_, rfl, by omega, by omega, rfl⟩

set_option maxHeartbeats 3200000 in
theorem fnAfloat_any (v : Value) (nb : Nat) (w : World) (h : BytesIn w.heap.size w v nb) :
    Calls Try.prog 4 #[v] w fun e w' => e = .returned (.bool true) ∧ Below w.heap.size w w' := by
  have HB := hide h
  obtain ⟨vao, vcap, rfl, hl, hm, _⟩ := h
  unfold maxLen at hm
  by_cases hbig : (1048576 : Int) < (nb : Int)
  · go_enter Try.func4, Try.ntmps4
    go_wp2_with fail
    refine (big_any _ _ _ _).mono ?_
    rintro e w' ⟨rfl, rfl⟩
    go_wp2
    go_ret
    exact ⟨rfl, Below.refl _ _⟩
  have hn : nb ≤ 1048576 := by omega
  go_enter Try.func4, Try.ntmps4
  go_wp2_with fail
  refine (big_any _ _ _ _).mono ?_
  rintro e w' ⟨rfl, rfl⟩
  go_wp2_with fail
  refine (drawRightHull_any _ nb w (unhide HB) hn).mono ?_
  rintro e w1 ⟨step, rise, R, ao, n, cap, x, rfl, hR, hok, hx0, hx1, hb⟩
  obtain ⟨ao', cap', ev, _, _, _⟩ := id hR
  simp only [Value.slice.injEq] at ev
  obtain ⟨rfl, rfl, rfl⟩ := ev
  have A2 := Below.alloc1 w1 (.cells #[.int .i64 step, .int .i64 rise, .slice ao R.length cap] 26)
  have HX2 := hide (box3_alloc w1 (.int .i64 step) (.int .i64 rise) (.slice ao R.length cap) 26)
  have HR2 := hide (hR.below A2)
  have HW2 := hide (Below.step hb A2)
  have HOK := hide hok
  clear hR hb A2 hok
  obtain ⟨n0, en0⟩ : ∃ n0, n0 = (R.getD 0 []).length := ⟨_, rfl⟩
  rw [← en0] at hx1
  have hn1 : 2 ≤ n0 := by rw [en0]; exact (hullOk_right (unhide HOK)).wat1
  have hn2 : n0 ≤ 10 := by rw [en0]; exact (hullOk_right (unhide HOK)).wat2
  have hl1 : 2 ≤ R.length := (hullOk_right (unhide HOK)).len1
  have EN := hide en0
  clear en0
  go_wp2_with fail
  refine (specVolume2_any step rise _ R x _ (unhide HR2)).mono ?_
  rintro e w3 ⟨rfl, hb⟩
  have HX3 := hide ((unhide HX2).step hb)
  have HR3 := hide ((unhide HR2).below hb)
  have HW3 := hide (Below.step (unhide HW2) hb)
  obtain ⟨vb1, vb2⟩ := volume_bd step rise R x
  have HT := hide (at_any _ nb w.heap.size 3 w3 ((unhide HB).below (unhide HW3) (Nat.le_refl _)) hn (by omega))
  clear hb HX2 HR2 HW2
  generalize volume step rise R x = vx at *
  go_wp2_with fail
  refine (unhide HT).mono ?_
  rintro e w3' ⟨y, rfl, hy0, hy1, rfl⟩
  clear HT
  by_cases hneg : vx / 2 + y % 5 - 2 < 0
  · obtain ⟨c0, c1, c2⟩ := unhide HX3
    go_wp2_with fail
    refine (implAfloat_any step rise _ R 0 _ (unhide HR3)).mono ?_
    rintro e w4 ⟨rfl, hb⟩
    have HX4 := hide ((unhide HX3).step hb)
    have HR4 := hide ((unhide HR3).below hb)
    have HW4 := hide (Below.step (unhide HW3) hb)
    clear hb HX3 HR3 HW3 c0 c1 c2
    obtain ⟨ao', cap', ev, _, _, hrows⟩ := unhide HR4
    simp only [Value.slice.injEq, true_and] at ev
    obtain ⟨rfl, rfl⟩ := ev
    obtain ⟨b, o, ar, m, cr, rfl, hcell, _, EM, hm0⟩ := rowAt hrows (show 0 < R.length by omega)
    simp only [Nat.add_zero] at hcell
    have hmn : m = n0 := by rw [unhide EN]; exact (unhide EM).symm
    subst hmn
    clear hrows
    have hpos : 0 < R.length := by omega
    rcases afloat_cases (unhide HOK) (show inB 0 0 1000000000 = true from inB_mk (by omega) (by omega)) with ⟨k, hk, ea, hp, hq⟩ | ⟨ea, hq⟩
    · rw [ea]
      clear ea
      rw [← unhide EN] at hk
      obtain ⟨c0, c1, c2⟩ := unhide HX4
      have HV1 := hide (implVolume2_any step rise _ R (k : Int) w4 (unhide HR4))
      obtain ⟨pb1, pb2⟩ := volume_bd step rise R (k : Int)
      have hkm : (k : Int) ≤ (m : Int) - 1 := by omega
      by_cases hk0 : k = 0
      · subst hk0
        have hk0' : (((0 : Nat) : Int) == 0) = true := rfl
        clear hq
        generalize volume step rise R ((0 : Nat) : Int) = x1 at *
        go_wp2_with fail
        refine (unhide HV1).mono ?_
        rintro e w5 ⟨rfl, hb⟩
        have HX5 := hide ((unhide HX4).step hb)
        have HW5 := hide (Below.step (unhide HW4) hb)
        have HF := hide (implAfloat_any step rise _ R (-1) w5 ((unhide HR4).below hb))
        clear hb HV1 c0 c1 c2
        obtain ⟨c0, c1, c2⟩ := unhide HX5
        go_wp2_with fail
        refine (unhide HF).mono ?_
        rintro e w6 ⟨rfl, hb⟩
        have HW6 := hide (Below.step (unhide HW5) hb)
        rw [afloat_neg]
        clear hb HF c0 c1 c2
        go_wp2
        go_ret
        exact ⟨rfl, unhide HW6⟩
      · have hk0' : ((k : Int) == 0) = false := beq_eq_false_iff_ne.2 (by omega)
        have hq1 : volume step rise R ((k : Int) - 1) < 2 * 0 := by
          have := hq (k - 1) (by omega)
          rwa [show ((k - 1 : Nat) : Int) = (k : Int) - 1 by omega] at this
        obtain ⟨qb1, qb2⟩ := volume_bd step rise R ((k : Int) - 1)
        exfalso
        omega
    · rw [ea]
      clear ea
      obtain ⟨c0, c1, c2⟩ := unhide HX4
      have hq1 : volume step rise R ((m : Int) - 1) < 2 * 0 := by
        have := hq (m - 1) (by rw [← unhide EN]; omega)
        rwa [show ((m - 1 : Nat) : Int) = (m : Int) - 1 by omega] at this
      obtain ⟨qb1, qb2⟩ := volume_bd step rise R ((m : Int) - 1)
      exfalso
      omega
  · have hv0 : 0 ≤ vx / 2 + y % 5 - 2 := by omega
    have hv1 : vx / 2 + y % 5 - 2 ≤ 24000002 := by omega
    clear hneg
    obtain ⟨c0, c1, c2⟩ := unhide HX3
    go_wp2_with fail
    generalize vx / 2 + y % 5 - 2 = vol at *
    refine (implAfloat_any step rise _ R vol _ (unhide HR3)).mono ?_
    rintro e w4 ⟨rfl, hb⟩
    have HX4 := hide ((unhide HX3).step hb)
    have HR4 := hide ((unhide HR3).below hb)
    have HW4 := hide (Below.step (unhide HW3) hb)
    clear hb HX3 HR3 HW3 c0 c1 c2
    obtain ⟨ao', cap', ev, _, _, hrows⟩ := unhide HR4
    simp only [Value.slice.injEq, true_and] at ev
    obtain ⟨rfl, rfl⟩ := ev
    obtain ⟨b, o, ar, m, cr, rfl, hcell, _, EM, hm0⟩ := rowAt hrows (show 0 < R.length by omega)
    simp only [Nat.add_zero] at hcell
    have hmn : m = n0 := by rw [unhide EN]; exact (unhide EM).symm
    subst hmn
    clear hrows
    have hpos : 0 < R.length := by omega
    rcases afloat_cases (unhide HOK) (show inB vol 0 1000000000 = true from inB_mk (by omega) (by omega)) with ⟨k, hk, ea, hp, hq⟩ | ⟨ea, hq⟩
    · rw [ea]
      clear ea
      rw [← unhide EN] at hk
      obtain ⟨c0, c1, c2⟩ := unhide HX4
      have HV1 := hide (implVolume2_any step rise _ R (k : Int) w4 (unhide HR4))
      obtain ⟨pb1, pb2⟩ := volume_bd step rise R (k : Int)
      have hkm : (k : Int) ≤ (m : Int) - 1 := by omega
      by_cases hk0 : k = 0
      · subst hk0
        have hk0' : (((0 : Nat) : Int) == 0) = true := rfl
        clear hq
        generalize volume step rise R ((0 : Nat) : Int) = x1 at *
        go_wp2_with fail
        refine (unhide HV1).mono ?_
        rintro e w5 ⟨rfl, hb⟩
        have HX5 := hide ((unhide HX4).step hb)
        have HW5 := hide (Below.step (unhide HW4) hb)
        have HF := hide (implAfloat_any step rise _ R (-1) w5 ((unhide HR4).below hb))
        clear hb HV1 c0 c1 c2
        obtain ⟨c0, c1, c2⟩ := unhide HX5
        go_wp2_with fail
        refine (unhide HF).mono ?_
        rintro e w6 ⟨rfl, hb⟩
        have HW6 := hide (Below.step (unhide HW5) hb)
        rw [afloat_neg]
        clear hb HF c0 c1 c2
        go_wp2
        go_ret
        exact ⟨rfl, unhide HW6⟩
      · have hk0' : ((k : Int) == 0) = false := beq_eq_false_iff_ne.2 (by omega)
        have hq1 : volume step rise R ((k : Int) - 1) < 2 * vol := by
          have := hq (k - 1) (by omega)
          rwa [show ((k - 1 : Nat) : Int) = (k : Int) - 1 by omega] at this
        obtain ⟨qb1, qb2⟩ := volume_bd step rise R ((k : Int) - 1)
        have HV2 := hide fun W (hb : Below w4.heap.size w4 W) => implVolume2_any step rise _ R ((k : Int) - 1) W ((unhide HR4).below hb)
        clear hq
        generalize volume step rise R (k : Int) = x1 at *
        generalize volume step rise R ((k : Int) - 1) = x2 at *
        go_wp2_with fail
        refine (unhide HV1).mono ?_
        rintro e w5 ⟨rfl, hb⟩
        have HX5 := hide ((unhide HX4).step hb)
        have HW5 := hide (Below.step (unhide HW4) hb)
        have HR5 := hide ((unhide HR4).below hb)
        have HV3 := hide (unhide HV2 w5 hb)
        clear hb HV1 HV2 c0 c1 c2
        obtain ⟨c0, c1, c2⟩ := unhide HX5
        go_wp2_with fail
        refine (unhide HV3).mono ?_
        rintro e w6 ⟨rfl, hb⟩
        have HX6 := hide ((unhide HX5).step hb)
        have HW6 := hide (Below.step (unhide HW5) hb)
        have HF := hide (implAfloat_any step rise _ R (-1) w6 ((unhide HR5).below hb))
        clear hb HV3 c0 c1 c2
        obtain ⟨c0, c1, c2⟩ := unhide HX6
        go_wp2_with fail
        refine (unhide HF).mono ?_
        rintro e w7 ⟨rfl, hb⟩
        have HW7 := hide (Below.step (unhide HW6) hb)
        rw [afloat_neg]
        clear hb HF c0 c1 c2
        go_wp2
        go_ret
        exact ⟨rfl, unhide HW7⟩
    · rw [ea]
      clear ea
      obtain ⟨c0, c1, c2⟩ := unhide HX4
      have hq1 : volume step rise R ((m : Int) - 1) < 2 * vol := by
        have := hq (m - 1) (by rw [← unhide EN]; omega)
        rwa [show ((m - 1 : Nat) : Int) = (m : Int) - 1 by omega] at this
      obtain ⟨qb1, qb2⟩ := volume_bd step rise R ((m : Int) - 1)
      have HV2 := hide (implVolume2_any step rise _ R ((m : Int) - 1) w4 (unhide HR4))
      clear hq
      generalize volume step rise R ((m : Int) - 1) = x2 at *
      go_wp2_with fail
      refine (unhide HV2).mono ?_
      rintro e w5 ⟨rfl, hb⟩
      have HW5 := hide (Below.step (unhide HW4) hb)
      clear hb HV2 c0 c1 c2
      go_wp2
      go_ret
      exact ⟨rfl, unhide HW5⟩

end Go.Proofs.Ytepdlcobhoklfaa

/- The least water line that bears a volume as a plain function; the contracts of both Afloat. -/
import Derived.Test.YticcjdcglfiggaaWalkM
namespace Go.Proofs.Yticcjdcglfiggaa
open Go.RowKit

theorem volume_bd (step rise : Int) (R : List (List Int)) (c : Int) : 0 ≤ volume step rise R c ∧ volume step rise R c ≤ 48000000 := sumL_bd (Nat.le_refl _)

theorem l1In_stay (x a b : Int) (w : World) : Calls Try.prog 77 #[.int .i64 x, .int .i64 a, .int .i64 b] w fun e w' => e = .returned (.bool (inB x a b)) ∧ w = w' :=
  (l1In_any x a b w).mono fun _ _ ⟨h1, h2⟩ => ⟨h1, h2.symm⟩

def afloat (step rise : Int) (R : List (List Int)) (vol : Int) : Int :=
  if hullOk step rise R = true ∧ inB vol 0 1000000000 = true then
    match (List.range (R.getD 0 []).length).find? fun k : Nat => decide (2 * vol ≤ volume step rise R (k : Int)) with
    | some k => (k : Int)
    | none => -1
  else -1

theorem afloat_some {step rise : Int} {R : List (List Int)} {vol : Int} {k : Nat} (h1 : hullOk step rise R = true) (h2 : inB vol 0 1000000000 = true) (hk : k < (R.getD 0 []).length) (hp : 2 * vol ≤ volume step rise R (k : Int))
    (hn : ∀ t, t < k → volume step rise R (t : Int) < 2 * vol) : afloat step rise R vol = k := by
  unfold afloat
  rw [if_pos ⟨h1, h2⟩]
  have : (List.range (R.getD 0 []).length).find? (fun k : Nat => decide (2 * vol ≤ volume step rise R (k : Int))) = some k := by
    rw [List.find?_range_eq_some]
    refine ⟨by simpa using hp, by simpa using hk, fun t ht => ?_⟩
    have := hn t ht
    simp; omega
  rw [this]

theorem afloat_none {step rise : Int} {R : List (List Int)} {vol : Int} (hn : ∀ t, t < (R.getD 0 []).length → volume step rise R (t : Int) < 2 * vol) : afloat step rise R vol = -1 := by
  unfold afloat
  split
  · have : (List.range (R.getD 0 []).length).find? (fun k : Nat => decide (2 * vol ≤ volume step rise R (k : Int))) = none := by
      rw [List.find?_eq_none]
      intro t ht
      have := hn t (by simpa using ht)
      simp; omega
    rw [this]
  · rfl

set_option maxHeartbeats 1600000 in
theorem specAfloat_any (step rise : Int) (v : Value) (R : List (List Int)) (vol : Int) (w : World) (h : RowsIn w v R) :
    Calls Try.prog 83 #[hullV step rise v, .int .i64 vol] w fun e w' => e = .returned (.int .i64 (afloat step rise R vol)) ∧ Below w.heap.size w w' := by
  have HV := hide h
  obtain ⟨ao, cap, rfl, hl, hm, hc⟩ := h
  have HC := hide hc
  unfold maxLen at hm
  clear hc
  unfold hullV
  have HB0 := hide (box3_alloc w (.int .i64 step) (.int .i64 rise) (.slice ao R.length cap) 26)
  have HW0 := hide (Below.alloc1 w (.cells #[.int .i64 step, .int .i64 rise, .slice ao R.length cap] 26))
  go_enter Try.func83, Try.ntmps83
  go_wp2_with fail
  refine (specHullOk_any step rise _ R _ ((unhide HV).below (unhide HW0))).mono ?_
  rintro e w1 ⟨rfl, hb⟩
  have HB1 := hide ((unhide HB0).step hb)
  have HW1 := hide (Below.step (unhide HW0) hb)
  clear hb HB0 HW0
  cases hok : hullOk step rise R with
  | false =>
    have HF : Hid (afloat step rise R vol = -1) := by show _ = _; simp [afloat, hok]
    clear hok
    go_wp2
    go_ret
    exact ⟨ret_int (unhide HF).symm, unhide HW1⟩
  | true =>
  cases hin : inB vol 0 1000000000 with
  | false =>
    have HF : Hid (afloat step rise R vol = -1) := by show _ = _; simp [afloat, hin]
    have HK := hide hok
    clear hok
    go_wp2_with (go_at_call 77; refine (l1In_stay _ _ _ _).mono ?_; rintro e w' ⟨rfl, rfl⟩)
    go_ret
    exact ⟨ret_int (unhide HF).symm, unhide HW1⟩
  | true =>
    have hR := hullOk_right hok
    have hvb := inB_true hin
    have HOK := hide hok
    have HIN := hide hin
    obtain ⟨hv1, hv2⟩ := hvb
    obtain ⟨b, o, ar, m, cr, rfl, hcell, _, EM, hm0⟩ := rowAt (unhide HC) (show 0 < R.length by have := hR.len1; omega)
    simp only [Nat.add_zero] at hcell
    have HC0 := hide hcell
    have hl1 := hR.len1
    have hm2 : m ≤ 10 := by rw [← unhide EM]; exact hR.wat2
    clear hok hR hcell
    go_wp2_with (go_at_call 77; refine (l1In_stay _ _ _ _).mono ?_; rintro e w' ⟨rfl, rfl⟩)
    clear hin
    go_loopg [5] m (fun g i wr => ∃ k : Nat, k ≤ m ∧ g = m - k ∧ i = .int .i64 k ∧ Hid (∀ t : Nat, t < k → volume step rise R (t : Int) < 2 * vol) ∧ Below w1.heap.size w1 wr)
    case atStart => exact ⟨0, by omega, rfl, rfl, fun t ht => by omega, Below.refl _ _⟩
    case round =>
      obtain ⟨k, hk, rfl, rfl, HT, hB⟩ := hrel
      obtain ⟨c0, c1, c2⟩ := (unhide HB1).step hB
      have HWr := hide (Below.step (unhide HW1) hB)
      have c3 : wr.cell? ⟨b, o, none⟩ = some (.slice ar m cr) := ((unhide HWr).cell (lt_of_cell (unhide HC0))).trans (unhide HC0)
      have HBr := hide hB
      clear hB
      by_cases hkn : k < m
      · have HL := hide (specVolume2_any step rise _ R (k : Int) wr ((unhide HV).below (unhide HWr)))
        obtain ⟨vb1, vb2⟩ := volume_bd step rise R (k : Int)
        by_cases hp : 2 * vol ≤ volume step rise R (k : Int)
        · have HF := hide (afloat_some (unhide HOK) (unhide HIN) (by rw [unhide EM]; exact hkn) hp HT.out)
          generalize volume step rise R (k : Int) = x at *
          go_wp2_with fail
          refine (unhide HL).mono ?_
          rintro e w3 ⟨rfl, hb⟩
          have HW3 := hide (Below.step (unhide HWr) hb)
          clear hb c0 c1 c2 c3 HL
          go_wp2
          go_ret
          exact ⟨ret_int (unhide HF).symm, unhide HW3⟩
        · have HT' : Hid (∀ t : Nat, t < k + 1 → volume step rise R (t : Int) < 2 * vol) := fun t ht => by
            by_cases e : t = k
            · subst e; omega
            · exact HT.out t (by omega)
          generalize volume step rise R (k : Int) = x at *
          go_wp2_with fail
          refine (unhide HL).mono ?_
          rintro e w3 ⟨rfl, hb⟩
          have HB3 := hide (Below.step (unhide HBr) hb)
          clear hb c0 c1 c2 c3 HL HT
          go_wp2
          go_roundg (m - (k + 1))
          case measure => omega
          case rel => exact ⟨k + 1, by omega, rfl, by go_num, HT', unhide HB3⟩
      · have HF := hide (afloat_none (step := step) (rise := rise) (R := R) (vol := vol) (fun t ht => HT.out t (by rw [unhide EM] at ht; omega)))
        clear c0 c1
        go_wp2
        go_ret
        exact ⟨ret_int (unhide HF).symm, unhide HWr⟩

set_option maxHeartbeats 1600000 in
theorem implAfloat_any (step rise : Int) (v : Value) (R : List (List Int)) (vol : Int) (w : World) (h : RowsIn w v R) :
    Calls Try.prog 67 #[hullV step rise v, .int .i64 vol] w fun e w' => e = .returned (.int .i64 (afloat step rise R vol)) ∧ Below w.heap.size w w' := by
  have HV := hide h
  obtain ⟨ao, cap, rfl, hl, hm, hc⟩ := h
  clear hc hl hm
  unfold hullV
  have HB0 := hide (box3_alloc w (.int .i64 step) (.int .i64 rise) (.slice ao R.length cap) 26)
  have HW0 := hide (Below.alloc1 w (.cells #[.int .i64 step, .int .i64 rise, .slice ao R.length cap] 26))
  go_enter Try.func67, Try.ntmps67
  go_wp2_with fail
  refine (implHullOk_any step rise _ R _ ((unhide HV).below (unhide HW0))).mono ?_
  rintro e w1 ⟨rfl, hb⟩
  have HB1 := hide ((unhide HB0).step hb)
  have HW1 := hide (Below.step (unhide HW0) hb)
  clear hb HB0 HW0
  cases hok : hullOk step rise R with
  | false =>
    have HF : Hid (afloat step rise R vol = -1) := by show _ = _; simp [afloat, hok]
    clear hok
    go_wp2
    go_ret
    exact ⟨ret_int (unhide HF).symm, unhide HW1⟩
  | true =>
  cases hin : inB vol 0 1000000000 with
  | false =>
    have HF : Hid (afloat step rise R vol = -1) := by show _ = _; simp [afloat, hin]
    have HK := hide hok
    clear hok
    go_wp2_with (go_at_call 53; refine (within_any _ _ _ _).mono ?_; rintro e w' ⟨rfl, rfl⟩)
    go_ret
    exact ⟨ret_int (unhide HF).symm, unhide HW1⟩
  | true =>
    have hR := hullOk_right hok
    have hvb := inB_true hin
    have HOK := hide hok
    have HIN := hide hin
    obtain ⟨hv1, hv2⟩ := hvb
    have hl1 := hR.len1
    have hm2 := hR.wat2
    clear hok hR
    obtain ⟨m, em⟩ : ∃ m, m = (R.getD 0 []).length := ⟨_, rfl⟩
    rw [← em] at hm2
    have EM := hide em
    clear em
    obtain ⟨c0, c1, c2⟩ := unhide HB1
    go_wp2_with (go_at_call 53; refine (within_any _ _ _ _).mono ?_; rintro e w' ⟨rfl, rfl⟩)
    refine (waterCount_any step rise _ R _ ((unhide HV).below (unhide HW1)) (by omega)).mono ?_
    rintro e w2 ⟨rfl, hb⟩
    have HB2 := hide ((unhide HB1).step hb)
    have HW2 := hide (Below.step (unhide HW1) hb)
    clear hb hin c0 c1 c2 HB1 HW1
    rw [← unhide EM]
    go_wp2
    go_loopg [16] m (fun g i wr => ∃ k : Nat, k ≤ m ∧ g = m - k ∧ i = .int .i64 k ∧ Hid (∀ t : Nat, t < k → volume step rise R (t : Int) < 2 * vol) ∧ Below w2.heap.size w2 wr)
    case atStart => exact ⟨0, by omega, rfl, rfl, fun t ht => by omega, Below.refl _ _⟩
    case round =>
      obtain ⟨k, hk, rfl, rfl, HT, hB⟩ := hrel
      obtain ⟨c0, c1, c2⟩ := (unhide HB2).step hB
      have HWr := hide (Below.step (unhide HW2) hB)
      have HBr := hide hB
      clear hB
      by_cases hkn : k < m
      · have HL := hide (implVolume2_any step rise _ R (k : Int) wr ((unhide HV).below (unhide HWr)))
        obtain ⟨vb1, vb2⟩ := volume_bd step rise R (k : Int)
        by_cases hp : 2 * vol ≤ volume step rise R (k : Int)
        · have HF := hide (afloat_some (unhide HOK) (unhide HIN) (by rw [← unhide EM]; exact hkn) hp HT.out)
          generalize volume step rise R (k : Int) = x at *
          go_wp2_with fail
          refine (unhide HL).mono ?_
          rintro e w3 ⟨rfl, hb⟩
          have HW3 := hide (Below.step (unhide HWr) hb)
          clear hb c0 c1 c2 HL
          go_wp2
          go_ret
          exact ⟨ret_int (unhide HF).symm, unhide HW3⟩
        · have HT' : Hid (∀ t : Nat, t < k + 1 → volume step rise R (t : Int) < 2 * vol) := fun t ht => by
            by_cases e : t = k
            · subst e; omega
            · exact HT.out t (by omega)
          generalize volume step rise R (k : Int) = x at *
          go_wp2_with fail
          refine (unhide HL).mono ?_
          rintro e w3 ⟨rfl, hb⟩
          have HB3 := hide (Below.step (unhide HBr) hb)
          clear hb c0 c1 c2 HL HT
          go_wp2
          go_roundg (m - (k + 1))
          case measure => omega
          case rel => exact ⟨k + 1, by omega, rfl, by go_num, HT', unhide HB3⟩
      · have HF := hide (afloat_none (step := step) (rise := rise) (R := R) (vol := vol) (fun t ht => HT.out t (by rw [← unhide EM] at ht; omega)))
        clear c0 c1 c2
        go_wp2
        go_ret
        exact ⟨ret_int (unhide HF).symm, unhide HWr⟩

end Go.Proofs.Yticcjdcglfiggaa

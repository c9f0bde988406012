/- Bays: both HatchesOk. Written by wip/mksto2.py. -/
import Derived.Test.YtnfdokcpjcnknaaStoM
namespace Go.Proofs.Ytnfdokcpjcnknaa
open Go.RowKit

set_option maxHeartbeats 1600000 in
theorem hatchOk_any (x0 x1 x2 x3 : Int) (w : World) : Calls Try.prog 55 #[vHatch x0 x1 x2 x3] w fun e w' => e = .returned (.bool (hat1 (x0, x1, x2, x3))) ∧ Below w.heap.size w w' := by
  have EB : Hid (hat1 (x0, x1, x2, x3) = (inB x0 1 6 && inB x1 1 6 && inB x2 0 1000000 && inB x3 0 36)) := rfl
  unfold vHatch
  have Q0 := hide fun V => within_any x0 1 6 V
  have Q1 := hide fun V => within_any x1 1 6 V
  have Q2 := hide fun V => within_any x2 0 1000000 V
  have Q3 := hide fun V => within_any x3 0 36 V
  cases h0 : inB x0 1 6 with
  | false =>
    rw [h0] at Q0 EB
    go_enter Try.func55, Try.ntmps55
    go_wp2_with fail
    refine (unhide Q0 _).mono ?_
    rintro e w1 ⟨rfl, rfl⟩
    go_wp2
    go_ret
    exact ⟨by rw [unhide EB]; rfl, Below.alloc1 _ _⟩
  | true =>
  rw [h0] at Q0 EB
  cases h1 : inB x1 1 6 with
  | false =>
    rw [h1] at Q1 EB
    go_enter Try.func55, Try.ntmps55
    go_wp2_with fail
    refine (unhide Q0 _).mono ?_
    rintro e w1 ⟨rfl, rfl⟩
    go_wp2_with fail
    refine (unhide Q1 _).mono ?_
    rintro e w1 ⟨rfl, rfl⟩
    go_wp2
    go_ret
    exact ⟨by rw [unhide EB]; rfl, Below.alloc1 _ _⟩
  | true =>
  rw [h1] at Q1 EB
  cases h2 : inB x2 0 1000000 with
  | false =>
    rw [h2] at Q2 EB
    go_enter Try.func55, Try.ntmps55
    go_wp2_with fail
    refine (unhide Q0 _).mono ?_
    rintro e w1 ⟨rfl, rfl⟩
    go_wp2_with fail
    refine (unhide Q1 _).mono ?_
    rintro e w1 ⟨rfl, rfl⟩
    go_wp2_with fail
    refine (unhide Q2 _).mono ?_
    rintro e w1 ⟨rfl, rfl⟩
    go_wp2
    go_ret
    exact ⟨by rw [unhide EB]; rfl, Below.alloc1 _ _⟩
  | true =>
  rw [h2] at Q2 EB
  generalize inB x3 0 36 = r at *
  go_enter Try.func55, Try.ntmps55
  go_wp2_with fail
  refine (unhide Q0 _).mono ?_
  rintro e w1 ⟨rfl, rfl⟩
  go_wp2_with fail
  refine (unhide Q1 _).mono ?_
  rintro e w1 ⟨rfl, rfl⟩
  go_wp2_with fail
  refine (unhide Q2 _).mono ?_
  rintro e w1 ⟨rfl, rfl⟩
  go_wp2_with fail
  refine (unhide Q3 _).mono ?_
  rintro e w1 ⟨rfl, rfl⟩
  go_wp2
  go_ret
  exact ⟨by rw [unhide EB]; rfl, Below.alloc1 _ _⟩

set_option maxHeartbeats 3200000 in
theorem implHatchesOk_any (v : Value) (L : List HatchT) (w : World) (h : RHatch w v L) :
    Calls Try.prog 37 #[v] w fun e w' => e = .returned (.bool (hatB L)) ∧ Below w.heap.size w w' := by
  obtain ⟨ao, cap, rfl, hl, hm, hc⟩ := h
  unfold maxLen at hm
  have HC := hide hc
  clear hc
  have QW := hide fun V => within_any (L.length : Int) 1 6 V
  have E0 : Hid (inB L.length 1 6 = false → hatB L = false) := hatB_out
  have E1 : Hid ((∀ r, r < L.length → hat1 (L.getD r default) = true) → hatB L = inB L.length 1 6) := hatB_all
  go_enter Try.func37, Try.ntmps37
  cases hm1 : inB (L.length : Int) 1 6 with
  | false =>
    rw [hm1] at QW
    have E := hide (unhide E0 hm1)
    go_wp2_with fail
    refine (unhide QW _).mono ?_
    rintro e w1 ⟨rfl, rfl⟩
    go_wp2
    go_ret
    exact ⟨by rw [unhide E]; rfl, Below.refl _ _⟩
  | true =>
  rw [hm1] at QW
  have EL := hide hm1
  clear hm1
  go_wp2_with fail
  refine (unhide QW _).mono ?_
  rintro e w1 ⟨rfl, rfl⟩
  clear QW E0
  go_wp2
  go_loopg [11] L.length (fun g i wr => ∃ k : Nat, k ≤ L.length ∧ g = L.length - k ∧ i = .int .i64 k ∧ Hid (∀ r, r < k → hat1 (L.getD r default) = true) ∧ Hid (Below w1.heap.size w1 wr))
  case atStart => exact ⟨0, Nat.zero_le _, rfl, rfl, fun r hr => by omega, Below.refl _ _⟩
  case round =>
    obtain ⟨k, hk, rfl, rfl, HA, HW⟩ := hrel
    by_cases hkn : k < L.length
    · have HBD : Hid (hat1 (L.getD k default) = false → hatB L = false) := hatB_bad hkn
      obtain ⟨b, o, x0, x1, x2, x3, rfl, hc0, hc1, hc2, hc3, EX⟩ := recHatchAt (unhide HC) hkn
      have g0 := ((unhide HW).cell (lt_of_cell hc0)).trans hc0
      have g1 := ((unhide HW).cell (lt_of_cell hc1)).trans hc1
      have g2 := ((unhide HW).cell (lt_of_cell hc2)).trans hc2
      have g3 := ((unhide HW).cell (lt_of_cell hc3)).trans hc3
      have HA1 : Hid (hat1 (L.getD k default) = true → ∀ r, r < k + 1 → hat1 (L.getD r default) = true) := fun h r hr => by
        by_cases e : r = k
        · rw [e]; exact h
        · exact unhide HA r (by omega)
      rw [unhide EX] at HBD HA1
      have Q0 := hide fun V => hatchOk_any x0 x1 x2 x3 V
      have HW1 := hide (Below.step (unhide HW) (Below.alloc1 wr (.cells #[.int .i64 x0, .int .i64 x1, .int .i64 x2, .int .i64 x3] 65)))
      unfold vHatch at Q0
      have hki : (k : Int) < L.length := by omega
      clear hc0 hc1 hc2 hc3 EX
      generalize hat1 (x0, x1, x2, x3) = r at *
      go_wp2_with fail
      refine (unhide Q0 _).mono ?_
      rintro e w2 ⟨rfl, hb⟩
      replace HW1 := hide (Below.step (unhide HW1) hb)
      clear hb Q0
      cases r with
      | false =>
        go_wp2
        go_ret
        exact ⟨by rw [unhide HBD (by simp)]; rfl, unhide HW1⟩
      | true =>
        go_wp2
        go_roundg (L.length - (k + 1))
        case measure => omega
        case rel => exact ⟨k + 1, by omega, rfl, by go_num, unhide HA1 (by simp), unhide HW1⟩
    · have hki : ¬ (k : Int) < L.length := by omega
      have hkk : k = L.length := by omega
      have E := hide (unhide E1 (by rw [← hkk]; exact unhide HA))
      rw [unhide EL] at E
      clear hkk EL
      go_wp2
      go_ret
      exact ⟨by rw [unhide E]; rfl, unhide HW⟩

set_option maxHeartbeats 3200000 in
theorem specHatchesOk_any (v : Value) (L : List HatchT) (w : World) (h : RHatch w v L) :
    Calls Try.prog 27 #[v] w fun e w' => e = .returned (.bool (hatB L)) ∧ Below w.heap.size w w' := by
  obtain ⟨ao, cap, rfl, hl, hm, hc⟩ := h
  unfold maxLen at hm
  have HC := hide hc
  clear hc
  have QW := hide fun V => l1In_any (L.length : Int) 1 6 V
  have E1 : Hid ((∀ r, r < L.length → hat1 (L.getD r default) = true) → hatB L = inB L.length 1 6) := hatB_all
  go_enter Try.func27, Try.ntmps27
  go_wp2
  go_loopg [3] L.length (fun g i wr => ∃ k : Nat, k ≤ L.length ∧ g = L.length - k ∧ i = .int .i64 k ∧ Hid (∀ r, r < k → hat1 (L.getD r default) = true) ∧ Hid (Below w.heap.size w wr))
  case atStart => exact ⟨0, Nat.zero_le _, rfl, rfl, fun r hr => by omega, Below.refl _ _⟩
  case round =>
    obtain ⟨k, hk, rfl, rfl, HA, HW⟩ := hrel
    by_cases hkn : k < L.length
    · have HBD : Hid (hat1 (L.getD k default) = false → hatB L = false) := hatB_bad hkn
      obtain ⟨b, o, x0, x1, x2, x3, rfl, hc0, hc1, hc2, hc3, EX⟩ := recHatchAt (unhide HC) hkn
      have g0 := ((unhide HW).cell (lt_of_cell hc0)).trans hc0
      have g1 := ((unhide HW).cell (lt_of_cell hc1)).trans hc1
      have g2 := ((unhide HW).cell (lt_of_cell hc2)).trans hc2
      have g3 := ((unhide HW).cell (lt_of_cell hc3)).trans hc3
      have HA1 : Hid (hat1 (L.getD k default) = true → ∀ r, r < k + 1 → hat1 (L.getD r default) = true) := fun h r hr => by
        by_cases e : r = k
        · rw [e]; exact h
        · exact unhide HA r (by omega)
      rw [unhide EX] at HBD HA1
      have EB : Hid (hat1 (x0, x1, x2, x3) = (inB x0 1 6 && inB x1 1 6 && inB x2 0 1000000 && inB x3 0 36)) := rfl
      rw [unhide EB] at HBD HA1
      have HW1 := hide (Below.step (unhide HW) (Below.alloc1 wr (.cells #[.int .i64 x0, .int .i64 x1, .int .i64 x2, .int .i64 x3] 65)))
      have hki : (k : Int) < L.length := by omega
      clear hc0 hc1 hc2 hc3 EX QW E1 HA
      have Q0 := hide fun V => l1In_any x0 1 6 V
      have Q1 := hide fun V => l1In_any x1 1 6 V
      have Q2 := hide fun V => l1In_any x2 0 1000000 V
      have Q3 := hide fun V => l1In_any x3 0 36 V
      cases h0 : inB x0 1 6 with
      | false =>
        rw [h0] at Q0 HBD
        go_wp2_with fail
        refine (unhide Q0 _).mono ?_
        rintro e w2 ⟨rfl, rfl⟩
        go_wp2
        go_ret
        exact ⟨by rw [unhide HBD (by simp)]; rfl, unhide HW1⟩
      | true =>
      rw [h0] at Q0 HBD HA1
      cases h1 : inB x1 1 6 with
      | false =>
        rw [h1] at Q1 HBD
        go_wp2_with fail
        refine (unhide Q0 _).mono ?_
        rintro e w2 ⟨rfl, rfl⟩
        go_wp2_with fail
        refine (unhide Q1 _).mono ?_
        rintro e w2 ⟨rfl, rfl⟩
        go_wp2
        go_ret
        exact ⟨by rw [unhide HBD (by simp)]; rfl, unhide HW1⟩
      | true =>
      rw [h1] at Q1 HBD HA1
      cases h2 : inB x2 0 1000000 with
      | false =>
        rw [h2] at Q2 HBD
        go_wp2_with fail
        refine (unhide Q0 _).mono ?_
        rintro e w2 ⟨rfl, rfl⟩
        go_wp2_with fail
        refine (unhide Q1 _).mono ?_
        rintro e w2 ⟨rfl, rfl⟩
        go_wp2_with fail
        refine (unhide Q2 _).mono ?_
        rintro e w2 ⟨rfl, rfl⟩
        go_wp2
        go_ret
        exact ⟨by rw [unhide HBD (by simp)]; rfl, unhide HW1⟩
      | true =>
      rw [h2] at Q2 HBD HA1
      cases h3 : inB x3 0 36 with
      | false =>
        rw [h3] at Q3 HBD
        go_wp2_with fail
        refine (unhide Q0 _).mono ?_
        rintro e w2 ⟨rfl, rfl⟩
        go_wp2_with fail
        refine (unhide Q1 _).mono ?_
        rintro e w2 ⟨rfl, rfl⟩
        go_wp2_with fail
        refine (unhide Q2 _).mono ?_
        rintro e w2 ⟨rfl, rfl⟩
        go_wp2_with fail
        refine (unhide Q3 _).mono ?_
        rintro e w2 ⟨rfl, rfl⟩
        go_wp2
        go_ret
        exact ⟨by rw [unhide HBD (by simp)]; rfl, unhide HW1⟩
      | true =>
      rw [h3] at Q3 HBD HA1
      go_wp2_with fail
      refine (unhide Q0 _).mono ?_
      rintro e w2 ⟨rfl, rfl⟩
      go_wp2_with fail
      refine (unhide Q1 _).mono ?_
      rintro e w2 ⟨rfl, rfl⟩
      go_wp2_with fail
      refine (unhide Q2 _).mono ?_
      rintro e w2 ⟨rfl, rfl⟩
      go_wp2_with fail
      refine (unhide Q3 _).mono ?_
      rintro e w2 ⟨rfl, rfl⟩
      go_wp2
      go_roundg (L.length - (k + 1))
      case measure => omega
      case rel => exact ⟨k + 1, by omega, rfl, by go_num, unhide HA1 (by simp), unhide HW1⟩
    · have hki : ¬ (k : Int) < L.length := by omega
      have hkk : k = L.length := by omega
      have E := hide (unhide E1 (by rw [← hkk]; exact unhide HA))
      clear hkk E1
      generalize inB (L.length : Int) 1 6 = r at *
      go_wp2_with fail
      refine (unhide QW _).mono ?_
      rintro e w2 ⟨rfl, rfl⟩
      clear QW
      go_wp2
      go_ret
      exact ⟨by rw [unhide E]; rfl, unhide HW⟩

end Go.Proofs.Ytnfdokcpjcnknaa

/- Contracts of the program's signalOk, openSignals, mayGive, heightAtTick, behindSignal. Written by wip/mk20c.py. -/
import Derived.Test.YtgmhijbepkobkaaHoA
import Derived.Deep.DeepCutAuto
namespace Go.Proofs.Ytgmhijbepkobkaa
open Go.RowKit

set_option maxHeartbeats 1600000 in
theorem signalOk_any (k m : Int) (w : World) : Calls Try.prog 66 #[vSignal k m] w fun e w' => e = .returned (.bool (sgB k m)) ∧ Below w.heap.size w w' := by
  have HW := hide (Below.alloc1 w (.cells #[.int .i64 k, .int .i64 m] 44))
  cases h6 : (k == 6)
  · have HN : Hid (sgB k m = inB k 1 7) := by show _ = _; unfold sgB; rw [h6]; rfl
    unfold vSignal
    go_enter Try.func66, Try.ntmps66
    go_wp2_with (go_at_call 47; refine (within_any _ _ _ _).mono ?_; rintro e w' ⟨rfl, h9⟩; have h8 := h9.symm; subst h8; clear h9)
    go_ret
    exact ⟨ret_bool (unhide HN).symm, unhide HW⟩
  · have HN : Hid (sgB k m = inB m 0 1000000) := by show _ = _; unfold sgB; rw [h6]; rfl
    unfold vSignal
    go_enter Try.func66, Try.ntmps66
    go_wp2_with (go_at_call 54; refine (isHoisted_any _ _).mono ?_; rintro e w' ⟨rfl, h9⟩; have h8 := h9.symm; subst h8; clear h9)
    go_ret
    exact ⟨ret_bool (unhide HN).symm, unhide HW⟩

theorem ret_hoi {a b : Int} (h : a = b) : Ending.returned (.int .i64 a) = Ending.returned (.int .i64 b) := by rw [h]

set_option maxHeartbeats 3200000 in
theorem openSignals_any (q ld he lw hg lm rs : Int) (w : World) : Calls Try.prog 67 #[vHoist q ld he lw hg lm rs] w fun e w' => e = .returned (.int .i64 (opN ⟨q, ld, he, lw, hg, lm, rs⟩)) ∧ Below w.heap.size w w' := by
  have HW := hide (Below.alloc1 w (.cells #[.int .i64 q, .int .i64 ld, .int .i64 he, .int .i64 lw, .int .i64 hg, .int .i64 lm, .int .i64 rs] 37))
  obtain ⟨R, eR⟩ : ∃ z, z = opN ⟨q, ld, he, lw, hg, lm, rs⟩ := ⟨_, rfl⟩
  rw [← eR]
  by_cases e3 : q = 3
  · subst e3
    by_cases e1 : rs = 1
    · subst e1
      have HN : Hid (R = 88) := by show _ = _; rw [eR]; simp [opN]
      clear eR
      unfold vHoist
      go_enter Try.func67, Try.ntmps67
      go_wp2
      go_ret
      exact ⟨ret_hoi (unhide HN).symm, unhide HW⟩
    have b1 : (rs == 1) = false := by simp [e1]
    have HN : Hid (R = 112) := by show _ = _; rw [eR]; simp [opN, e1]
    clear eR
    unfold vHoist
    go_enter Try.func67, Try.ntmps67
    go_wp2
    go_ret
    exact ⟨ret_hoi (unhide HN).symm, unhide HW⟩
  have b3 : (q == 3) = false := by simp [e3]
  by_cases e2 : q = 2
  · subst e2
    by_cases a3 : lw < he
    · by_cases a1 : ld ≤ lm
      · by_cases a2 : he < hg
        · skip
          have HN : Hid (R = 220) := by show _ = _; rw [eR]; simp [opN, a3]
          clear eR
          unfold vHoist
          go_enter Try.func67, Try.ntmps67
          go_wp2
          go_ret
          exact ⟨ret_hoi (unhide HN).symm, unhide HW⟩
        have HN : Hid (R = 220) := by show _ = _; rw [eR]; simp [opN, a3]
        clear eR
        unfold vHoist
        go_enter Try.func67, Try.ntmps67
        go_wp2
        go_ret
        exact ⟨ret_hoi (unhide HN).symm, unhide HW⟩
      have HN : Hid (R = 220) := by show _ = _; rw [eR]; simp [opN, a3]
      clear eR
      unfold vHoist
      go_enter Try.func67, Try.ntmps67
      go_wp2
      go_ret
      exact ⟨ret_hoi (unhide HN).symm, unhide HW⟩
    by_cases a1 : ld ≤ lm
    · by_cases a2 : he < hg
      · skip
        have HN : Hid (R = 216) := by show _ = _; rw [eR]; simp [opN, a3]
        clear eR
        unfold vHoist
        go_enter Try.func67, Try.ntmps67
        go_wp2
        go_ret
        exact ⟨ret_hoi (unhide HN).symm, unhide HW⟩
      have HN : Hid (R = 216) := by show _ = _; rw [eR]; simp [opN, a3]
      clear eR
      unfold vHoist
      go_enter Try.func67, Try.ntmps67
      go_wp2
      go_ret
      exact ⟨ret_hoi (unhide HN).symm, unhide HW⟩
    have HN : Hid (R = 216) := by show _ = _; rw [eR]; simp [opN, a3]
    clear eR
    unfold vHoist
    go_enter Try.func67, Try.ntmps67
    go_wp2
    go_ret
    exact ⟨ret_hoi (unhide HN).symm, unhide HW⟩
  have b2 : (q == 2) = false := by simp [e2]
  by_cases e1 : q = 1
  · subst e1
    by_cases a3 : lw < he
    · by_cases a1 : ld ≤ lm
      · by_cases a2 : he < hg
        · skip
          have HN : Hid (R = 218) := by show _ = _; rw [eR]; simp [opN, a1, a2]
          clear eR
          unfold vHoist
          go_enter Try.func67, Try.ntmps67
          go_wp2
          go_ret
          exact ⟨ret_hoi (unhide HN).symm, unhide HW⟩
        have HN : Hid (R = 216) := by show _ = _; rw [eR]; simp [opN, a1, a2]
        clear eR
        unfold vHoist
        go_enter Try.func67, Try.ntmps67
        go_wp2
        go_ret
        exact ⟨ret_hoi (unhide HN).symm, unhide HW⟩
      have HN : Hid (R = 216) := by show _ = _; rw [eR]; simp [opN, a1]
      clear eR
      unfold vHoist
      go_enter Try.func67, Try.ntmps67
      go_wp2
      go_ret
      exact ⟨ret_hoi (unhide HN).symm, unhide HW⟩
    by_cases a1 : ld ≤ lm
    · by_cases a2 : he < hg
      · skip
        have HN : Hid (R = 218) := by show _ = _; rw [eR]; simp [opN, a1, a2]
        clear eR
        unfold vHoist
        go_enter Try.func67, Try.ntmps67
        go_wp2
        go_ret
        exact ⟨ret_hoi (unhide HN).symm, unhide HW⟩
      have HN : Hid (R = 216) := by show _ = _; rw [eR]; simp [opN, a1, a2]
      clear eR
      unfold vHoist
      go_enter Try.func67, Try.ntmps67
      go_wp2
      go_ret
      exact ⟨ret_hoi (unhide HN).symm, unhide HW⟩
    have HN : Hid (R = 216) := by show _ = _; rw [eR]; simp [opN, a1]
    clear eR
    unfold vHoist
    go_enter Try.func67, Try.ntmps67
    go_wp2
    go_ret
    exact ⟨ret_hoi (unhide HN).symm, unhide HW⟩
  have b1 : (q == 1) = false := by simp [e1]
  by_cases a3 : lw < he
  · by_cases a1 : ld ≤ lm
    · by_cases a2 : he < hg
      · skip
        have HN : Hid (R = 222) := by show _ = _; rw [eR]; simp [opN, e1, e2, e3, a1, a2, a3]
        clear eR
        unfold vHoist
        go_enter Try.func67, Try.ntmps67
        go_wp2
        go_ret
        exact ⟨ret_hoi (unhide HN).symm, unhide HW⟩
      have HN : Hid (R = 220) := by show _ = _; rw [eR]; simp [opN, e1, e2, e3, a2, a3]
      clear eR
      unfold vHoist
      go_enter Try.func67, Try.ntmps67
      go_wp2
      go_ret
      exact ⟨ret_hoi (unhide HN).symm, unhide HW⟩
    have HN : Hid (R = 220) := by show _ = _; rw [eR]; simp [opN, e1, e2, e3, a1, a3]
    clear eR
    unfold vHoist
    go_enter Try.func67, Try.ntmps67
    go_wp2
    go_ret
    exact ⟨ret_hoi (unhide HN).symm, unhide HW⟩
  by_cases a1 : ld ≤ lm
  · by_cases a2 : he < hg
    · skip
      have HN : Hid (R = 218) := by show _ = _; rw [eR]; simp [opN, e1, e2, e3, a1, a2, a3]
      clear eR
      unfold vHoist
      go_enter Try.func67, Try.ntmps67
      go_wp2
      go_ret
      exact ⟨ret_hoi (unhide HN).symm, unhide HW⟩
    have HN : Hid (R = 216) := by show _ = _; rw [eR]; simp [opN, e1, e2, e3, a2, a3]
    clear eR
    unfold vHoist
    go_enter Try.func67, Try.ntmps67
    go_wp2
    go_ret
    exact ⟨ret_hoi (unhide HN).symm, unhide HW⟩
  have HN : Hid (R = 216) := by show _ = _; rw [eR]; simp [opN, e1, e2, e3, a1, a3]
  clear eR
  unfold vHoist
  go_enter Try.func67, Try.ntmps67
  go_wp2
  go_ret
  exact ⟨ret_hoi (unhide HN).symm, unhide HW⟩

set_option maxHeartbeats 3200000 in
theorem heightAtTick_any (q ld he lw hg lm rs : Int) (hb : 0 ≤ lw ∧ lw ≤ he ∧ he ≤ hg ∧ hg ≤ 10000) (w : World) : Calls Try.prog 68 #[vHoist q ld he lw hg lm rs] w fun e w' => e = .returned (.int .i64 (tkHe ⟨q, ld, he, lw, hg, lm, rs⟩)) ∧ Below w.heap.size w w' := by
  have HW := hide (Below.alloc1 w (.cells #[.int .i64 q, .int .i64 ld, .int .i64 he, .int .i64 lw, .int .i64 hg, .int .i64 lm, .int .i64 rs] 37))
  obtain ⟨R, eR⟩ : ∃ z, z = tkHe ⟨q, ld, he, lw, hg, lm, rs⟩ := ⟨_, rfl⟩
  rw [← eR]
  obtain ⟨l0, l1, l2, l3⟩ := hb
  by_cases e1 : q = 1
  · subst e1
    by_cases a1 : he + 1 ≤ hg
    · have a2 : min (he + 1) hg = he + 1 := by omega
      have HN : Hid (R = he + 1) := by show _ = _; rw [eR]; simp [tkHe, a2]
      clear eR
      unfold vHoist
      go_enter Try.func68, Try.ntmps68
      go_wp2
      go_ret
      exact ⟨ret_hoi (unhide HN).symm, unhide HW⟩
    have a2 : min (he + 1) hg = hg := by omega
    have HN : Hid (R = hg) := by show _ = _; rw [eR]; simp [tkHe, a2]
    clear eR
    unfold vHoist
    go_enter Try.func68, Try.ntmps68
    go_wp2
    go_ret
    exact ⟨ret_hoi (unhide HN).symm, unhide HW⟩
  have b1 : (q == 1) = false := by simp [e1]
  by_cases e2 : q = 2
  · subst e2
    by_cases a1 : lw ≤ he - 1
    · have a2 : max (he - 1) lw = he - 1 := by omega
      have HN : Hid (R = he - 1) := by show _ = _; rw [eR]; simp [tkHe, a2]
      clear eR
      unfold vHoist
      go_enter Try.func68, Try.ntmps68
      go_wp2
      go_ret
      exact ⟨ret_hoi (unhide HN).symm, unhide HW⟩
    have a2 : max (he - 1) lw = lw := by omega
    have HN : Hid (R = lw) := by show _ = _; rw [eR]; simp [tkHe, a2]
    clear eR
    unfold vHoist
    go_enter Try.func68, Try.ntmps68
    go_wp2
    go_ret
    exact ⟨ret_hoi (unhide HN).symm, unhide HW⟩
  have b2 : (q == 2) = false := by simp [e2]
  have HN : Hid (R = he) := by show _ = _; rw [eR]; simp [tkHe, e1, e2]
  clear eR
  unfold vHoist
  go_enter Try.func68, Try.ntmps68
  go_wp2
  go_ret
  exact ⟨ret_hoi (unhide HN).symm, unhide HW⟩

end Go.Proofs.Ytgmhijbepkobkaa

/- Reports in numbers; contracts of the program's isSlot and of both ReportOk. Written by wip/mkfm.py. -/
import Derived.Test.YtkjikjeecjendaaWalkE
import Derived.Test.YtkjikjeecjendaaWalkF
import Derived.Test.YtkjikjeecjendaaRecs
import Derived.Test.YtkjikjeecjendaaRReport
namespace Go.Proofs.Ytkjikjeecjendaa
open Go.RowKit

/-- A right report, in numbers. -/
def repB (k i x y s n : Int) : Bool := inB k 1 9 && inB i 1 999999999 && inB x (-8388608) 8388607 && inB y (-8388608) 8388607 && inB s 0 19 && inB n 0 19

set_option maxHeartbeats 400000 in
theorem isSlot_any (x : Int) (w : World) : Calls Try.prog 56 #[.int .i64 x] w fun e w' => e = .returned (.bool (inB x 0 19)) ∧ w' = w := by
  go_enter Try.func56, Try.ntmps56
  go_wp2_with (go_at_call 55; refine (within_any _ _ _ _).mono ?_; rintro e w' ⟨rfl, h9⟩; have h8 := h9.symm; subst h8; clear h9)
  go_ret
  exact ⟨rfl, rfl⟩

set_option maxHeartbeats 3200000 in
theorem specReportOk_any (k i x y s n : Int) (w : World) :
    Calls Try.prog 16 #[vReport k i x y s n] w fun e w' => e = .returned (.bool (repB k i x y s n)) ∧ Below w.heap.size w w' := by
  have HW := hide (Below.alloc1 w (.cells #[.int .i64 k, .int .i64 i, .int .i64 x, .int .i64 y, .int .i64 s, .int .i64 n] 25))
  cases h1 : inB k 1 9
  · skip
    have HN : Hid (repB k i x y s n = false) := by show _ = _; unfold repB; rw [h1]; first | rfl | simp
    unfold vReport
    go_enter Try.func16, Try.ntmps16
    go_wp2_with (go_at_call 54; refine (l1In_any _ _ _ _).mono ?_; rintro e w' ⟨rfl, h9⟩; have h8 := h9.symm; subst h8; clear h9)
    go_ret
    exact ⟨ret_bool (unhide HN).symm, unhide HW⟩
  cases h2 : inB i 1 999999999
  · skip
    have HN : Hid (repB k i x y s n = false) := by show _ = _; unfold repB; rw [h1, h2]; first | rfl | simp
    unfold vReport
    go_enter Try.func16, Try.ntmps16
    go_wp2_with (go_at_call 54; refine (l1In_any _ _ _ _).mono ?_; rintro e w' ⟨rfl, h9⟩; have h8 := h9.symm; subst h8; clear h9)
    go_ret
    exact ⟨ret_bool (unhide HN).symm, unhide HW⟩
  cases h3 : inB x (-8388608) 8388607
  · skip
    have HN : Hid (repB k i x y s n = false) := by show _ = _; unfold repB; rw [h1, h2, h3]; first | rfl | simp
    unfold vReport
    go_enter Try.func16, Try.ntmps16
    go_wp2_with (go_at_call 54; refine (l1In_any _ _ _ _).mono ?_; rintro e w' ⟨rfl, h9⟩; have h8 := h9.symm; subst h8; clear h9)
    go_ret
    exact ⟨ret_bool (unhide HN).symm, unhide HW⟩
  cases h4 : inB y (-8388608) 8388607
  · skip
    have HN : Hid (repB k i x y s n = false) := by show _ = _; unfold repB; rw [h1, h2, h3, h4]; first | rfl | simp
    unfold vReport
    go_enter Try.func16, Try.ntmps16
    go_wp2_with (go_at_call 54; refine (l1In_any _ _ _ _).mono ?_; rintro e w' ⟨rfl, h9⟩; have h8 := h9.symm; subst h8; clear h9)
    go_ret
    exact ⟨ret_bool (unhide HN).symm, unhide HW⟩
  cases h5 : inB s 0 19
  · skip
    have HN : Hid (repB k i x y s n = false) := by show _ = _; unfold repB; rw [h1, h2, h3, h4, h5]; first | rfl | simp
    unfold vReport
    go_enter Try.func16, Try.ntmps16
    go_wp2_with (go_at_call 54; refine (l1In_any _ _ _ _).mono ?_; rintro e w' ⟨rfl, h9⟩; have h8 := h9.symm; subst h8; clear h9)
    go_ret
    exact ⟨ret_bool (unhide HN).symm, unhide HW⟩
  cases h6 : inB n 0 19
  · skip
    have HN : Hid (repB k i x y s n = false) := by show _ = _; unfold repB; rw [h1, h2, h3, h4, h5, h6]; first | rfl | simp
    unfold vReport
    go_enter Try.func16, Try.ntmps16
    go_wp2_with (go_at_call 54; refine (l1In_any _ _ _ _).mono ?_; rintro e w' ⟨rfl, h9⟩; have h8 := h9.symm; subst h8; clear h9)
    go_ret
    exact ⟨ret_bool (unhide HN).symm, unhide HW⟩
  have HN : Hid (repB k i x y s n = true) := by show _ = _; unfold repB; rw [h1, h2, h3, h4, h5, h6]; first | rfl | simp
  unfold vReport
  go_enter Try.func16, Try.ntmps16
  go_wp2_with (go_at_call 54; refine (l1In_any _ _ _ _).mono ?_; rintro e w' ⟨rfl, h9⟩; have h8 := h9.symm; subst h8; clear h9)
  go_ret
  exact ⟨ret_bool (unhide HN).symm, unhide HW⟩

set_option maxHeartbeats 3200000 in
theorem implReportOk_any (k i x y s n : Int) (w : World) :
    Calls Try.prog 17 #[vReport k i x y s n] w fun e w' => e = .returned (.bool (repB k i x y s n)) ∧ Below w.heap.size w w' := by
  have HW := hide (Below.alloc1 w (.cells #[.int .i64 k, .int .i64 i, .int .i64 x, .int .i64 y, .int .i64 s, .int .i64 n] 25))
  cases h1 : inB k 1 9
  · skip
    have HN : Hid (repB k i x y s n = false) := by show _ = _; unfold repB; rw [h1]; first | rfl | simp
    unfold vReport
    go_enter Try.func17, Try.ntmps17
    go_wp2_with (first | (go_at_call 55; refine (within_any _ _ _ _).mono ?_; rintro e w' ⟨rfl, h9⟩; have h8 := h9.symm; subst h8; clear h9) | (go_at_call 56; refine (isSlot_any _ _).mono ?_; rintro e w' ⟨rfl, h9⟩; have h8 := h9.symm; subst h8; clear h9))
    go_ret
    exact ⟨ret_bool (unhide HN).symm, unhide HW⟩
  cases h2 : inB i 1 999999999
  · skip
    have HN : Hid (repB k i x y s n = false) := by show _ = _; unfold repB; rw [h1, h2]; first | rfl | simp
    unfold vReport
    go_enter Try.func17, Try.ntmps17
    go_wp2_with (first | (go_at_call 55; refine (within_any _ _ _ _).mono ?_; rintro e w' ⟨rfl, h9⟩; have h8 := h9.symm; subst h8; clear h9) | (go_at_call 56; refine (isSlot_any _ _).mono ?_; rintro e w' ⟨rfl, h9⟩; have h8 := h9.symm; subst h8; clear h9))
    go_ret
    exact ⟨ret_bool (unhide HN).symm, unhide HW⟩
  cases h3 : inB x (-8388608) 8388607
  · skip
    have HN : Hid (repB k i x y s n = false) := by show _ = _; unfold repB; rw [h1, h2, h3]; first | rfl | simp
    unfold vReport
    go_enter Try.func17, Try.ntmps17
    go_wp2_with (first | (go_at_call 55; refine (within_any _ _ _ _).mono ?_; rintro e w' ⟨rfl, h9⟩; have h8 := h9.symm; subst h8; clear h9) | (go_at_call 56; refine (isSlot_any _ _).mono ?_; rintro e w' ⟨rfl, h9⟩; have h8 := h9.symm; subst h8; clear h9))
    go_ret
    exact ⟨ret_bool (unhide HN).symm, unhide HW⟩
  cases h4 : inB y (-8388608) 8388607
  · skip
    have HN : Hid (repB k i x y s n = false) := by show _ = _; unfold repB; rw [h1, h2, h3, h4]; first | rfl | simp
    unfold vReport
    go_enter Try.func17, Try.ntmps17
    go_wp2_with (first | (go_at_call 55; refine (within_any _ _ _ _).mono ?_; rintro e w' ⟨rfl, h9⟩; have h8 := h9.symm; subst h8; clear h9) | (go_at_call 56; refine (isSlot_any _ _).mono ?_; rintro e w' ⟨rfl, h9⟩; have h8 := h9.symm; subst h8; clear h9))
    go_ret
    exact ⟨ret_bool (unhide HN).symm, unhide HW⟩
  cases h5 : inB s 0 19
  · skip
    have HN : Hid (repB k i x y s n = false) := by show _ = _; unfold repB; rw [h1, h2, h3, h4, h5]; first | rfl | simp
    unfold vReport
    go_enter Try.func17, Try.ntmps17
    go_wp2_with (first | (go_at_call 55; refine (within_any _ _ _ _).mono ?_; rintro e w' ⟨rfl, h9⟩; have h8 := h9.symm; subst h8; clear h9) | (go_at_call 56; refine (isSlot_any _ _).mono ?_; rintro e w' ⟨rfl, h9⟩; have h8 := h9.symm; subst h8; clear h9))
    go_ret
    exact ⟨ret_bool (unhide HN).symm, unhide HW⟩
  cases h6 : inB n 0 19
  · skip
    have HN : Hid (repB k i x y s n = false) := by show _ = _; unfold repB; rw [h1, h2, h3, h4, h5, h6]; first | rfl | simp
    unfold vReport
    go_enter Try.func17, Try.ntmps17
    go_wp2_with (first | (go_at_call 55; refine (within_any _ _ _ _).mono ?_; rintro e w' ⟨rfl, h9⟩; have h8 := h9.symm; subst h8; clear h9) | (go_at_call 56; refine (isSlot_any _ _).mono ?_; rintro e w' ⟨rfl, h9⟩; have h8 := h9.symm; subst h8; clear h9))
    go_ret
    exact ⟨ret_bool (unhide HN).symm, unhide HW⟩
  have HN : Hid (repB k i x y s n = true) := by show _ = _; unfold repB; rw [h1, h2, h3, h4, h5, h6]; first | rfl | simp
  unfold vReport
  go_enter Try.func17, Try.ntmps17
  go_wp2_with (first | (go_at_call 55; refine (within_any _ _ _ _).mono ?_; rintro e w' ⟨rfl, h9⟩; have h8 := h9.symm; subst h8; clear h9) | (go_at_call 56; refine (isSlot_any _ _).mono ?_; rintro e w' ⟨rfl, h9⟩; have h8 := h9.symm; subst h8; clear h9))
  go_ret
  exact ⟨ret_bool (unhide HN).symm, unhide HW⟩


end Go.Proofs.Ytkjikjeecjendaa

/- Contracts of both CharterOk, and of isMinute. Written by wip/mkly.py. -/
import Derived.Test.YticminoejikdfaaLyM
import Derived.Test.YticminoejikdfaaLyW
import Derived.Test.YticminoejikdfaaEnA
namespace Go.Proofs.Yticminoejikdfaa
open Go.RowKit

theorem chB_eq (n a d s : Int) : chB n a d s = (inB n 0 100000 && inB a 0 100000 && inB d 0 1000000000 && inB s 0 1000000000) := by
  rw [Bool.eq_iff_iff, chB, decide_eq_true_iff]
  unfold chP
  simp only [inB, decide_eq_true_eq, Bool.and_eq_true]
  constructor
  · rintro ⟨⟨h1, h2⟩, ⟨h3, h4⟩, ⟨h5, h6⟩, h7, h8⟩
    exact ⟨⟨⟨⟨h1, h2⟩, h3, h4⟩, h5, h6⟩, h7, h8⟩
  · rintro ⟨⟨⟨⟨h1, h2⟩, h3, h4⟩, h5, h6⟩, h7, h8⟩
    exact ⟨⟨h1, h2⟩, ⟨h3, h4⟩, ⟨h5, h6⟩, h7, h8⟩
theorem chB_iff {n a d s : Int} : chB n a d s = true ↔ chP n a d s := by simp [chB]
theorem chB_not {n a d s : Int} (h : chB n a d s = false) : ¬ chP n a d s := by simpa [chB] using h
theorem isMinute_any (x : Int) (w : World) : Calls Try.prog 41 #[.int .i64 x] w fun e w' => e = .returned (.bool (inB x 0 100000000)) ∧ w' = w := by
  go_enter Try.func41, Try.ntmps41
  go_wp2_with (go_at_call 43; refine (within_any _ _ _ _).mono ?_; rintro e w' ⟨rfl, rfl⟩)
  go_ret
  exact ⟨rfl, rfl⟩

set_option maxHeartbeats 3200000 in
theorem specCharterOk_any (n a d s : Int) (w : World) :
    Calls Try.prog 21 #[vCh n a d s] w fun e w' => e = .returned (.bool (chB n a d s)) ∧ Below w.heap.size w w' := by
  have HW := hide (Below.alloc1 w (.cells #[.int .i64 n, .int .i64 a, .int .i64 d, .int .i64 s] 25))
  unfold vCh
  cases h0 : inB n 0 100000
  · skip
    have HN : Hid (chB n a d s = false) := by show _ = _; rw [chB_eq, h0]; rfl
    go_enter Try.func21, Try.ntmps21
    go_wp2_with (go_at_call 51; refine (l1In_any _ _ _ _).mono ?_; rintro e w9 ⟨rfl, h9⟩; have h8 := h9.symm; subst h8; clear h9)
    go_ret
    exact ⟨ret_bool (unhide HN).symm, unhide HW⟩
  cases h1 : inB a 0 100000
  · skip
    have HN : Hid (chB n a d s = false) := by show _ = _; rw [chB_eq, h0, h1]; rfl
    go_enter Try.func21, Try.ntmps21
    go_wp2_with (go_at_call 51; refine (l1In_any _ _ _ _).mono ?_; rintro e w9 ⟨rfl, h9⟩; have h8 := h9.symm; subst h8; clear h9)
    go_ret
    exact ⟨ret_bool (unhide HN).symm, unhide HW⟩
  cases h2 : inB d 0 1000000000
  · skip
    have HN : Hid (chB n a d s = false) := by show _ = _; rw [chB_eq, h0, h1, h2]; rfl
    go_enter Try.func21, Try.ntmps21
    go_wp2_with (go_at_call 51; refine (l1In_any _ _ _ _).mono ?_; rintro e w9 ⟨rfl, h9⟩; have h8 := h9.symm; subst h8; clear h9)
    go_ret
    exact ⟨ret_bool (unhide HN).symm, unhide HW⟩
  cases h3 : inB s 0 1000000000
  · skip
    have HN : Hid (chB n a d s = false) := by show _ = _; rw [chB_eq, h0, h1, h2, h3]; rfl
    go_enter Try.func21, Try.ntmps21
    go_wp2_with (go_at_call 51; refine (l1In_any _ _ _ _).mono ?_; rintro e w9 ⟨rfl, h9⟩; have h8 := h9.symm; subst h8; clear h9)
    go_ret
    exact ⟨ret_bool (unhide HN).symm, unhide HW⟩
  have HN : Hid (chB n a d s = true) := by show _ = _; rw [chB_eq, h0, h1, h2, h3]; rfl
  go_enter Try.func21, Try.ntmps21
  go_wp2_with (go_at_call 51; refine (l1In_any _ _ _ _).mono ?_; rintro e w9 ⟨rfl, h9⟩; have h8 := h9.symm; subst h8; clear h9)
  go_ret
  exact ⟨ret_bool (unhide HN).symm, unhide HW⟩

set_option maxHeartbeats 3200000 in
theorem implCharterOk_any (n a d s : Int) (w : World) :
    Calls Try.prog 15 #[vCh n a d s] w fun e w' => e = .returned (.bool (chB n a d s)) ∧ Below w.heap.size w w' := by
  have HW := hide (Below.alloc1 w (.cells #[.int .i64 n, .int .i64 a, .int .i64 d, .int .i64 s] 25))
  unfold vCh
  cases h0 : inB n 0 100000
  · skip
    have HN : Hid (chB n a d s = false) := by show _ = _; rw [chB_eq, h0]; rfl
    go_enter Try.func15, Try.ntmps15
    go_wp2_with (go_at_call 43; refine (within_any _ _ _ _).mono ?_; rintro e w9 ⟨rfl, h9⟩; have h8 := h9.symm; subst h8; clear h9)
    go_ret
    exact ⟨ret_bool (unhide HN).symm, unhide HW⟩
  cases h1 : inB a 0 100000
  · skip
    have HN : Hid (chB n a d s = false) := by show _ = _; rw [chB_eq, h0, h1]; rfl
    go_enter Try.func15, Try.ntmps15
    go_wp2_with (go_at_call 43; refine (within_any _ _ _ _).mono ?_; rintro e w9 ⟨rfl, h9⟩; have h8 := h9.symm; subst h8; clear h9)
    go_ret
    exact ⟨ret_bool (unhide HN).symm, unhide HW⟩
  cases h2 : inB d 0 1000000000
  · skip
    have HN : Hid (chB n a d s = false) := by show _ = _; rw [chB_eq, h0, h1, h2]; rfl
    go_enter Try.func15, Try.ntmps15
    go_wp2_with (go_at_call 43; refine (within_any _ _ _ _).mono ?_; rintro e w9 ⟨rfl, h9⟩; have h8 := h9.symm; subst h8; clear h9)
    go_ret
    exact ⟨ret_bool (unhide HN).symm, unhide HW⟩
  cases h3 : inB s 0 1000000000
  · skip
    have HN : Hid (chB n a d s = false) := by show _ = _; rw [chB_eq, h0, h1, h2, h3]; rfl
    go_enter Try.func15, Try.ntmps15
    go_wp2_with (go_at_call 43; refine (within_any _ _ _ _).mono ?_; rintro e w9 ⟨rfl, h9⟩; have h8 := h9.symm; subst h8; clear h9)
    go_ret
    exact ⟨ret_bool (unhide HN).symm, unhide HW⟩
  have HN : Hid (chB n a d s = true) := by show _ = _; rw [chB_eq, h0, h1, h2, h3]; rfl
  go_enter Try.func15, Try.ntmps15
  go_wp2_with (go_at_call 43; refine (within_any _ _ _ _).mono ?_; rintro e w9 ⟨rfl, h9⟩; have h8 := h9.symm; subst h8; clear h9)
  go_ret
  exact ⟨ret_bool (unhide HN).symm, unhide HW⟩


end Go.Proofs.Yticminoejikdfaa

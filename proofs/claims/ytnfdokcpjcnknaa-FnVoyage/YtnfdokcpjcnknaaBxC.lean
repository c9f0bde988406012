/- Boxes: both BoxName. Written by wip/mkbxb.py. -/
import Derived.Test.YtnfdokcpjcnknaaBxB
import Derived.Laws.Strings3
namespace Go.Proofs.Ytnfdokcpjcnknaa
open Go.RowKit

set_option maxHeartbeats 1600000 in
theorem implBoxName_any (t : ByteArray) (w : World) :
    Calls Try.prog 66 #[.string t] w fun e w' => e = .returned (.bool (bnB t)) ∧ Below w.heap.size w w' := by
  by_cases h11 : t.size = 11
  · have hsl : ∀ V, (Instr.slice 9 (.string t) none (some (.int .i64 10)) none).run Try.prog V = .ok (.string (t.extract 0 10)) V := fun V => by
      rw [run_slice_string_to_if _ _ _ _ _ Try.underlying9, if_pos (by omega)]
      rfl
    have hix : ∀ V, (Instr.index 9 (.string t) (.int .i64 10)).run Try.prog V = .ok (.int .u8 (byt t 10)) V := fun V => by
      rw [run_index_string V _ _ _ _ Try.underlying9, dif_pos (by omega), ← byt_eq t 10 (by omega)]
      rfl
    have hbb := byt_bd t 10
    have EB : Hid (bnB t = decide (0 ≤ cd (t.extract 0 10) ∧ byt t 10 = 48 + cd (t.extract 0 10))) := by show _ = _; unfold bnB; simp [h11]
    have hd := cd_bd (t.extract 0 10)
    have HC := hide fun V => implCheckDigit_any (t.extract 0 10) V
    have hlen : (t.size : Int) = 11 := by omega
    have d1 : ((t.size : Int) != 11) = false := by simp; omega
    have d2 : (t.size != 11) = false := by simp; omega
    clear h11
    generalize byt t 10 = b at *
    obtain ⟨hb0, hb1⟩ := hbb
    obtain ⟨hd0, hd1⟩ := hd
    obtain ⟨x, ex⟩ : ∃ x, x = t.extract 0 10 := ⟨_, rfl⟩
    rw [← ex] at hsl EB hd0 hd1 HC
    generalize cd x = d at *
    clear ex
    go_enter Try.func66, Try.ntmps66
    go_wp2_with fail
    refine (unhide HC _).mono ?_
    rintro e w1 ⟨rfl, hb⟩
    have HW := hide hb
    clear hb
    clear hsl HC
    by_cases h0 : 0 ≤ d
    · have d3 : decide (0 ≤ d) = true := by simp; omega
      have q1 : IntKind.i64.wrap (48 + d) = 48 + d := by rw [IntKind.wrap_i64]; omega
      go_wp2
      go_ret
      refine ⟨?_, unhide HW⟩
      rw [unhide EB]
      by_cases e : b = 48 + d <;> simp [e, h0]
    · have d3 : decide (0 ≤ d) = false := by simp; omega
      go_wp2
      go_ret
      exact ⟨by rw [unhide EB]; simp; omega, unhide HW⟩
  · have E1 := hide (bn_len h11)
    have d1 : ((t.size : Int) != 11) = true := by simp; omega
    have d2 : (t.size != 11) = true := by simp; omega
    go_enter Try.func66, Try.ntmps66
    go_wp2
    go_ret
    exact ⟨by rw [unhide E1]; rfl, Below.refl _ _⟩

set_option maxHeartbeats 1600000 in
theorem specBoxName_any (t : ByteArray) (w : World) :
    Calls Try.prog 60 #[.string t] w fun e w' => e = .returned (.bool (bnB t)) ∧ w' = w := by
  by_cases h11 : t.size = 11
  · have hsl : ∀ V, (Instr.slice 9 (.string t) none (some (.int .i64 10)) none).run Try.prog V = .ok (.string (t.extract 0 10)) V := fun V => by
      rw [run_slice_string_to_if _ _ _ _ _ Try.underlying9, if_pos (by omega)]
      rfl
    have hix : ∀ V, (Instr.index 9 (.string t) (.int .i64 10)).run Try.prog V = .ok (.int .u8 (byt t 10)) V := fun V => by
      rw [run_index_string V _ _ _ _ Try.underlying9, dif_pos (by omega), ← byt_eq t 10 (by omega)]
      rfl
    have hbb := byt_bd t 10
    have EB : Hid (bnB t = decide (0 ≤ cd (t.extract 0 10) ∧ byt t 10 = 48 + cd (t.extract 0 10))) := by show _ = _; unfold bnB; simp [h11]
    have hd := cd_bd (t.extract 0 10)
    have HC := hide fun V => specCheckDigit_any (t.extract 0 10) V
    have hlen : (t.size : Int) = 11 := by omega
    have d1 : ((t.size : Int) != 11) = false := by simp; omega
    have d2 : (t.size != 11) = false := by simp; omega
    clear h11
    generalize byt t 10 = b at *
    obtain ⟨hb0, hb1⟩ := hbb
    obtain ⟨hd0, hd1⟩ := hd
    obtain ⟨x, ex⟩ : ∃ x, x = t.extract 0 10 := ⟨_, rfl⟩
    rw [← ex] at hsl EB hd0 hd1 HC
    generalize cd x = d at *
    clear ex
    go_enter Try.func60, Try.ntmps60
    go_wp2_with fail
    refine (unhide HC _).mono ?_
    rintro e w1 ⟨rfl, rfl⟩
    clear hsl HC
    by_cases h0 : 0 ≤ d
    · have d3 : decide (0 ≤ d) = true := by simp; omega
      have q1 : IntKind.i64.wrap (48 + d) = 48 + d := by rw [IntKind.wrap_i64]; omega
      go_wp2
      go_ret
      refine ⟨?_, rfl⟩
      rw [unhide EB]
      by_cases e : b = 48 + d <;> simp [e, h0]
    · have d3 : decide (0 ≤ d) = false := by simp; omega
      go_wp2
      go_ret
      exact ⟨by rw [unhide EB]; simp; omega, rfl⟩
  · have E1 := hide (bn_len h11)
    have d1 : ((t.size : Int) != 11) = true := by simp; omega
    have d2 : (t.size != 11) = true := by simp; omega
    go_enter Try.func60, Try.ntmps60
    go_wp2
    go_ret
    exact ⟨by rw [unhide E1]; rfl, rfl⟩

end Go.Proofs.Ytnfdokcpjcnknaa

/- When masses are right, and the contracts of the program's and the specification's MassesOk. -/
import Derived.Test.YticcjdcglfiggaaRMass
namespace Go.Proofs.Yticcjdcglfiggaa
open Go.RowKit

def massB (m : I3) : Bool := inB m.1 0 10000 && inB m.2.1 (-1200) 2400 && inB m.2.2 0 1000
def massesB (L : List I3) : Bool := decide (L.length ≤ 40) && L.all massB

set_option maxHeartbeats 400000 in
theorem massOk_any (x y z : Int) (w : World) :
    Calls Try.prog 108 #[v3 (x, y, z)] w fun e w' => e = .returned (.bool (massB (x, y, z))) ∧ Below w.heap.size w w' := by
  unfold v3
  have HF : Hid (massB (x, y, z) = (inB x 0 10000 && inB y (-1200) 2400 && inB z 0 1000)) := hide rfl
  cases h1 : inB x 0 10000 <;> cases h2 : inB y (-1200) 2400 <;> cases h3 : inB z 0 1000
  all_goals
    rw [h1, h2, h3] at HF
    go_enter Try.func108, Try.ntmps108
    go_wp2_with (go_at_call 53; refine (within_any _ _ _ _).mono ?_; rintro e w' ⟨rfl, rfl⟩)
    go_ret
    exact ⟨ret_bool (unhide HF).symm, (Below.refl _ _).alloc (Nat.le_refl _) _⟩

theorem massesB_long {L : List I3} (h : ¬ L.length ≤ 40) : massesB L = false := by simp [massesB, h]

set_option maxHeartbeats 400000 in
theorem implMassesOk_any (v : Value) (L : List I3) (w : World) (h : R3 w v L) :
    Calls Try.prog 94 #[v] w fun e w' => e = .returned (.bool (massesB L)) ∧ Below w.heap.size w w' := by
  obtain ⟨ao, cap, rfl, hl, hm, hc⟩ := h
  unfold maxLen at hm
  have HC := hide hc
  clear hc
  by_cases hlen : L.length ≤ 40
  case neg =>
    have HF := hide (massesB_long hlen)
    go_enter Try.func94, Try.ntmps94
    go_wp2
    go_ret
    exact ⟨ret_bool (unhide HF).symm, Below.refl _ _⟩
  go_enter Try.func94, Try.ntmps94
  go_wp2
  go_loopg [10] L.length (fun g i wr => Below w.heap.size w wr ∧ ∃ k : Nat, k ≤ L.length ∧ g = L.length - k ∧ i = .int .i64 k ∧ Hid (∀ r, r < k → massB (L.getD r default) = true))
  case atStart => exact ⟨Below.refl _ _, 0, Nat.zero_le _, rfl, rfl, fun r hr => by omega⟩
  case round =>
    obtain ⟨hW, k, hk, rfl, rfl, HD⟩ := hrel
    by_cases hkn : k < L.length
    · obtain ⟨b, o, x, y, z, rfl, hc0, hc1, hc2, EX⟩ := rec3At (unhide HC) hkn
      have g0 := wcell3 hc0 hW
      have g1 := wcell3 hc1 hW
      have g2 := wcell3 hc2 hW
      have HW := hide hW
      clear hc0 hc1 hc2 hW
      go_wp2_with fail
      refine (massOk_any x y z _).mono ?_
      rintro e w1 ⟨rfl, hb⟩
      have HW1 := hide (Below.step (Below.step (unhide HW) (Below.alloc1 _ _)) hb)
      clear hb HW g0 g1 g2
      cases hin : massB (x, y, z) with
      | true =>
        have HD' : Hid (∀ r, r < k + 1 → massB (L.getD r default) = true) := fun r hr => by
          by_cases e : r = k
          · subst e; rw [unhide EX]; exact hin
          · exact HD.out r (by omega)
        clear hin EX HD
        go_wp2
        go_roundg (L.length - (k + 1))
        case measure => omega
        case rel => exact ⟨unhide HW1, k + 1, by omega, rfl, by go_num, HD'⟩
      | false =>
        have HF : Hid (massesB L = false) := by
          show _ = _
          rw [massesB, all_false hkn (d := default) (by rw [unhide EX]; exact hin)]; simp
        clear hin EX HD
        go_wp2
        go_ret
        exact ⟨ret_bool (unhide HF).symm, unhide HW1⟩
    · have HF : Hid (massesB L = true) := by
        show _ = _
        rw [massesB, all_true (d := default) (fun r hr => HD.out r (by omega))]; simp [hlen]
      clear HD
      go_wp2
      go_ret
      exact ⟨ret_bool (unhide HF).symm, hW⟩

set_option maxHeartbeats 800000 in
theorem specMassesOk_any (v : Value) (L : List I3) (w : World) (h : R3 w v L) :
    Calls Try.prog 102 #[v] w fun e w' => e = .returned (.bool (massesB L)) ∧ Below w.heap.size w w' := by
  obtain ⟨ao, cap, rfl, hl, hm, hc⟩ := h
  unfold maxLen at hm
  have HC := hide hc
  clear hc
  go_enter Try.func102, Try.ntmps102
  go_wp2
  go_loopg [3] L.length (fun g i wr => Below w.heap.size w wr ∧ ∃ k : Nat, k ≤ L.length ∧ g = L.length - k ∧ i = .int .i64 k ∧ Hid (∀ r, r < k → massB (L.getD r default) = true))
  case atStart => exact ⟨Below.refl _ _, 0, Nat.zero_le _, rfl, rfl, fun r hr => by omega⟩
  case round =>
    obtain ⟨hW, k, hk, rfl, rfl, HD⟩ := hrel
    by_cases hkn : k < L.length
    · obtain ⟨b, o, x, y, z, rfl, hc0, hc1, hc2, EX⟩ := rec3At (unhide HC) hkn
      have g0 := wcell3 hc0 hW
      have g1 := wcell3 hc1 hW
      have g2 := wcell3 hc2 hW
      have HW := hide (Below.step hW (Below.alloc1 wr (.cells #[.int .i64 x, .int .i64 y, .int .i64 z] 41)))
      clear hc0 hc1 hc2 hW
      have HF : Hid (massB (L.getD k default) = (inB x 0 10000 && inB y (-1200) 2400 && inB z 0 1000)) := by show _ = _; rw [unhide EX]; rfl
      clear EX
      by_cases hall : massB (L.getD k default) = true
      · have HD' : Hid (∀ r, r < k + 1 → massB (L.getD r default) = true) := fun r hr => by
          by_cases e : r = k
          · subst e; exact hall
          · exact HD.out r (by omega)
        rw [hall] at HF
        have h3 := unhide HF
        symm at h3
        simp only [Bool.and_eq_true] at h3
        obtain ⟨⟨h1, h2⟩, h3⟩ := h3
        clear HD HF hall
        go_wp2_with (go_at_call 77; refine (l1In_any _ _ _ _).mono ?_; rintro e w' ⟨rfl, rfl⟩)
        go_roundg (L.length - (k + 1))
        case measure => omega
        case rel => exact ⟨unhide HW, k + 1, by omega, rfl, by go_num, HD'⟩
      · have HA : Hid (massesB L = false) := by
          show _ = _
          rw [massesB, all_false hkn (d := default) (by simpa using hall)]; simp
        rw [show massB (L.getD k default) = false by simpa using hall] at HF
        clear HD hall
        cases h1 : inB x 0 10000 <;> cases h2 : inB y (-1200) 2400 <;> cases h3 : inB z 0 1000
        all_goals rw [h1, h2, h3] at HF
        case true.true.true => exact absurd (unhide HF) (by simp)
        all_goals
          clear HF
          go_wp2_with (go_at_call 77; refine (l1In_any _ _ _ _).mono ?_; rintro e w' ⟨rfl, rfl⟩)
          go_ret
          exact ⟨ret_bool (unhide HA).symm, unhide HW⟩
    · have HF : Hid (massesB L = decide ((L.length : Int) ≤ 40)) := by
        show _ = _
        rw [massesB, all_true (d := default) (fun r hr => HD.out r (by omega))]
        simp only [Bool.and_true, decide_eq_decide]
        omega
      clear HD
      go_wp2
      go_ret
      exact ⟨ret_bool (unhide HF).symm, hW⟩

end Go.Proofs.Yticcjdcglfiggaa

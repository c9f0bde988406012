/- The contract of the specification's HullOk: it tells hullOk. -/
import Derived.Test.YticcjdcglfiggaaWalkD
namespace Go.Proofs.Yticcjdcglfiggaa
open Go.RowKit

theorem hullOk_mk {step rise : Int} {R : List (List Int)} (h1 : inB step 1 100 = true) (h2 : inB rise 1 20 = true) (h3 : inB R.length 2 12 = true) (h : ∀ r, r < R.length → rowOk (R.getD 0 []).length (R.getD r []) = true) : hullOk step rise R = true := by
  unfold hullOk
  rw [h1, h2, h3, all_true (d := []) h]
  rfl

set_option maxHeartbeats 1600000 in
theorem specHullOk_any (step rise : Int) (v : Value) (R : List (List Int)) (w : World) (h : RowsIn w v R) :
    Calls Try.prog 71 #[hullV step rise v] w fun e w' => e = .returned (.bool (hullOk step rise R)) ∧ Below w.heap.size w w' := by
  obtain ⟨ao, cap, rfl, hl, hm, hc⟩ := h
  unfold maxLen at hm
  have HC := hide hc
  clear hc
  unfold hullV
  cases h1 : inB step 1 100 with
  | false =>
    have HF : Hid (hullOk step rise R = false) := by show _ = _; simp [hullOk, h1]
    go_enter Try.func71, Try.ntmps71
    go_wp2_with (go_at_call 77; refine (l1In_any _ _ _ _).mono ?_; rintro e w' ⟨rfl, rfl⟩)
    go_ret
    exact ⟨ret_bool (unhide HF).symm, (Below.refl _ _).alloc (Nat.le_refl _) _⟩
  | true =>
  cases h2 : inB rise 1 20 with
  | false =>
    have HF : Hid (hullOk step rise R = false) := by show _ = _; simp [hullOk, h2]
    go_enter Try.func71, Try.ntmps71
    go_wp2_with (go_at_call 77; refine (l1In_any _ _ _ _).mono ?_; rintro e w' ⟨rfl, rfl⟩)
    go_ret
    exact ⟨ret_bool (unhide HF).symm, (Below.refl _ _).alloc (Nat.le_refl _) _⟩
  | true =>
  cases h3 : inB R.length 2 12 with
  | false =>
    have HF : Hid (hullOk step rise R = false) := by show _ = _; simp [hullOk, h3]
    go_enter Try.func71, Try.ntmps71
    go_wp2_with (go_at_call 77; refine (l1In_any _ _ _ _).mono ?_; rintro e w' ⟨rfl, rfl⟩)
    go_ret
    exact ⟨ret_bool (unhide HF).symm, (Below.refl _ _).alloc (Nat.le_refl _) _⟩
  | true =>
  have h3' := inB_true h3
  have hpos : 0 < R.length := by omega
  obtain ⟨b, o, ar, m, cr, rfl, hcell0, hrow0, EM, hm0⟩ := rowAt (unhide HC) hpos
  simp only [Nat.add_zero] at hcell0
  have HC0 := hide hcell0
  clear hrow0 hcell0
  have BX := hide (Below.refl (w.heap.size + 1) (w.alloc (.cells #[.int .i64 step, .int .i64 rise, .slice (some ⟨b, o, none⟩) R.length cap] 26)))
  go_enter Try.func71, Try.ntmps71
  go_wp2_with (go_at_call 77; refine (l1In_any _ _ _ _).mono ?_; rintro e w' ⟨rfl, rfl⟩)
  go_loopg [3] R.length (fun g i wr => ∃ k : Nat, k ≤ R.length ∧ g = R.length - k ∧ i = .int .i64 k ∧ Below (w.heap.size + 1) (w.alloc (.cells #[.int .i64 step, .int .i64 rise, .slice (some ⟨b, o, none⟩) R.length cap] 26)) wr ∧ Hid (∀ r, r < k → rowOk m (R.getD r []) = true))
  case atStart => exact ⟨0, Nat.zero_le _, rfl, rfl, unhide BX, fun r hr => by omega⟩
  case round =>
    obtain ⟨k, hk, rfl, rfl, hB, HD⟩ := hrel
    obtain ⟨wo, ewo⟩ : ∃ wo : World, wo = wr := ⟨_, rfl⟩
    subst ewo
    have hwr : Below w.heap.size w wo := ((Below.refl _ _).alloc (Nat.le_refl _) _).trans (hB.mono (by omega))
    clear BX
    by_cases hkn : k < R.length
    · obtain ⟨b', o', ar', m', cr', eb, hcell, hrow, EM', hm0'⟩ := rowAt (unhide HC) hkn
      simp only [Option.some.injEq, Addr.mk.injEq, and_true] at eb
      obtain ⟨rfl, rfl⟩ := eb
      have c2 : wo.cell? ⟨w.heap.size, 2, none⟩ = some (.slice (some ⟨b, o, none⟩) R.length cap) := by rw [hB.cell (by simp)]; simp
      have c3 : wo.cell? ⟨b, o + k, none⟩ = some (.slice ar' m' cr') := (hwr.cell (lt_of_cell hcell)).trans hcell
      have c4 : wo.cell? ⟨b, o, none⟩ = some (.slice ar m cr) := (hwr.cell (lt_of_cell (unhide HC0))).trans (unhide HC0)
      have hsz := hB.size
      simp only [World.size_alloc] at hsz
      have HB := hide hB
      have HW := hide hwr
      have HRW := hide (hrow.below hwr)
      clear hB hwr hcell hrow
      by_cases e : m' = m
      · subst e
        cases h4 : inB m' 2 10 with
        | true =>
          go_wp2
          go_quiet ((go_at_call 77; exact Calls.quiet_of_same (l1In_any _ _ _ _)))
          go_wp2
          have H4 := hide h4
          clear h4
          go_loopg [4] m' (fun g jv wr => wr = wo.drewN nq ∧ ∃ j : Nat, j ≤ m' ∧ g = m' - j ∧ jv = .int .i64 j ∧ Hid (∀ t, t < j → inB ((R.getD k []).getD t 0) 0 50 = true))
          case atStart => exact ⟨rfl, 0, Nat.zero_le _, rfl, rfl, fun r hr => by omega⟩
          case round =>
            obtain ⟨rfl, j, hj, rfl, rfl, HJ⟩ := hrel
            by_cases hjm : j < m'
            · obtain ⟨b2, o2, rfl, hx⟩ := intAt (unhide HRW) hjm
              cases hin : inB ((R.getD k []).getD j 0) 0 50 with
              | true =>
                have HJ' : Hid (∀ t, t < j + 1 → inB ((R.getD k []).getD t 0) 0 50 = true) := fun t ht => by
                  by_cases e : t = j
                  · subst e; exact hin
                  · exact HJ.out t (by omega)
                clear HJ
                generalize (R.getD k []).getD j 0 = x at *
                go_wp2_with (go_at_call 77; refine (l1In_any _ _ _ _).mono ?_; rintro e w' ⟨rfl, rfl⟩)
                go_roundg (m' - (j + 1))
                case measure => omega
                case rel => exact ⟨rfl, j + 1, by omega, rfl, by go_num, HJ'⟩
              | false =>
                have HF := hide (hullOk_row (step := step) (rise := rise) hkn (rowOk_all (all_false (p := fun x => inB x 0 50) (by rw [unhide EM']; exact hjm) hin)))
                generalize (R.getD k []).getD j 0 = x at *
                go_wp2_with (go_at_call 77; refine (l1In_any _ _ _ _).mono ?_; rintro e w' ⟨rfl, rfl⟩)
                go_ret
                exact ⟨ret_bool (unhide HF).symm, below_drewN (unhide HW) _⟩
            · have HD' : Hid (∀ r, r < k + 1 → rowOk m' (R.getD r []) = true) := fun r hr => by
                by_cases e : r = k
                · subst e; exact rowOk_mk (unhide EM') (unhide H4) (all_true (d := 0) (fun t ht => HJ.out t (by rw [unhide EM'] at ht; omega)))
                · exact HD.out r (by omega)
              clear HD HJ
              go_wp2
              go_roundg (R.length - (k + 1))
              case measure => omega
              case rel => exact ⟨k + 1, by omega, rfl, by go_num, (unhide HB).trans ⟨rfl, rfl, rfl, Nat.le_refl _, fun _ _ => rfl⟩, HD'⟩
        | false =>
          have HF := hide (hullOk_row (step := step) (rise := rise) hkn (rowOk_in (by rw [unhide EM']; exact h4)))
          go_wp2
          go_quiet ((go_at_call 77; exact Calls.quiet_of_same (l1In_any _ _ _ _)))
          go_wp2
          go_ret
          exact ⟨ret_bool (unhide HF).symm, below_drewN (unhide HW) _⟩
      · have hne : ((m' : Int) != (m : Int)) = true := by rw [bne_iff_ne]; omega
        have HF := hide (hullOk_row (step := step) (rise := rise) hkn (rowOk_len (by rw [unhide EM, unhide EM']; exact e)))
        go_wp2
        go_quiet ((go_at_call 77; exact Calls.quiet_of_same (l1In_any _ _ _ _)))
        go_wp2
        go_ret
        exact ⟨ret_bool (unhide HF).symm, below_drewN (unhide HW) _⟩
    · have HF := hide (hullOk_mk h1 h2 h3 (fun r hr => by rw [unhide EM]; exact HD.out r (by omega)))
      have c2 : wo.cell? ⟨w.heap.size, 2, none⟩ = some (.slice (some ⟨b, o, none⟩) R.length cap) := by rw [hB.cell (by simp)]; simp
      have HW := hide hwr
      clear hwr hB
      go_wp2
      go_ret
      exact ⟨ret_bool (unhide HF).symm, unhide HW⟩

end Go.Proofs.Yticcjdcglfiggaa

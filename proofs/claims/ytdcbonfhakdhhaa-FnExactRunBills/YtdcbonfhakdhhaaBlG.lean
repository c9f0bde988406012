/- Bills: the contract of the program's BookOk. -/
import Derived.Test.YtdcbonfhakdhhaaBlF
import Derived.Test.YtdcbonfhakdhhaaBlD
namespace Go.Proofs.Ytdcbonfhakdhhaa
open Go.RowKit

theorem book_len {b : BkT} (h : ¬ b.1.length ≤ 30) : bookB b = false := by simp [bookB, h]
theorem book_ok {b : BkT} (h : b.1.length ≤ 30) (h1 : ∀ r, r < b.1.length → rowB1 b.1 r = true) : bookB b = frB b.1 b.2 := by
  have e1 : upwB b.1 = true := range_all h1
  simp [bookB, e1, h]

set_option maxRecDepth 100000 in
set_option maxHeartbeats 6400000 in
theorem implBookOk_any (bv fv : Value) (b : BkT) (w : World) (h : BkIn w bv fv b) :
    Calls Try.prog 10 #[vBook bv fv] w fun e w' => e = .returned (.bool (bookB b)) ∧ Below w.heap.size w w' := by
  obtain ⟨L, F⟩ := b
  have HBK := hide h
  obtain ⟨h, hF⟩ := h
  have h' := h
  obtain ⟨ao, cap, rfl, hl, hm, -⟩ := h'
  obtain ⟨fo, fcap, rfl, -⟩ := hF
  dsimp only at h hl ⊢
  unfold maxLen at hm
  have A := Below.alloc1 w (.cells #[.slice ao L.length cap, .slice fo F.length fcap] 27)
  have HO := hide (ownV_alloc w #[.slice ao L.length cap, .slice fo F.length fcap] 27)
  have HC := hide h
  have HW0 := hide A
  have HRW := hide fun k hk h => book_row (b := (L, F)) (k := k) hk h
  have HLN := hide fun h => book_len (b := (L, F)) h
  have HOK := hide fun h h1 => book_ok (b := (L, F)) h h1
  have HQ := hide fun xi sh od mn na m nc H V hN => billOk_any xi sh od mn na m nc H V hN
  clear h A
  unfold vBook
  generalize bookB (L, F) = Z at *
  dsimp only at HRW HLN HOK
  by_cases h30 : L.length ≤ 30
  · have hL30 : (L.length : Int) ≤ 30 := by omega
    have d30 : decide (30 < (L.length : Int)) = false := by rw [decide_eq_false_iff_not]; omega
    clear HLN
    go_enter Try.func10, Try.ntmps10
    go_wp2
    obtain ⟨V, eV⟩ : ∃ V, V = w.alloc (.cells #[.slice ao L.length cap, .slice fo F.length fcap] 27) := ⟨_, rfl⟩
    rw [← eV] at HO HW0 ⊢
    clear eV
    obtain ⟨gb, egb⟩ : ∃ g, g = w.heap.size := ⟨_, rfl⟩
    rw [← egb] at HO ⊢
    clear egb
    go_loopg [12] L.length (fun g iv wr => ∃ k : Nat, k ≤ L.length ∧ g = L.length - k ∧ iv = .int .i64 k ∧ Hid (Below w.heap.size w wr) ∧ Hid (OwnV wr gb [.slice ao L.length cap, .slice fo F.length fcap]) ∧ Hid (∀ r, r < k → rowB1 L r = true))
    case atStart => exact ⟨0, Nat.zero_le _, rfl, rfl, HW0, HO, fun r hr => by omega⟩
    case round =>
      clear HO HW0
      obtain ⟨k, hk, rfl, rfl, HW, HO, HD⟩ := hrel
      by_cases hkn : k < L.length
      · obtain ⟨bb, o, na, nc, xi, sh, od, mn, H, m, rfl, hc0, hc1, hc2, hc3, hc4, hr, EX, EM, hm0⟩ := (unhide HC).at hkn
        have hki : (k : Int) < L.length := by omega
        have g0 := wcell3 hc0 (unhide HW)
        have g1 := wcell3 hc1 (unhide HW)
        have g2 := wcell3 hc2 (unhide HW)
        have g3 := wcell3 hc3 (unhide HW)
        have g4 := wcell3 hc4 (unhide HW)
        have AL := Below.alloc1 wr (.cells #[.int .i64 xi, .string sh, .string od, .int .i64 mn, .slice na m nc] 40)
        have HWA := hide (Below.step (unhide HW) AL)
        have HOA := hide ((unhide HO).step AL)
        have HX := hide (ownV_alloc wr #[.int .i64 xi, .string sh, .string od, .int .i64 mn, .slice na m nc] 40)
        have HR := hide hr
        have HRK := hide (unhide HRW k hkn)
        have ERW : Hid (rowB1 L k = (billB (xi, sh, od, mn, H) && (decide (k = 0) || decide (bId L (k - 1) < xi)))) := by
          show _ = _
          unfold rowB1
          rw [show bId L k = xi by unfold bId; rw [unhide EX], unhide EX]
        have HDN : Hid (rowB1 L k = true → ∀ r, r < k + 1 → rowB1 L r = true) := fun h r hr => by
          by_cases e : r = k
          · rw [e]; exact h
          · exact unhide HD r (by omega)
        clear hc0 hc1 hc2 hc3 hc4 hr AL HW HO HD
        go_wp2_with fail
        obtain ⟨V1, eV⟩ : ∃ z, z = wr.alloc (.cells #[.int .i64 xi, .string sh, .string od, .int .i64 mn, .slice na m nc] 40) := ⟨_, rfl⟩
        rw [← eV] at HWA HOA HX ⊢
        clear eV g0 g1 g2 g3 g4
        obtain ⟨gx, egx⟩ : ∃ g, g = wr.heap.size := ⟨_, rfl⟩
        rw [← egx] at HX ⊢
        clear egx
        have r0 := fun x' : Gr V1 => gr_cell ((unhide HOA).cell (i := 0) rfl) x'
        have d0 := fun x' : Gr V1 => gr_cell ((unhide HX).cell (i := 0) rfl) x'
        have d1 := fun x' : Gr V1 => gr_cell ((unhide HX).cell (i := 1) rfl) x'
        have d2 := fun x' : Gr V1 => gr_cell ((unhide HX).cell (i := 2) rfl) x'
        have d3 := fun x' : Gr V1 => gr_cell ((unhide HX).cell (i := 3) rfl) x'
        have d4 := fun x' : Gr V1 => gr_cell ((unhide HX).cell (i := 4) rfl) x'
        have Q1 := hide fun x' : Gr V1 => unhide HQ xi sh od mn na m nc H x'.val ((unhide HR).below (Below.step (unhide HWA) x'.ok))
        unfold vBill at Q1
        generalize billB (xi, sh, od, mn, H) = z at *
        have gsome := gr_some V1
        cases z with
        | false =>
          have HB := hide (unhide HRK (by rw [unhide ERW]; rfl))
          refine wp_region_grown (by kernel_rfl) (by kernel_rfl) ?_
          repeat (go_big_quiet_step (fail))
          go_big_quiet_want
          go_big_quiet_op
          go_big_quiet_call (exact calls_grown (unhide Q1 _))
          repeat (go_big_quiet_step (fail))
          refine wpQuiet_nil ?_
          intro w6 hw6
          obtain ⟨z', hz⟩ := hw6
          have hb6 : Below V1.heap.size V1 w6 := hz ▸ z'.ok
          clear hz gsome
          go_wp2
          go_ret
          exact ⟨by rw [unhide HB]; rfl, Below.step (unhide HWA) hb6⟩
        | true =>
          by_cases hk0 : k = 0
          · have dk : decide (0 < (k : Int)) = false := by rw [decide_eq_false_iff_not]; omega
            have dkN : decide (0 < k) = false := by rw [decide_eq_false_iff_not]; omega
            have dkk : decide (k = 0) = true := by simpa using hk0
            have HT := hide (unhide HDN (by rw [unhide ERW]; simp [dkk]))
            clear hk0 dkk
            refine wp_region_grown (by kernel_rfl) (by kernel_rfl) ?_
            repeat (go_big_quiet_step (fail))
            go_big_quiet_want
            go_big_quiet_op
            go_big_quiet_call (exact calls_grown (unhide Q1 _))
            repeat (go_big_quiet_step (fail))
            refine wpQuiet_nil ?_
            intro w6 hw6
            obtain ⟨z', hz⟩ := hw6
            have hb6 : Below V1.heap.size V1 w6 := hz ▸ z'.ok
            clear hz gsome
            go_wp2
            go_roundg (L.length - (k + 1))
            case measure => omega
            case rel => exact ⟨k + 1, by omega, rfl, by go_num, hide (Below.step (unhide HWA) hb6), hide ((unhide HOA).step hb6), HT⟩
          · obtain ⟨j0, hj0⟩ : ∃ j : Nat, (k : Int) - 1 = j := ⟨k - 1, by omega⟩
            have hj1 : j0 < L.length := by omega
            have hj2 : k - 1 = j0 := by omega
            have dk : decide (0 < (k : Int)) = true := by rw [decide_eq_true_eq]; omega
            have dkN : decide (0 < k) = true := by rw [decide_eq_true_eq]; omega
            have dkk : decide (k = 0) = false := by simpa using hk0
            have qj : IntKind.i64.wrap ((k : Int) - 1) = (j0 : Int) := by rw [hj0, IntKind.wrap_i64]; omega
            have hj3 : (j0 : Int) < L.length := by omega
            obtain ⟨b9, o9, _, _, xj, _, _, _, _, _, e9, hcj, _, _, _, _, _, EX9, _, _⟩ := (unhide HC).at hj1
            simp only [Option.some.injEq, Addr.mk.injEq, and_true] at e9
            obtain ⟨rfl, rfl⟩ := e9
            have rj := fun x' : Gr V1 => gr_cell (wcell3 hcj (unhide HWA)) x'
            have exj : bId L (k - 1) = xj := by unfold bId; rw [hj2, unhide EX9]
            rw [exj] at ERW
            clear hcj EX9 exj hj2 hk0
            by_cases hlt : xj < xi
            · have h2 : decide (xj < xi) = true := by simpa using hlt
              have dge : decide (xi ≤ xj) = false := by rw [decide_eq_false_iff_not]; omega
              have HT := hide (unhide HDN (by rw [unhide ERW]; simp [h2]))
              clear hlt
              refine wp_region_grown (by kernel_rfl) (by kernel_rfl) ?_
              repeat (go_big_quiet_step (fail))
              go_big_quiet_want
              go_big_quiet_op
              go_big_quiet_call (exact calls_grown (unhide Q1 _))
              repeat (go_big_quiet_step (fail))
              refine wpQuiet_nil ?_
              intro w6 hw6
              obtain ⟨z', hz⟩ := hw6
              have hb6 : Below V1.heap.size V1 w6 := hz ▸ z'.ok
              clear hz gsome
              go_wp2
              go_roundg (L.length - (k + 1))
              case measure => omega
              case rel => exact ⟨k + 1, by omega, rfl, by go_num, hide (Below.step (unhide HWA) hb6), hide ((unhide HOA).step hb6), HT⟩
            · have h2 : decide (xj < xi) = false := by simpa using hlt
              have dge : decide (xi ≤ xj) = true := by rw [decide_eq_true_eq]; omega
              have HB := hide (unhide HRK (by rw [unhide ERW]; simp [h2, dkk]))
              clear hlt
              refine wp_region_grown (by kernel_rfl) (by kernel_rfl) ?_
              repeat (go_big_quiet_step (fail))
              go_big_quiet_want
              go_big_quiet_op
              go_big_quiet_call (exact calls_grown (unhide Q1 _))
              repeat (go_big_quiet_step (fail))
              refine wpQuiet_nil ?_
              intro w6 hw6
              obtain ⟨z', hz⟩ := hw6
              have hb6 : Below V1.heap.size V1 w6 := hz ▸ z'.ok
              clear hz gsome
              go_wp2
              go_ret
              exact ⟨by rw [unhide HB]; rfl, Below.step (unhide HWA) hb6⟩
      · have hup : upwB L = true := range_all fun r hr => unhide HD r (by omega)
        have HE := hide (unhide HOK h30 (fun r hr => unhide HD r (by omega)))
        have HFO := hide (freedOk_any _ _ (L, F) wr ((unhide HBK).below (unhide HW)) (by dsimp only; omega) (up_asc hup))
        dsimp only at HFO
        unfold vBook at HFO
        have q0 := (unhide HO).cell (i := 0) rfl
        have q1 := (unhide HO).cell (i := 1) rfl
        clear HD HOK hup
        go_wp2_with fail
        refine (unhide HFO).mono ?_
        rintro e w1 ⟨rfl, hb⟩
        replace HW := hide (Below.step (unhide HW) hb)
        clear hb HFO
        go_wp2
        go_ret
        exact ⟨by rw [unhide HE]; rfl, unhide HW⟩
  · have HE := hide (unhide HLN h30)
    have d30 : decide (30 < (L.length : Int)) = true := by rw [decide_eq_true_eq]; omega
    go_enter Try.func10, Try.ntmps10
    go_wp2
    go_ret
    exact ⟨by rw [unhide HE]; rfl, unhide HW0⟩

end Go.Proofs.Ytdcbonfhakdhhaa

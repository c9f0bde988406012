/- Bills: the contract of the specification's BookOk. Written by wip/mkblc.py. -/
import Derived.Test.YtdcbonfhakdhhaaBlC
import Derived.Test.YtdcbonfhakdhhaaRgI
namespace Go.Proofs.Ytdcbonfhakdhhaa
open Go.RowKit

theorem book_row {b : BkT} {k : Nat} (hk : k < b.1.length) (h : rowB1 b.1 k = false) : bookB b = false := by
  have : upwB b.1 = false := range_not hk h
  simp [bookB, this]
theorem book_fr {b : BkT} {k : Nat} (hk : k < b.2.length) (h : frow1 b.1 b.2 k = false) : bookB b = false := by
  have : frB b.1 b.2 = false := range_not hk h
  simp [bookB, this]
theorem book_all {b : BkT} (h1 : ∀ r, r < b.1.length → rowB1 b.1 r = true) (h2 : ∀ r, r < b.2.length → frow1 b.1 b.2 r = true) : bookB b = decide (b.1.length ≤ 30) := by
  have e1 : upwB b.1 = true := range_all h1
  have e2 : frB b.1 b.2 = true := range_all h2
  simp [bookB, e1, e2]

set_option maxRecDepth 100000 in
set_option maxHeartbeats 6400000 in
theorem specBookOk_any (bv fv : Value) (b : BkT) (w : World) (h : BkIn w bv fv b) (ht : ∀ x ∈ b.1, TxB x) :
    Calls Try.prog 37 #[vBook bv fv] w fun e w' => e = .returned (.bool (bookB b)) ∧ Below w.heap.size w w' := by
  obtain ⟨L, F⟩ := b
  dsimp only at h ht
  have HBK := hide h
  obtain ⟨h, hF⟩ := h
  have h' := h
  have hF' := hF
  obtain ⟨ao, cap, rfl, hl, hm, -⟩ := h'
  obtain ⟨fo, fcap, rfl, hfl, hfm, -⟩ := hF'
  unfold maxLen at hm hfm
  have A := Below.alloc1 w (.cells #[.slice ao L.length cap, .slice fo F.length fcap] 27)
  have HO := hide (ownV_alloc w #[.slice ao L.length cap, .slice fo F.length fcap] 27)
  have HC := hide h
  have HF := hide hF
  have HW0 := hide A
  have HTX := hide ht
  have HIn := hide fun (x a b : Int) V => l1In_any x a b V
  have HNM := hide fun s V hs => specName_any s V hs
  have HRW := hide fun k hk h => book_row (b := (L, F)) (k := k) hk h
  have HFR := hide fun k hk h => book_fr (b := (L, F)) (k := k) hk h
  have HALL := hide fun h1 h2 => book_all (b := (L, F)) h1 h2
  clear h hF A ht
  unfold vBook
  go_enter Try.func37, Try.ntmps37
  go_wp2
  obtain ⟨V, eV⟩ : ∃ V, V = w.alloc (.cells #[.slice ao L.length cap, .slice fo F.length fcap] 27) := ⟨_, rfl⟩
  rw [← eV] at HO HW0 ⊢
  clear eV
  obtain ⟨gb, egb⟩ : ∃ g, g = w.heap.size := ⟨_, rfl⟩
  rw [← egb] at HO ⊢
  have hgb : ¬ gb < w.heap.size := by omega
  clear egb
  go_loopg [3] L.length (fun g iv wr => ∃ k : Nat, k ≤ L.length ∧ g = L.length - k ∧ iv = .int .i64 k ∧ Hid (Below w.heap.size w wr) ∧ Hid (OwnV wr gb [.slice ao L.length cap, .slice fo F.length fcap]) ∧ Hid (∀ r, r < k → rowB1 L r = true))
  case atStart => exact ⟨0, Nat.zero_le _, rfl, rfl, HW0, HO, fun r hr => by omega⟩
  case round =>
    clear HO HW0
    obtain ⟨k, hk, rfl, rfl, HW, HO, HD⟩ := hrel
    have q0 := (unhide HO).cell (i := 0) rfl
    by_cases hkn : k < L.length
    · obtain ⟨bb, o, na, nc, xi, sh, od, mn, H, m, rfl, hc0, hc1, hc2, hc3, hc4, hr, EX, EM, hm0⟩ := (unhide HC).at hkn
      have hki : (k : Int) < L.length := by omega
      have htx : TxB (xi, sh, od, mn, H) := by
        rw [← unhide EX, getD_lt hkn]; exact unhide HTX _ (List.getElem_mem _)
      obtain ⟨ht1, ht2, ht3⟩ := htx
      have g0 := wcell3 hc0 (unhide HW)
      have g1 := wcell3 hc1 (unhide HW)
      have g2 := wcell3 hc2 (unhide HW)
      have g3 := wcell3 hc3 (unhide HW)
      have g4 := wcell3 hc4 (unhide HW)
      have AL := Below.alloc1 wr (.cells #[.int .i64 xi, .string sh, .string od, .int .i64 mn, .slice na m nc] 40)
      have HWA := hide (Below.step (unhide HW) AL)
      have HOA := hide ((unhide HO).step AL)
      have HX := hide (ownV_alloc wr #[.int .i64 xi, .string sh, .string od, .int .i64 mn, .slice na m nc] 40)
      have HR := hide hr
      have T1 := hide ht1
      have T2 := hide ht2
      have T3 := hide ht3
      have HRK := hide (unhide HRW k hkn)
      have ERW : Hid (rowB1 L k = (billB (xi, sh, od, mn, H) && (decide (k = 0) || decide (bId L (k - 1) < xi)))) := by
        show _ = _
        unfold rowB1
        rw [show bId L k = xi by unfold bId; rw [unhide EX], unhide EX]
      have HDN : Hid (rowB1 L k = true → ∀ r, r < k + 1 → rowB1 L r = true) := fun h r hr => by
        by_cases e : r = k
        · rw [e]; exact h
        · exact unhide HD r (by omega)
      clear hc0 hc1 hc2 hc3 hc4 hr ht1 ht2 ht3 AL HW HO HD
      go_wp2_with fail
      obtain ⟨V1, eV⟩ : ∃ z, z = wr.alloc (.cells #[.int .i64 xi, .string sh, .string od, .int .i64 mn, .slice na m nc] 40) := ⟨_, rfl⟩
      rw [← eV] at HWA HOA HX ⊢
      clear eV g0 g1 g2 g3 g4 q0
      obtain ⟨gx, egx⟩ : ∃ g, g = wr.heap.size := ⟨_, rfl⟩
      rw [← egx] at HX ⊢
      clear egx
      have q0 := (unhide HOA).cell (i := 0) rfl
      have q1 := (unhide HOA).cell (i := 1) rfl
      have d0 := (unhide HX).cell (i := 0) rfl
      have d1 := (unhide HX).cell (i := 1) rfl
      have d2 := (unhide HX).cell (i := 2) rfl
      have d3 := (unhide HX).cell (i := 3) rfl
      have d4 := (unhide HX).cell (i := 4) rfl
      have Q1 := hide fun V => unhide HIn xi 1 1000000 V
      have Q3 := hide fun V => unhide HNM sh V (unhide T1)
      have Q5 := hide fun V => unhide HNM od V (unhide T2)
      have Q6 := hide fun V => unhide HIn mn 1 5 V
      have e0 := no_list od
      have EBL : Hid (billB (xi, sh, od, mn, H) = (inB xi 1 1000000 && nameB sh && orB od && inB mn 1 5 && decide ((H.length : Int) = mn) && H.all orB)) := rfl
      cases h1 : inB xi 1 1000000 with
      | false =>
        rw [h1] at Q1
        have HB : Hid (bookB (L, F) = false) := unhide HRK (by rw [unhide ERW, unhide EBL]; simp [h1])
        refine wp_region_quiet_lit (by kernel_rfl) (by kernel_rfl) ?_
        repeat (go_big_quiet_step (fail))
        go_big_quiet_want
        go_big_quiet_op
        go_big_quiet_call (exact Calls.quiet_of_same (unhide Q1 _))
        repeat (go_big_quiet_step (fail))
        refine wpQuiet_nil ?_
        intro _ hw'
        obtain ⟨nq, hw''⟩ := hw'
        subst hw''
        go_wp2
        go_ret
        exact ⟨by rw [unhide HB]; rfl, below_drewN (unhide HWA) _⟩
      | true =>
        rw [h1] at Q1
        by_cases hk0 : k = 0
        · have dk : decide (0 < (k : Int)) = false := by rw [decide_eq_false_iff_not]; omega
          have dkN : decide (0 < k) = false := by rw [decide_eq_false_iff_not]; omega
          have dkk : decide (k = 0) = true := by simpa using hk0
          clear hk0
          cases h3 : nameB sh with
          | false =>
            rw [h3] at Q3
            have HB : Hid (bookB (L, F) = false) := unhide HRK (by rw [unhide ERW, unhide EBL]; simp [h3])
            refine wp_region_quiet_lit (by kernel_rfl) (by kernel_rfl) ?_
            repeat (go_big_quiet_step (fail))
            go_big_quiet_want
            go_big_quiet_op
            go_big_quiet_call (exact Calls.quiet_of_same (unhide Q1 _))
            repeat (go_big_quiet_step (fail))
            go_big_quiet_want
            go_big_quiet_op
            go_big_quiet_call (exact Calls.quiet_of_same (unhide Q3 _))
            repeat (go_big_quiet_step (fail))
            refine wpQuiet_nil ?_
            intro _ hw'
            obtain ⟨nq, hw''⟩ := hw'
            subst hw''
            go_wp2
            go_ret
            exact ⟨by rw [unhide HB]; rfl, below_drewN (unhide HWA) _⟩
          | true =>
            rw [h3] at Q3
            cases h4 : noB od with
            | true =>
              rw [h4] at e0
              have h5 : orB od = true := by unfold orB; rw [h4]; rfl
              cases h6 : inB mn 1 5 with
              | false =>
                rw [h6] at Q6
                have HB : Hid (bookB (L, F) = false) := unhide HRK (by rw [unhide ERW, unhide EBL]; simp [h6])
                refine wp_region_quiet_lit (by kernel_rfl) (by kernel_rfl) ?_
                repeat (go_big_quiet_step (fail))
                go_big_quiet_want
                go_big_quiet_op
                go_big_quiet_call (exact Calls.quiet_of_same (unhide Q1 _))
                repeat (go_big_quiet_step (fail))
                go_big_quiet_want
                go_big_quiet_op
                go_big_quiet_call (exact Calls.quiet_of_same (unhide Q3 _))
                repeat (go_big_quiet_step (fail))
                go_big_quiet_want
                go_big_quiet_op
                go_big_quiet_call (exact Calls.quiet_of_same (unhide Q6 _))
                repeat (go_big_quiet_step (fail))
                refine wpQuiet_nil ?_
                intro _ hw'
                obtain ⟨nq, hw''⟩ := hw'
                subst hw''
                go_wp2
                go_ret
                exact ⟨by rw [unhide HB]; rfl, below_drewN (unhide HWA) _⟩
              | true =>
                rw [h6] at Q6
                have hmH0 := unhide EM
                by_cases h7 : (m : Int) = mn
                · have d7 : ((m : Int) != mn) = false := by simp; exact h7
                  have h8 : decide ((H.length : Int) = mn) = true := by rw [hmH0]; simpa using h7
                  have H7 := hide h7
                  clear h7 hmH0
                  have HR1 : Hid (H.all orB = rowB1 L k) := by
                    show _ = _
                    rw [unhide ERW, unhide EBL]; simp [h1, h3, h5, h6, h8, dkk]
                  refine wp_region_quiet_lit (by kernel_rfl) (by kernel_rfl) ?_
                  repeat (go_big_quiet_step (fail))
                  go_big_quiet_want
                  go_big_quiet_op
                  go_big_quiet_call (exact Calls.quiet_of_same (unhide Q1 _))
                  repeat (go_big_quiet_step (fail))
                  go_big_quiet_want
                  go_big_quiet_op
                  go_big_quiet_call (exact Calls.quiet_of_same (unhide Q3 _))
                  repeat (go_big_quiet_step (fail))
                  go_big_quiet_want
                  go_big_quiet_op
                  go_big_quiet_call (exact Calls.quiet_of_same (unhide Q6 _))
                  repeat (go_big_quiet_step (fail))
                  refine wpQuiet_nil ?_
                  intro _ hw'
                  obtain ⟨nq, hw''⟩ := hw'
                  subst hw''
                  replace HWA := hide (below_drewN (unhide HWA) nq)
                  replace HOA := hide ((unhide HOA).step (below_drewN (Below.refl _ _) nq))
                  replace HX := hide ((unhide HX).step (below_drewN (Below.refl _ _) nq))
                  replace HR := hide ((unhide HR).below (unhide HWA))
                  clear q0 q1 d0 d1 d2 d3 d4 Q1 Q3 Q5 Q6
                  generalize V1.drewN nq = V2 at *
                  have d4 := (unhide HX).cell (i := 4) rfl
                  have hmH := unhide EM
                  have hH0 : H.length ≤ 9223372036854775807 := by rw [hmH]; exact hm0
                  rw [← hmH] at d4 HR ⊢
                  clear hmH
                  go_wp2
                  go_loopg [5] H.length (fun g iv wx => wx = V2 ∧ ∃ j : Nat, j ≤ H.length ∧ g = H.length - j ∧ iv = .int .i64 j ∧ Hid (∀ r, r < j → orB (H.getD r default) = true))
                  case atStart => exact ⟨rfl, 0, Nat.zero_le _, rfl, rfl, fun r hr => by omega⟩
                  case round =>
                    obtain ⟨rfl, j, hj, rfl, rfl, HJ⟩ := hrel
                    by_cases hjn : j < H.length
                    · obtain ⟨b2, o2, rfl, hcell⟩ := (unhide HR).cells j hjn
                      have hji : (j : Int) < H.length := by omega
                      have hts := unhide T3 j hjn
                      have HJB : Hid (orB (H.getD j default) = false → bookB (L, F) = false) := fun h => unhide HRK (by rw [← unhide HR1]; exact all_false hjn h)
                      have HJN : Hid (orB (H.getD j default) = true → ∀ r, r < j + 1 → orB (H.getD r default) = true) := fun h r hr => by
                        by_cases e : r = j
                        · rw [e]; exact h
                        · exact unhide HJ r (by omega)
                      generalize H.getD j default = s at *
                      have HNS := hide fun V => unhide HNM s V hts
                      have EO : Hid (orB s = (noB s || nameB s)) := rfl
                      have e1 := no_list s
                      clear HJ hts
                      cases hn : noB s with
                      | true =>
                        rw [hn] at e1 EO
                        have HT := hide (unhide HJN (by rw [unhide EO]; rfl))
                        clear HNS HJB HJN EO hn
                        go_wp2
                        go_roundg (H.length - (j + 1))
                        case measure => omega
                        case rel => exact ⟨rfl, j + 1, by omega, rfl, by go_num, HT⟩
                      | false =>
                        rw [hn] at e1 EO
                        have eo : orB s = nameB s := by rw [unhide EO]; rfl
                        rw [eo] at HJB HJN
                        generalize nameB s = z at *
                        clear EO eo hn
                        go_wp2_with fail
                        refine (unhide HNS _).mono ?_
                        rintro e w5 ⟨rfl, h9⟩
                        subst h9
                        clear HNS
                        cases z with
                        | true =>
                          have HT := hide (unhide HJN (by simp))
                          go_wp2
                          go_roundg (H.length - (j + 1))
                          case measure => omega
                          case rel => exact ⟨rfl, j + 1, by omega, rfl, by go_num, HT⟩
                        | false =>
                          have HB := hide (unhide HJB (by simp))
                          go_wp2
                          go_ret
                          exact ⟨by rw [unhide HB]; rfl, unhide HWA⟩
                    · have HT := hide (unhide HDN (by rw [← unhide HR1]; exact all_true (d := default) fun i hi => unhide HJ i (by omega)))
                      clear HJ
                      go_wp2
                      go_roundg (L.length - (k + 1))
                      case measure => omega
                      case rel => exact ⟨k + 1, by omega, rfl, by go_num, HWA, HOA, HT⟩
                · have d7 : ((m : Int) != mn) = true := by simp; exact h7
                  have h8 : decide ((H.length : Int) = mn) = false := by rw [hmH0]; simpa using h7
                  clear h7 hmH0
                  have HB : Hid (bookB (L, F) = false) := unhide HRK (by rw [unhide ERW, unhide EBL]; simp [h8])
                  refine wp_region_quiet_lit (by kernel_rfl) (by kernel_rfl) ?_
                  repeat (go_big_quiet_step (fail))
                  go_big_quiet_want
                  go_big_quiet_op
                  go_big_quiet_call (exact Calls.quiet_of_same (unhide Q1 _))
                  repeat (go_big_quiet_step (fail))
                  go_big_quiet_want
                  go_big_quiet_op
                  go_big_quiet_call (exact Calls.quiet_of_same (unhide Q3 _))
                  repeat (go_big_quiet_step (fail))
                  go_big_quiet_want
                  go_big_quiet_op
                  go_big_quiet_call (exact Calls.quiet_of_same (unhide Q6 _))
                  repeat (go_big_quiet_step (fail))
                  refine wpQuiet_nil ?_
                  intro _ hw'
                  obtain ⟨nq, hw''⟩ := hw'
                  subst hw''
                  go_wp2
                  go_ret
                  exact ⟨by rw [unhide HB]; rfl, below_drewN (unhide HWA) _⟩
            | false =>
              rw [h4] at e0
              cases h5' : nameB od with
              | false =>
                rw [h5'] at Q5
                have h5 : orB od = false := by unfold orB; rw [h4, h5']; rfl
                have HB : Hid (bookB (L, F) = false) := unhide HRK (by rw [unhide ERW, unhide EBL]; simp [h5])
                refine wp_region_quiet_lit (by kernel_rfl) (by kernel_rfl) ?_
                repeat (go_big_quiet_step (fail))
                go_big_quiet_want
                go_big_quiet_op
                go_big_quiet_call (exact Calls.quiet_of_same (unhide Q1 _))
                repeat (go_big_quiet_step (fail))
                go_big_quiet_want
                go_big_quiet_op
                go_big_quiet_call (exact Calls.quiet_of_same (unhide Q3 _))
                repeat (go_big_quiet_step (fail))
                go_big_quiet_want
                go_big_quiet_op
                go_big_quiet_call (exact Calls.quiet_of_same (unhide Q5 _))
                repeat (go_big_quiet_step (fail))
                refine wpQuiet_nil ?_
                intro _ hw'
                obtain ⟨nq, hw''⟩ := hw'
                subst hw''
                go_wp2
                go_ret
                exact ⟨by rw [unhide HB]; rfl, below_drewN (unhide HWA) _⟩
              | true =>
                rw [h5'] at Q5
                have h5 : orB od = true := by unfold orB; rw [h4, h5']; rfl
                cases h6 : inB mn 1 5 with
                | false =>
                  rw [h6] at Q6
                  have HB : Hid (bookB (L, F) = false) := unhide HRK (by rw [unhide ERW, unhide EBL]; simp [h6])
                  refine wp_region_quiet_lit (by kernel_rfl) (by kernel_rfl) ?_
                  repeat (go_big_quiet_step (fail))
                  go_big_quiet_want
                  go_big_quiet_op
                  go_big_quiet_call (exact Calls.quiet_of_same (unhide Q1 _))
                  repeat (go_big_quiet_step (fail))
                  go_big_quiet_want
                  go_big_quiet_op
                  go_big_quiet_call (exact Calls.quiet_of_same (unhide Q3 _))
                  repeat (go_big_quiet_step (fail))
                  go_big_quiet_want
                  go_big_quiet_op
                  go_big_quiet_call (exact Calls.quiet_of_same (unhide Q5 _))
                  repeat (go_big_quiet_step (fail))
                  go_big_quiet_want
                  go_big_quiet_op
                  go_big_quiet_call (exact Calls.quiet_of_same (unhide Q6 _))
                  repeat (go_big_quiet_step (fail))
                  refine wpQuiet_nil ?_
                  intro _ hw'
                  obtain ⟨nq, hw''⟩ := hw'
                  subst hw''
                  go_wp2
                  go_ret
                  exact ⟨by rw [unhide HB]; rfl, below_drewN (unhide HWA) _⟩
                | true =>
                  rw [h6] at Q6
                  have hmH0 := unhide EM
                  by_cases h7 : (m : Int) = mn
                  · have d7 : ((m : Int) != mn) = false := by simp; exact h7
                    have h8 : decide ((H.length : Int) = mn) = true := by rw [hmH0]; simpa using h7
                    have H7 := hide h7
                    clear h7 hmH0
                    have HR1 : Hid (H.all orB = rowB1 L k) := by
                      show _ = _
                      rw [unhide ERW, unhide EBL]; simp [h1, h3, h5, h6, h8, dkk]
                    refine wp_region_quiet_lit (by kernel_rfl) (by kernel_rfl) ?_
                    repeat (go_big_quiet_step (fail))
                    go_big_quiet_want
                    go_big_quiet_op
                    go_big_quiet_call (exact Calls.quiet_of_same (unhide Q1 _))
                    repeat (go_big_quiet_step (fail))
                    go_big_quiet_want
                    go_big_quiet_op
                    go_big_quiet_call (exact Calls.quiet_of_same (unhide Q3 _))
                    repeat (go_big_quiet_step (fail))
                    go_big_quiet_want
                    go_big_quiet_op
                    go_big_quiet_call (exact Calls.quiet_of_same (unhide Q5 _))
                    repeat (go_big_quiet_step (fail))
                    go_big_quiet_want
                    go_big_quiet_op
                    go_big_quiet_call (exact Calls.quiet_of_same (unhide Q6 _))
                    repeat (go_big_quiet_step (fail))
                    refine wpQuiet_nil ?_
                    intro _ hw'
                    obtain ⟨nq, hw''⟩ := hw'
                    subst hw''
                    replace HWA := hide (below_drewN (unhide HWA) nq)
                    replace HOA := hide ((unhide HOA).step (below_drewN (Below.refl _ _) nq))
                    replace HX := hide ((unhide HX).step (below_drewN (Below.refl _ _) nq))
                    replace HR := hide ((unhide HR).below (unhide HWA))
                    clear q0 q1 d0 d1 d2 d3 d4 Q1 Q3 Q5 Q6
                    generalize V1.drewN nq = V2 at *
                    have d4 := (unhide HX).cell (i := 4) rfl
                    have hmH := unhide EM
                    have hH0 : H.length ≤ 9223372036854775807 := by rw [hmH]; exact hm0
                    rw [← hmH] at d4 HR ⊢
                    clear hmH
                    go_wp2
                    go_loopg [5] H.length (fun g iv wx => wx = V2 ∧ ∃ j : Nat, j ≤ H.length ∧ g = H.length - j ∧ iv = .int .i64 j ∧ Hid (∀ r, r < j → orB (H.getD r default) = true))
                    case atStart => exact ⟨rfl, 0, Nat.zero_le _, rfl, rfl, fun r hr => by omega⟩
                    case round =>
                      obtain ⟨rfl, j, hj, rfl, rfl, HJ⟩ := hrel
                      by_cases hjn : j < H.length
                      · obtain ⟨b2, o2, rfl, hcell⟩ := (unhide HR).cells j hjn
                        have hji : (j : Int) < H.length := by omega
                        have hts := unhide T3 j hjn
                        have HJB : Hid (orB (H.getD j default) = false → bookB (L, F) = false) := fun h => unhide HRK (by rw [← unhide HR1]; exact all_false hjn h)
                        have HJN : Hid (orB (H.getD j default) = true → ∀ r, r < j + 1 → orB (H.getD r default) = true) := fun h r hr => by
                          by_cases e : r = j
                          · rw [e]; exact h
                          · exact unhide HJ r (by omega)
                        generalize H.getD j default = s at *
                        have HNS := hide fun V => unhide HNM s V hts
                        have EO : Hid (orB s = (noB s || nameB s)) := rfl
                        have e1 := no_list s
                        clear HJ hts
                        cases hn : noB s with
                        | true =>
                          rw [hn] at e1 EO
                          have HT := hide (unhide HJN (by rw [unhide EO]; rfl))
                          clear HNS HJB HJN EO hn
                          go_wp2
                          go_roundg (H.length - (j + 1))
                          case measure => omega
                          case rel => exact ⟨rfl, j + 1, by omega, rfl, by go_num, HT⟩
                        | false =>
                          rw [hn] at e1 EO
                          have eo : orB s = nameB s := by rw [unhide EO]; rfl
                          rw [eo] at HJB HJN
                          generalize nameB s = z at *
                          clear EO eo hn
                          go_wp2_with fail
                          refine (unhide HNS _).mono ?_
                          rintro e w5 ⟨rfl, h9⟩
                          subst h9
                          clear HNS
                          cases z with
                          | true =>
                            have HT := hide (unhide HJN (by simp))
                            go_wp2
                            go_roundg (H.length - (j + 1))
                            case measure => omega
                            case rel => exact ⟨rfl, j + 1, by omega, rfl, by go_num, HT⟩
                          | false =>
                            have HB := hide (unhide HJB (by simp))
                            go_wp2
                            go_ret
                            exact ⟨by rw [unhide HB]; rfl, unhide HWA⟩
                      · have HT := hide (unhide HDN (by rw [← unhide HR1]; exact all_true (d := default) fun i hi => unhide HJ i (by omega)))
                        clear HJ
                        go_wp2
                        go_roundg (L.length - (k + 1))
                        case measure => omega
                        case rel => exact ⟨k + 1, by omega, rfl, by go_num, HWA, HOA, HT⟩
                  · have d7 : ((m : Int) != mn) = true := by simp; exact h7
                    have h8 : decide ((H.length : Int) = mn) = false := by rw [hmH0]; simpa using h7
                    clear h7 hmH0
                    have HB : Hid (bookB (L, F) = false) := unhide HRK (by rw [unhide ERW, unhide EBL]; simp [h8])
                    refine wp_region_quiet_lit (by kernel_rfl) (by kernel_rfl) ?_
                    repeat (go_big_quiet_step (fail))
                    go_big_quiet_want
                    go_big_quiet_op
                    go_big_quiet_call (exact Calls.quiet_of_same (unhide Q1 _))
                    repeat (go_big_quiet_step (fail))
                    go_big_quiet_want
                    go_big_quiet_op
                    go_big_quiet_call (exact Calls.quiet_of_same (unhide Q3 _))
                    repeat (go_big_quiet_step (fail))
                    go_big_quiet_want
                    go_big_quiet_op
                    go_big_quiet_call (exact Calls.quiet_of_same (unhide Q5 _))
                    repeat (go_big_quiet_step (fail))
                    go_big_quiet_want
                    go_big_quiet_op
                    go_big_quiet_call (exact Calls.quiet_of_same (unhide Q6 _))
                    repeat (go_big_quiet_step (fail))
                    refine wpQuiet_nil ?_
                    intro _ hw'
                    obtain ⟨nq, hw''⟩ := hw'
                    subst hw''
                    go_wp2
                    go_ret
                    exact ⟨by rw [unhide HB]; rfl, below_drewN (unhide HWA) _⟩
        · obtain ⟨j0, hj0⟩ : ∃ j : Nat, (k : Int) - 1 = j := ⟨k - 1, by omega⟩
          have hj1 : j0 < L.length := by omega
          have hj2 : k - 1 = j0 := by omega
          have dk : decide (0 < (k : Int)) = true := by rw [decide_eq_true_eq]; omega
          have dkN : decide (0 < k) = true := by rw [decide_eq_true_eq]; omega
          have dkk : decide (k = 0) = false := by simpa using hk0
          have qj : IntKind.i64.wrap ((k : Int) - 1) = (j0 : Int) := by rw [hj0, IntKind.wrap_i64]; omega
          have hj3 : (j0 : Int) < L.length := by omega
          obtain ⟨b9, o9, _, _, xj, _, _, _, _, _, e9, hcj, _, _, _, _, _, EX9, _, _⟩ := (unhide HC).at hj1
          simp only [Option.some.injEq, Addr.mk.injEq, and_true] at e9
          obtain ⟨rfl, rfl⟩ := e9
          have gj := wcell3 hcj (unhide HWA)
          have exj : bId L (k - 1) = xj := by unfold bId; rw [hj2, unhide EX9]
          rw [exj] at ERW
          clear hcj EX9 exj hj2 hk0
          by_cases hlt : xj < xi
          · have h2 : decide (xj < xi) = true := by simpa using hlt
            have dge : decide (xi ≤ xj) = false := by rw [decide_eq_false_iff_not]; omega
            clear hlt
            cases h3 : nameB sh with
            | false =>
              rw [h3] at Q3
              have HB : Hid (bookB (L, F) = false) := unhide HRK (by rw [unhide ERW, unhide EBL]; simp [h3])
              refine wp_region_quiet_lit (by kernel_rfl) (by kernel_rfl) ?_
              repeat (go_big_quiet_step (fail))
              go_big_quiet_want
              go_big_quiet_op
              go_big_quiet_call (exact Calls.quiet_of_same (unhide Q1 _))
              repeat (go_big_quiet_step (fail))
              go_big_quiet_want
              go_big_quiet_op
              go_big_quiet_call (exact Calls.quiet_of_same (unhide Q3 _))
              repeat (go_big_quiet_step (fail))
              refine wpQuiet_nil ?_
              intro _ hw'
              obtain ⟨nq, hw''⟩ := hw'
              subst hw''
              go_wp2
              go_ret
              exact ⟨by rw [unhide HB]; rfl, below_drewN (unhide HWA) _⟩
            | true =>
              rw [h3] at Q3
              cases h4 : noB od with
              | true =>
                rw [h4] at e0
                have h5 : orB od = true := by unfold orB; rw [h4]; rfl
                cases h6 : inB mn 1 5 with
                | false =>
                  rw [h6] at Q6
                  have HB : Hid (bookB (L, F) = false) := unhide HRK (by rw [unhide ERW, unhide EBL]; simp [h6])
                  refine wp_region_quiet_lit (by kernel_rfl) (by kernel_rfl) ?_
                  repeat (go_big_quiet_step (fail))
                  go_big_quiet_want
                  go_big_quiet_op
                  go_big_quiet_call (exact Calls.quiet_of_same (unhide Q1 _))
                  repeat (go_big_quiet_step (fail))
                  go_big_quiet_want
                  go_big_quiet_op
                  go_big_quiet_call (exact Calls.quiet_of_same (unhide Q3 _))
                  repeat (go_big_quiet_step (fail))
                  go_big_quiet_want
                  go_big_quiet_op
                  go_big_quiet_call (exact Calls.quiet_of_same (unhide Q6 _))
                  repeat (go_big_quiet_step (fail))
                  refine wpQuiet_nil ?_
                  intro _ hw'
                  obtain ⟨nq, hw''⟩ := hw'
                  subst hw''
                  go_wp2
                  go_ret
                  exact ⟨by rw [unhide HB]; rfl, below_drewN (unhide HWA) _⟩
                | true =>
                  rw [h6] at Q6
                  have hmH0 := unhide EM
                  by_cases h7 : (m : Int) = mn
                  · have d7 : ((m : Int) != mn) = false := by simp; exact h7
                    have h8 : decide ((H.length : Int) = mn) = true := by rw [hmH0]; simpa using h7
                    have H7 := hide h7
                    clear h7 hmH0
                    have HR1 : Hid (H.all orB = rowB1 L k) := by
                      show _ = _
                      rw [unhide ERW, unhide EBL]; simp [h1, h3, h5, h6, h8, h2]
                    refine wp_region_quiet_lit (by kernel_rfl) (by kernel_rfl) ?_
                    repeat (go_big_quiet_step (fail))
                    go_big_quiet_want
                    go_big_quiet_op
                    go_big_quiet_call (exact Calls.quiet_of_same (unhide Q1 _))
                    repeat (go_big_quiet_step (fail))
                    go_big_quiet_want
                    go_big_quiet_op
                    go_big_quiet_call (exact Calls.quiet_of_same (unhide Q3 _))
                    repeat (go_big_quiet_step (fail))
                    go_big_quiet_want
                    go_big_quiet_op
                    go_big_quiet_call (exact Calls.quiet_of_same (unhide Q6 _))
                    repeat (go_big_quiet_step (fail))
                    refine wpQuiet_nil ?_
                    intro _ hw'
                    obtain ⟨nq, hw''⟩ := hw'
                    subst hw''
                    replace HWA := hide (below_drewN (unhide HWA) nq)
                    replace HOA := hide ((unhide HOA).step (below_drewN (Below.refl _ _) nq))
                    replace HX := hide ((unhide HX).step (below_drewN (Below.refl _ _) nq))
                    replace HR := hide ((unhide HR).below (unhide HWA))
                    clear q0 q1 d0 d1 d2 d3 d4 Q1 Q3 Q5 Q6
                    generalize V1.drewN nq = V2 at *
                    have d4 := (unhide HX).cell (i := 4) rfl
                    have hmH := unhide EM
                    have hH0 : H.length ≤ 9223372036854775807 := by rw [hmH]; exact hm0
                    rw [← hmH] at d4 HR ⊢
                    clear hmH
                    go_wp2
                    go_loopg [5] H.length (fun g iv wx => wx = V2 ∧ ∃ j : Nat, j ≤ H.length ∧ g = H.length - j ∧ iv = .int .i64 j ∧ Hid (∀ r, r < j → orB (H.getD r default) = true))
                    case atStart => exact ⟨rfl, 0, Nat.zero_le _, rfl, rfl, fun r hr => by omega⟩
                    case round =>
                      obtain ⟨rfl, j, hj, rfl, rfl, HJ⟩ := hrel
                      by_cases hjn : j < H.length
                      · obtain ⟨b2, o2, rfl, hcell⟩ := (unhide HR).cells j hjn
                        have hji : (j : Int) < H.length := by omega
                        have hts := unhide T3 j hjn
                        have HJB : Hid (orB (H.getD j default) = false → bookB (L, F) = false) := fun h => unhide HRK (by rw [← unhide HR1]; exact all_false hjn h)
                        have HJN : Hid (orB (H.getD j default) = true → ∀ r, r < j + 1 → orB (H.getD r default) = true) := fun h r hr => by
                          by_cases e : r = j
                          · rw [e]; exact h
                          · exact unhide HJ r (by omega)
                        generalize H.getD j default = s at *
                        have HNS := hide fun V => unhide HNM s V hts
                        have EO : Hid (orB s = (noB s || nameB s)) := rfl
                        have e1 := no_list s
                        clear HJ hts
                        cases hn : noB s with
                        | true =>
                          rw [hn] at e1 EO
                          have HT := hide (unhide HJN (by rw [unhide EO]; rfl))
                          clear HNS HJB HJN EO hn
                          go_wp2
                          go_roundg (H.length - (j + 1))
                          case measure => omega
                          case rel => exact ⟨rfl, j + 1, by omega, rfl, by go_num, HT⟩
                        | false =>
                          rw [hn] at e1 EO
                          have eo : orB s = nameB s := by rw [unhide EO]; rfl
                          rw [eo] at HJB HJN
                          generalize nameB s = z at *
                          clear EO eo hn
                          go_wp2_with fail
                          refine (unhide HNS _).mono ?_
                          rintro e w5 ⟨rfl, h9⟩
                          subst h9
                          clear HNS
                          cases z with
                          | true =>
                            have HT := hide (unhide HJN (by simp))
                            go_wp2
                            go_roundg (H.length - (j + 1))
                            case measure => omega
                            case rel => exact ⟨rfl, j + 1, by omega, rfl, by go_num, HT⟩
                          | false =>
                            have HB := hide (unhide HJB (by simp))
                            go_wp2
                            go_ret
                            exact ⟨by rw [unhide HB]; rfl, unhide HWA⟩
                      · have HT := hide (unhide HDN (by rw [← unhide HR1]; exact all_true (d := default) fun i hi => unhide HJ i (by omega)))
                        clear HJ
                        go_wp2
                        go_roundg (L.length - (k + 1))
                        case measure => omega
                        case rel => exact ⟨k + 1, by omega, rfl, by go_num, HWA, HOA, HT⟩
                  · have d7 : ((m : Int) != mn) = true := by simp; exact h7
                    have h8 : decide ((H.length : Int) = mn) = false := by rw [hmH0]; simpa using h7
                    clear h7 hmH0
                    have HB : Hid (bookB (L, F) = false) := unhide HRK (by rw [unhide ERW, unhide EBL]; simp [h8])
                    refine wp_region_quiet_lit (by kernel_rfl) (by kernel_rfl) ?_
                    repeat (go_big_quiet_step (fail))
                    go_big_quiet_want
                    go_big_quiet_op
                    go_big_quiet_call (exact Calls.quiet_of_same (unhide Q1 _))
                    repeat (go_big_quiet_step (fail))
                    go_big_quiet_want
                    go_big_quiet_op
                    go_big_quiet_call (exact Calls.quiet_of_same (unhide Q3 _))
                    repeat (go_big_quiet_step (fail))
                    go_big_quiet_want
                    go_big_quiet_op
                    go_big_quiet_call (exact Calls.quiet_of_same (unhide Q6 _))
                    repeat (go_big_quiet_step (fail))
                    refine wpQuiet_nil ?_
                    intro _ hw'
                    obtain ⟨nq, hw''⟩ := hw'
                    subst hw''
                    go_wp2
                    go_ret
                    exact ⟨by rw [unhide HB]; rfl, below_drewN (unhide HWA) _⟩
              | false =>
                rw [h4] at e0
                cases h5' : nameB od with
                | false =>
                  rw [h5'] at Q5
                  have h5 : orB od = false := by unfold orB; rw [h4, h5']; rfl
                  have HB : Hid (bookB (L, F) = false) := unhide HRK (by rw [unhide ERW, unhide EBL]; simp [h5])
                  refine wp_region_quiet_lit (by kernel_rfl) (by kernel_rfl) ?_
                  repeat (go_big_quiet_step (fail))
                  go_big_quiet_want
                  go_big_quiet_op
                  go_big_quiet_call (exact Calls.quiet_of_same (unhide Q1 _))
                  repeat (go_big_quiet_step (fail))
                  go_big_quiet_want
                  go_big_quiet_op
                  go_big_quiet_call (exact Calls.quiet_of_same (unhide Q3 _))
                  repeat (go_big_quiet_step (fail))
                  go_big_quiet_want
                  go_big_quiet_op
                  go_big_quiet_call (exact Calls.quiet_of_same (unhide Q5 _))
                  repeat (go_big_quiet_step (fail))
                  refine wpQuiet_nil ?_
                  intro _ hw'
                  obtain ⟨nq, hw''⟩ := hw'
                  subst hw''
                  go_wp2
                  go_ret
                  exact ⟨by rw [unhide HB]; rfl, below_drewN (unhide HWA) _⟩
                | true =>
                  rw [h5'] at Q5
                  have h5 : orB od = true := by unfold orB; rw [h4, h5']; rfl
                  cases h6 : inB mn 1 5 with
                  | false =>
                    rw [h6] at Q6
                    have HB : Hid (bookB (L, F) = false) := unhide HRK (by rw [unhide ERW, unhide EBL]; simp [h6])
                    refine wp_region_quiet_lit (by kernel_rfl) (by kernel_rfl) ?_
                    repeat (go_big_quiet_step (fail))
                    go_big_quiet_want
                    go_big_quiet_op
                    go_big_quiet_call (exact Calls.quiet_of_same (unhide Q1 _))
                    repeat (go_big_quiet_step (fail))
                    go_big_quiet_want
                    go_big_quiet_op
                    go_big_quiet_call (exact Calls.quiet_of_same (unhide Q3 _))
                    repeat (go_big_quiet_step (fail))
                    go_big_quiet_want
                    go_big_quiet_op
                    go_big_quiet_call (exact Calls.quiet_of_same (unhide Q5 _))
                    repeat (go_big_quiet_step (fail))
                    go_big_quiet_want
                    go_big_quiet_op
                    go_big_quiet_call (exact Calls.quiet_of_same (unhide Q6 _))
                    repeat (go_big_quiet_step (fail))
                    refine wpQuiet_nil ?_
                    intro _ hw'
                    obtain ⟨nq, hw''⟩ := hw'
                    subst hw''
                    go_wp2
                    go_ret
                    exact ⟨by rw [unhide HB]; rfl, below_drewN (unhide HWA) _⟩
                  | true =>
                    rw [h6] at Q6
                    have hmH0 := unhide EM
                    by_cases h7 : (m : Int) = mn
                    · have d7 : ((m : Int) != mn) = false := by simp; exact h7
                      have h8 : decide ((H.length : Int) = mn) = true := by rw [hmH0]; simpa using h7
                      have H7 := hide h7
                      clear h7 hmH0
                      have HR1 : Hid (H.all orB = rowB1 L k) := by
                        show _ = _
                        rw [unhide ERW, unhide EBL]; simp [h1, h3, h5, h6, h8, h2]
                      refine wp_region_quiet_lit (by kernel_rfl) (by kernel_rfl) ?_
                      repeat (go_big_quiet_step (fail))
                      go_big_quiet_want
                      go_big_quiet_op
                      go_big_quiet_call (exact Calls.quiet_of_same (unhide Q1 _))
                      repeat (go_big_quiet_step (fail))
                      go_big_quiet_want
                      go_big_quiet_op
                      go_big_quiet_call (exact Calls.quiet_of_same (unhide Q3 _))
                      repeat (go_big_quiet_step (fail))
                      go_big_quiet_want
                      go_big_quiet_op
                      go_big_quiet_call (exact Calls.quiet_of_same (unhide Q5 _))
                      repeat (go_big_quiet_step (fail))
                      go_big_quiet_want
                      go_big_quiet_op
                      go_big_quiet_call (exact Calls.quiet_of_same (unhide Q6 _))
                      repeat (go_big_quiet_step (fail))
                      refine wpQuiet_nil ?_
                      intro _ hw'
                      obtain ⟨nq, hw''⟩ := hw'
                      subst hw''
                      replace HWA := hide (below_drewN (unhide HWA) nq)
                      replace HOA := hide ((unhide HOA).step (below_drewN (Below.refl _ _) nq))
                      replace HX := hide ((unhide HX).step (below_drewN (Below.refl _ _) nq))
                      replace HR := hide ((unhide HR).below (unhide HWA))
                      clear q0 q1 d0 d1 d2 d3 d4 Q1 Q3 Q5 Q6
                      generalize V1.drewN nq = V2 at *
                      have d4 := (unhide HX).cell (i := 4) rfl
                      have hmH := unhide EM
                      have hH0 : H.length ≤ 9223372036854775807 := by rw [hmH]; exact hm0
                      rw [← hmH] at d4 HR ⊢
                      clear hmH
                      go_wp2
                      go_loopg [5] H.length (fun g iv wx => wx = V2 ∧ ∃ j : Nat, j ≤ H.length ∧ g = H.length - j ∧ iv = .int .i64 j ∧ Hid (∀ r, r < j → orB (H.getD r default) = true))
                      case atStart => exact ⟨rfl, 0, Nat.zero_le _, rfl, rfl, fun r hr => by omega⟩
                      case round =>
                        obtain ⟨rfl, j, hj, rfl, rfl, HJ⟩ := hrel
                        by_cases hjn : j < H.length
                        · obtain ⟨b2, o2, rfl, hcell⟩ := (unhide HR).cells j hjn
                          have hji : (j : Int) < H.length := by omega
                          have hts := unhide T3 j hjn
                          have HJB : Hid (orB (H.getD j default) = false → bookB (L, F) = false) := fun h => unhide HRK (by rw [← unhide HR1]; exact all_false hjn h)
                          have HJN : Hid (orB (H.getD j default) = true → ∀ r, r < j + 1 → orB (H.getD r default) = true) := fun h r hr => by
                            by_cases e : r = j
                            · rw [e]; exact h
                            · exact unhide HJ r (by omega)
                          generalize H.getD j default = s at *
                          have HNS := hide fun V => unhide HNM s V hts
                          have EO : Hid (orB s = (noB s || nameB s)) := rfl
                          have e1 := no_list s
                          clear HJ hts
                          cases hn : noB s with
                          | true =>
                            rw [hn] at e1 EO
                            have HT := hide (unhide HJN (by rw [unhide EO]; rfl))
                            clear HNS HJB HJN EO hn
                            go_wp2
                            go_roundg (H.length - (j + 1))
                            case measure => omega
                            case rel => exact ⟨rfl, j + 1, by omega, rfl, by go_num, HT⟩
                          | false =>
                            rw [hn] at e1 EO
                            have eo : orB s = nameB s := by rw [unhide EO]; rfl
                            rw [eo] at HJB HJN
                            generalize nameB s = z at *
                            clear EO eo hn
                            go_wp2_with fail
                            refine (unhide HNS _).mono ?_
                            rintro e w5 ⟨rfl, h9⟩
                            subst h9
                            clear HNS
                            cases z with
                            | true =>
                              have HT := hide (unhide HJN (by simp))
                              go_wp2
                              go_roundg (H.length - (j + 1))
                              case measure => omega
                              case rel => exact ⟨rfl, j + 1, by omega, rfl, by go_num, HT⟩
                            | false =>
                              have HB := hide (unhide HJB (by simp))
                              go_wp2
                              go_ret
                              exact ⟨by rw [unhide HB]; rfl, unhide HWA⟩
                        · have HT := hide (unhide HDN (by rw [← unhide HR1]; exact all_true (d := default) fun i hi => unhide HJ i (by omega)))
                          clear HJ
                          go_wp2
                          go_roundg (L.length - (k + 1))
                          case measure => omega
                          case rel => exact ⟨k + 1, by omega, rfl, by go_num, HWA, HOA, HT⟩
                    · have d7 : ((m : Int) != mn) = true := by simp; exact h7
                      have h8 : decide ((H.length : Int) = mn) = false := by rw [hmH0]; simpa using h7
                      clear h7 hmH0
                      have HB : Hid (bookB (L, F) = false) := unhide HRK (by rw [unhide ERW, unhide EBL]; simp [h8])
                      refine wp_region_quiet_lit (by kernel_rfl) (by kernel_rfl) ?_
                      repeat (go_big_quiet_step (fail))
                      go_big_quiet_want
                      go_big_quiet_op
                      go_big_quiet_call (exact Calls.quiet_of_same (unhide Q1 _))
                      repeat (go_big_quiet_step (fail))
                      go_big_quiet_want
                      go_big_quiet_op
                      go_big_quiet_call (exact Calls.quiet_of_same (unhide Q3 _))
                      repeat (go_big_quiet_step (fail))
                      go_big_quiet_want
                      go_big_quiet_op
                      go_big_quiet_call (exact Calls.quiet_of_same (unhide Q5 _))
                      repeat (go_big_quiet_step (fail))
                      go_big_quiet_want
                      go_big_quiet_op
                      go_big_quiet_call (exact Calls.quiet_of_same (unhide Q6 _))
                      repeat (go_big_quiet_step (fail))
                      refine wpQuiet_nil ?_
                      intro _ hw'
                      obtain ⟨nq, hw''⟩ := hw'
                      subst hw''
                      go_wp2
                      go_ret
                      exact ⟨by rw [unhide HB]; rfl, below_drewN (unhide HWA) _⟩
          · have h2 : decide (xj < xi) = false := by simpa using hlt
            have dge : decide (xi ≤ xj) = true := by rw [decide_eq_true_eq]; omega
            clear hlt
            have HB : Hid (bookB (L, F) = false) := unhide HRK (by rw [unhide ERW, unhide EBL]; simp [h2, dkk])
            refine wp_region_quiet_lit (by kernel_rfl) (by kernel_rfl) ?_
            repeat (go_big_quiet_step (fail))
            go_big_quiet_want
            go_big_quiet_op
            go_big_quiet_call (exact Calls.quiet_of_same (unhide Q1 _))
            repeat (go_big_quiet_step (fail))
            refine wpQuiet_nil ?_
            intro _ hw'
            obtain ⟨nq, hw''⟩ := hw'
            subst hw''
            go_wp2
            go_ret
            exact ⟨by rw [unhide HB]; rfl, below_drewN (unhide HWA) _⟩
    · clear HRW HIn HNM
      have HD0 := hide fun r hr => unhide HD r (show r < k by omega)
      have HFA := hide fun h2 => unhide HALL (fun r (hr : r < L.length) => unhide HD0 r (by omega)) h2
      clear HALL HD HD0
      have q1 := (unhide HO).cell (i := 1) rfl
      go_wp2
      generalize wr = wq at *
      go_loopg [6] F.length (fun g iv wx => ∃ j : Nat, j ≤ F.length ∧ g = F.length - j ∧ iv = .int .i64 j ∧ Hid (Below w.heap.size w wx) ∧ Hid (OwnV wx gb [.slice (ao) L.length cap, .slice fo F.length fcap]) ∧ Hid (∀ r, r < j → frow1 L F r = true))
      case atStart => exact ⟨0, Nat.zero_le _, rfl, rfl, HW, HO, fun r hr => by omega⟩
      case round =>
        obtain ⟨j, hj, rfl, rfl, HW, HO, HJ⟩ := hrel
        clear q0 q1
        have q0 := (unhide HO).cell (i := 0) rfl
        have q1 := (unhide HO).cell (i := 1) rfl
        by_cases hjn : j < F.length
        · obtain ⟨bb, o, rfl, hcell⟩ := intAt (unhide HF) hjn
          have hji : (j : Int) < F.length := by omega
          have HJB := hide (unhide HFR j hjn)
          have HJN : Hid (frow1 L F j = true → ∀ r, r < j + 1 → frow1 L F r = true) := fun h r hr => by
            by_cases e : r = j
            · rw [e]; exact h
            · exact unhide HJ r (by omega)
          have EF : Hid (frow1 L F j = (hasB L (F.getD j 0) && (decide (j = 0) || decide (F.getD (j - 1) 0 < F.getD j 0)))) := rfl
          rw [has_fnd] at EF
          have HFN := hide fun x' : Gr wr => l14Find_any _ _ (L, F) (F.getD j 0) x'.val ((unhide HBK).below (Below.step (unhide HW) x'.ok))
          have r0 := fun x' : Gr wr => gr_cell q0 x'
          have r1 := fun x' : Gr wr => gr_cell q1 x'
          have r2 := fun x' : Gr wr => gr_cell (wcell3 hcell (unhide HW)) x'
          generalize F.getD j 0 = y at *
          dsimp only at HFN
          generalize fnd L y = f at *
          unfold vBook at HFN
          have gsome := gr_some wr
          clear hcell HJ

          by_cases hf0 : f < 0
          · have df : decide (f < 0) = true := by simpa using hf0
            have dg : decide (0 ≤ f) = false := by rw [decide_eq_false_iff_not]; omega
            clear hf0
            have HB : Hid (bookB (L, F) = false) := unhide HJB (by rw [unhide EF]; simp [dg])
            go_wp2
            refine wp_region_grown (by kernel_rfl) (by kernel_rfl) ?_
            repeat (go_big_quiet_step (fail))
            go_big_quiet_want
            go_big_quiet_op
            go_big_quiet_call (exact calls_grown (unhide HFN _))
            repeat (go_big_quiet_step (fail))
            refine wpQuiet_nil ?_
            intro w6 hw6
            obtain ⟨z', hz⟩ := hw6
            have hb6 : Below wr.heap.size wr w6 := hz ▸ z'.ok
            clear hz gsome
            go_wp2
            go_ret
            exact ⟨by rw [unhide HB]; rfl, Below.step (unhide HW) hb6⟩
          · have df : decide (f < 0) = false := by simpa using hf0
            have dg : decide (0 ≤ f) = true := by rw [decide_eq_true_eq]; omega
            clear hf0
            by_cases hk0 : j = 0
            · have dk : decide (0 < (j : Int)) = false := by rw [decide_eq_false_iff_not]; omega
              have dkN : decide (0 < j) = false := by rw [decide_eq_false_iff_not]; omega
              have dkk : decide (j = 0) = true := by simpa using hk0
              clear hk0
              have HT := hide (unhide HJN (by rw [unhide EF]; simp [dg, dkk]))
              go_wp2
              refine wp_region_grown (by kernel_rfl) (by kernel_rfl) ?_
              repeat (go_big_quiet_step (fail))
              go_big_quiet_want
              go_big_quiet_op
              go_big_quiet_call (exact calls_grown (unhide HFN _))
              repeat (go_big_quiet_step (fail))
              refine wpQuiet_nil ?_
              intro w6 hw6
              obtain ⟨z', hz⟩ := hw6
              have hb6 : Below wr.heap.size wr w6 := hz ▸ z'.ok
              clear hz gsome
              go_wp2
              go_roundg (F.length - (j + 1))
              case measure => omega
              case rel => exact ⟨j + 1, by omega, rfl, by go_num, hide (Below.step (unhide HW) hb6), hide ((unhide HO).step hb6), HT⟩
            · obtain ⟨j0, hj0⟩ : ∃ i : Nat, (j : Int) - 1 = i := ⟨j - 1, by omega⟩
              have hj1 : j0 < F.length := by omega
              have hj2 : j - 1 = j0 := by omega
              have dk : decide (0 < (j : Int)) = true := by rw [decide_eq_true_eq]; omega
              have dkN : decide (0 < j) = true := by rw [decide_eq_true_eq]; omega
              have dkk : decide (j = 0) = false := by simpa using hk0
              have qj : IntKind.i64.wrap ((j : Int) - 1) = (j0 : Int) := by rw [hj0, IntKind.wrap_i64]; omega
              have hj3 : (j0 : Int) < F.length := by omega
              obtain ⟨b9, o9, e9, hcj⟩ := intAt (unhide HF) hj1
              simp only [Option.some.injEq, Addr.mk.injEq, and_true] at e9
              obtain ⟨rfl, rfl⟩ := e9
              have rj := fun x' : Gr wr => gr_cell (wcell3 hcj (unhide HW)) x'
              rw [hj2] at EF
              generalize F.getD j0 0 = yj at *
              clear hcj hj2 hk0
              by_cases hlt : yj < y
              · have h2 : decide (yj < y) = true := by simpa using hlt
                have dge : decide (y ≤ yj) = false := by rw [decide_eq_false_iff_not]; omega
                clear hlt
                have HT := hide (unhide HJN (by rw [unhide EF]; simp [dg, h2]))
                go_wp2
                refine wp_region_grown (by kernel_rfl) (by kernel_rfl) ?_
                repeat (go_big_quiet_step (fail))
                go_big_quiet_want
                go_big_quiet_op
                go_big_quiet_call (exact calls_grown (unhide HFN _))
                repeat (go_big_quiet_step (fail))
                refine wpQuiet_nil ?_
                intro w6 hw6
                obtain ⟨z', hz⟩ := hw6
                have hb6 : Below wr.heap.size wr w6 := hz ▸ z'.ok
                clear hz gsome
                go_wp2
                go_roundg (F.length - (j + 1))
                case measure => omega
                case rel => exact ⟨j + 1, by omega, rfl, by go_num, hide (Below.step (unhide HW) hb6), hide ((unhide HO).step hb6), HT⟩
              · have h2 : decide (yj < y) = false := by simpa using hlt
                have dge : decide (y ≤ yj) = true := by rw [decide_eq_true_eq]; omega
                clear hlt
                have HB : Hid (bookB (L, F) = false) := unhide HJB (by rw [unhide EF]; simp [h2, dkk])
                go_wp2
                refine wp_region_grown (by kernel_rfl) (by kernel_rfl) ?_
                repeat (go_big_quiet_step (fail))
                go_big_quiet_want
                go_big_quiet_op
                go_big_quiet_call (exact calls_grown (unhide HFN _))
                repeat (go_big_quiet_step (fail))
                refine wpQuiet_nil ?_
                intro w6 hw6
                obtain ⟨z', hz⟩ := hw6
                have hb6 : Below wr.heap.size wr w6 := hz ▸ z'.ok
                clear hz gsome
                go_wp2
                go_ret
                exact ⟨by rw [unhide HB]; rfl, Below.step (unhide HW) hb6⟩
        · have HE := hide (unhide HFA (fun r hr => unhide HJ r (by omega)))
          clear HJ
          go_wp2
          go_ret
          exact ⟨by rw [unhide HE]; show Ending.returned (.bool (decide ((L.length : Int) ≤ 30))) = _; congr 2; exact decide_eq_decide.2 (by omega), unhide HW⟩

end Go.Proofs.Ytdcbonfhakdhhaa

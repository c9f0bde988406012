/- Bills: contracts of cmp.Less, slices.BinarySearch at int, and of the program's isFreed, freedOk, BookOk. -/
import Derived.Test.YtdcbonfhakdhhaaBlE
namespace Go.Proofs.Ytdcbonfhakdhhaa
open Go.RowKit

set_option maxHeartbeats 400000 in
theorem lessInt_any (x y : Int) (w : World) : Calls Try.prog 92 #[.int .i64 x, .int .i64 y] w fun e w' => e = .returned (.bool (decide (x < y))) ∧ w = w' := by
  have HN : Hid (∀ z W, Calls Try.prog 91 #[.int .i64 z] W fun e w' => e = .returned (.bool false) ∧ W = w') := fun z W => by
    go_enter Try.func91, Try.ntmps91
    go_wp2
    go_ret
    exact ⟨ret_bool (by simp), rfl⟩
  go_enter Try.func92, Try.ntmps92
  go_wp2_with (go_at_call 91; refine (unhide HN _ _).mono ?_; rintro e w' ⟨rfl, rfl⟩)
  go_ret
  exact ⟨rfl, rfl⟩

set_option maxRecDepth 100000 in
set_option maxHeartbeats 3200000 in
theorem bsInt_any (ao : Option Addr) (m cap : Nat) (F : List Int) (id : Int) (w : World) (h : IntsIn w (.slice ao m cap) F) (hs : m ≤ 1048576) (ha : ∀ r s, r < s → s < F.length → F.getD r 0 < F.getD s 0) :
    Calls Try.prog 79 #[.slice ao m cap, .int .i64 id] w fun e w' => e = .returned (.tuple #[.int .i64 (fplc F id : Nat), .bool (F.contains id)]) ∧ w' = w := by
  obtain ⟨hm, hc1, hc2⟩ := h.len
  unfold maxLen at hc2
  have HN : Hid (∀ z W, Calls Try.prog 93 #[.int .i64 z] W fun e w' => e = .returned (.bool false) ∧ W = w') := fun z W => by
    go_enter Try.func93, Try.ntmps93
    go_wp2
    go_ret
    exact ⟨ret_bool (by simp), rfl⟩
  have HC := hide h
  have HA := hide ha
  have EM := hide hm
  have Q1 := hide fun x V => lessInt_any x id V
  obtain ⟨P, eP⟩ : ∃ z, z = fplc F id := ⟨_, rfl⟩
  obtain ⟨B, eB⟩ : ∃ z, z = F.contains id := ⟨_, rfl⟩
  rw [← eP, ← eB]
  rw [has_asc ha, ← eP] at eB
  have EP := hide eP
  have EB := hide eB
  clear eP eB hm h ha
  go_enter Try.func79, Try.ntmps79
  go_wp2
  go_loopg [7, 8] m (fun kx s9 s10 wr => ∃ lo hi : Nat, s9 = .int .i64 lo ∧ s10 = .int .i64 hi ∧ lo ≤ hi ∧ hi ≤ m ∧ hi - lo ≤ kx ∧ wr = w ∧ Hid ((∀ t, t < lo → F.getD t 0 < id) ∧ (∀ t, hi ≤ t → t < m → id ≤ F.getD t 0)))
  case atStart => exact ⟨0, m, rfl, rfl, Nat.zero_le _, Nat.le_refl _, by omega, rfl, ⟨fun t ht => by omega, fun t h1 h2 => by omega⟩⟩
  case round =>
    obtain ⟨lo, hi, rfl, rfl, hlh, hin, hg, rfl, HI⟩ := hrel
    by_cases hlt : lo < hi
    · obtain ⟨k, ek⟩ : ∃ k, k = (lo + hi) / 2 := ⟨_, rfl⟩
      have hkm : k < m := by omega
      obtain ⟨bb, o, rfl, hc0⟩ := intAt (unhide HC) hkm
      have HLo : Hid (F.getD k 0 < id → ∀ t, t < k + 1 → F.getD t 0 < id) := fun h t ht => by
        by_cases e : t = k
        · rw [e]; exact h
        · have := unhide HA t k (by omega) (by rw [unhide EM]; exact hkm)
          omega
      have HHi : Hid (¬ F.getD k 0 < id → ∀ t, k ≤ t → t < m → id ≤ F.getD t 0) := fun h t h1 h2 => by
        by_cases e : t = k
        · rw [e]; omega
        · have := unhide HA k t (by omega) (by rw [unhide EM]; exact h2)
          omega
      rw [ek] at hc0
      rw [ek] at HLo HHi
      generalize F.getD ((lo + hi) / 2) 0 = xi at *
      have EK := hide ek
      have Q2 := hide fun V => unhide Q1 xi V
      clear ek
      by_cases hx : xi < id
      · rw [decide_eq_true hx] at Q2
        have HL := hide (unhide HLo hx)
        clear hx HLo HHi
        go_wp2_with fail
        refine (unhide Q2 _).mono ?_
        rintro e w1 ⟨rfl, h9⟩
        subst h9
        clear Q2
        go_wp2
        go_roundg (hi - ((lo + hi) / 2 + 1))
        case measure => omega
        case rel => exact ⟨(lo + hi) / 2 + 1, hi, by rw [show ((lo : Int) + (hi : Int)) / 2 + 1 = (((lo + hi) / 2 + 1 : Nat) : Int) by omega], rfl, by omega, hin, Nat.le_refl _, rfl, ⟨fun t ht => unhide HL t ht, (unhide HI).2⟩⟩
      · rw [decide_eq_false hx] at Q2
        have HL := hide (unhide HHi hx)
        clear hx HLo HHi
        go_wp2_with fail
        refine (unhide Q2 _).mono ?_
        rintro e w1 ⟨rfl, h9⟩
        subst h9
        clear Q2
        go_wp2
        go_roundg ((lo + hi) / 2 - lo)
        case measure => omega
        case rel => exact ⟨lo, (lo + hi) / 2, rfl, by rw [show ((lo : Int) + (hi : Int)) / 2 = (((lo + hi) / 2 : Nat) : Int) by omega], by omega, by omega, Nat.le_refl _, rfl, ⟨(unhide HI).1, fun t ht htn => unhide HL t ht htn⟩⟩
    · obtain rfl : hi = lo := by omega
      have hP : P = hi := by
        rw [unhide EP]
        exact fplc_mk (by rw [unhide EM]; exact hin) (unhide HI).1 (fun h => (unhide HI).2 hi (Nat.le_refl _) (by rw [← unhide EM]; exact h))
      subst hP
      by_cases hn : P < m
      · obtain ⟨bb, o, rfl, hc0⟩ := intAt (unhide HC) hn
        have hBv : B = decide (F.getD P 0 = id) := by
          rw [unhide EB, decide_eq_true (by rw [unhide EM]; exact hn), Bool.true_and]
        generalize F.getD P 0 = xi at *
        have hni : (P : Int) < m := by omega
        have HBV := hide hBv
        clear hBv
        by_cases hx : xi = id
        · subst hx
          go_wp2
          go_ret2
          exact ⟨by rw [unhide HBV]; simp, rfl⟩
        · have dc : (xi == id) = false := by simpa using hx
          have HBf : Hid (B = false) := by show _ = _; rw [unhide HBV]; simpa using hx
          clear hx HBV
          go_wp2_with (go_at_call 93; refine (unhide HN _ _).mono ?_; rintro e w' ⟨rfl, rfl⟩)
          go_ret2
          exact ⟨by rw [unhide HBf]; rfl, rfl⟩
      · have HBf : Hid (B = false) := by
          show _ = _
          rw [unhide EB, decide_eq_false (by rw [unhide EM]; exact hn), Bool.false_and]
        have hni : ¬ (P : Int) < m := by omega
        go_wp2
        go_ret2
        exact ⟨by rw [unhide HBf]; rfl, rfl⟩

set_option maxHeartbeats 1600000 in
theorem isFreed_any (bv fv : Value) (b : BkT) (id : Int) (w : World) (h : BkIn w bv fv b) (hs : b.2.length ≤ 1048576) (ha : ∀ r s, r < s → s < b.2.length → b.2.getD r 0 < b.2.getD s 0) :
    Calls Try.prog 46 #[vBook bv fv, .int .i64 id] w fun e w' => e = .returned (.bool (b.2.contains id)) ∧ Below w.heap.size w w' := by
  obtain ⟨L, F⟩ := b
  dsimp only at hs ha
  obtain ⟨h, hF⟩ := h
  have hF' := hF
  obtain ⟨ao, cap, rfl, -⟩ := h
  obtain ⟨fo, fcap, rfl, -⟩ := hF'
  dsimp only at hF ⊢
  have A := Below.alloc1 w (.cells #[.slice ao L.length cap, .slice fo F.length fcap] 27)
  have HQ := hide (bsInt_any fo F.length fcap F id _ (hF.below A) hs ha)
  have HW := hide A
  clear A hF ha
  unfold vBook
  generalize fplc F id = P at *
  generalize F.contains id = B at *
  go_enter Try.func46, Try.ntmps46
  go_wp2_with fail
  refine (unhide HQ).mono ?_
  rintro e w1 ⟨rfl, rfl⟩
  go_wp2
  go_ret
  exact ⟨rfl, unhide HW⟩

theorem at_has {L : List BlT} (ha : ∀ r s, r < s → s < L.length → bId L r < bId L s) (id : Int) : atB L id = hasB L id := by
  rw [has_fnd, fnd_asc ha, atB]
  by_cases h : plc L id < L.length ∧ bId L (plc L id) = id
  · rw [if_pos h, decide_eq_true h.1, decide_eq_true h.2, decide_eq_true (by omega)]
    rfl
  · rw [if_neg h, ← Bool.decide_and, decide_eq_false h]
    rfl

set_option maxRecDepth 10000 in
set_option maxHeartbeats 3200000 in
theorem freedOk_any (bv fv : Value) (b : BkT) (w : World) (h : BkIn w bv fv b) (hs : b.1.length ≤ 1048576) (ha : ∀ r s, r < s → s < b.1.length → bId b.1 r < bId b.1 s) :
    Calls Try.prog 44 #[vBook bv fv] w fun e w' => e = .returned (.bool (frB b.1 b.2)) ∧ Below w.heap.size w w' := by
  obtain ⟨L, F⟩ := b
  dsimp only at hs ha ⊢
  have HBK := hide h
  obtain ⟨h, hF⟩ := h
  have hF' := hF
  obtain ⟨ao, cap, rfl, -⟩ := h
  obtain ⟨fo, fcap, rfl, hfl, hfm, -⟩ := hF'
  dsimp only at hF hfl ⊢
  unfold maxLen at hfm
  have A := Below.alloc1 w (.cells #[.slice ao L.length cap, .slice fo F.length fcap] 27)
  have HO := hide (ownV_alloc w #[.slice ao L.length cap, .slice fo F.length fcap] 27)
  have HF := hide hF
  have HW := hide A
  have HAT := hide fun y V (hV : Below w.heap.size w V) => billAt_any _ _ (L, F) y V ((unhide HBK).below hV) hs ha
  have HHS := hide fun y => at_has ha y
  have HBD : Hid (∀ j, j < F.length → frow1 L F j = false → frB L F = false) := fun j hj h => range_not hj h
  have HGD : Hid ((∀ j, j < F.length → frow1 L F j = true) → frB L F = true) := fun h => range_all h
  clear A hF ha
  unfold vBook at HAT ⊢
  generalize frB L F = Z at *
  go_enter Try.func44, Try.ntmps44
  go_wp2
  obtain ⟨V, eV⟩ : ∃ V, V = w.alloc (.cells #[.slice ao L.length cap, .slice fo F.length fcap] 27) := ⟨_, rfl⟩
  rw [← eV] at HO HW ⊢
  clear eV
  obtain ⟨gb, egb⟩ : ∃ g, g = w.heap.size := ⟨_, rfl⟩
  rw [← egb] at HO ⊢
  clear egb
  go_loopg [10] F.length (fun g iv wr => ∃ j : Nat, j ≤ F.length ∧ g = F.length - j ∧ iv = .int .i64 j ∧ Hid (Below w.heap.size w wr) ∧ Hid (OwnV wr gb [.slice ao L.length cap, .slice fo F.length fcap]) ∧ Hid (∀ r, r < j → frow1 L F r = true))
  case atStart => exact ⟨0, Nat.zero_le _, rfl, rfl, HW, HO, fun r hr => by omega⟩
  case round =>
    clear HW HO
    obtain ⟨j, hj, rfl, rfl, HW, HO, HJ⟩ := hrel
    have q0 := (unhide HO).cell (i := 0) rfl
    have q1 := (unhide HO).cell (i := 1) rfl
    by_cases hjn : j < F.length
    · obtain ⟨bb, o, rfl, hcell⟩ := intAt (unhide HF) hjn
      have hji : (j : Int) < F.length := by omega
      have HJB := hide (unhide HBD j hjn)
      have HJN : Hid (frow1 L F j = true → ∀ r, r < j + 1 → frow1 L F r = true) := fun h r hr => by
        by_cases e : r = j
        · rw [e]; exact h
        · exact unhide HJ r (by omega)
      have EF : Hid (frow1 L F j = (hasB L (F.getD j 0) && (decide (j = 0) || decide (F.getD (j - 1) 0 < F.getD j 0)))) := rfl
      have g1 := wcell3 hcell (unhide HW)
      generalize F.getD j 0 = y at *
      have HFN := hide fun V (hV : Below w.heap.size w V) => unhide HAT y V hV
      rw [unhide HHS y] at HFN
      generalize hasB L y = f at *
      generalize plc L y = pp at *
      clear hcell HJ
      go_wp2_with fail
      refine (unhide HFN _ (unhide HW)).mono ?_
      rintro e w1 ⟨rfl, hb⟩
      replace HW := hide (Below.step (unhide HW) hb)
      replace HO := hide ((unhide HO).step hb)
      clear hb HFN q0 q1 g1
      have q1 := (unhide HO).cell (i := 1) rfl
      cases f with
      | false =>
        have HB := hide (unhide HJB (by rw [unhide EF]; simp))
        go_wp2
        go_ret
        exact ⟨by rw [unhide HB]; rfl, unhide HW⟩
      | true =>
        by_cases hk0 : j = 0
        · have dk : decide (0 < (j : Int)) = false := by rw [decide_eq_false_iff_not]; omega
          have dkN : decide (0 < j) = false := by rw [decide_eq_false_iff_not]; omega
          have dkk : decide (j = 0) = true := by simpa using hk0
          have HT := hide (unhide HJN (by rw [unhide EF]; simp [dkk]))
          clear hk0 dkk
          go_wp2
          go_roundg (F.length - (j + 1))
          case measure => omega
          case rel => exact ⟨j + 1, by omega, rfl, by go_num, HW, HO, HT⟩
        · obtain ⟨j0, hj0⟩ : ∃ i : Nat, (j : Int) - 1 = i := ⟨j - 1, by omega⟩
          have hj1 : j0 < F.length := by omega
          have hj2 : j - 1 = j0 := by omega
          have dk : decide (0 < (j : Int)) = true := by rw [decide_eq_true_eq]; omega
          have dkN : decide (0 < j) = true := by rw [decide_eq_true_eq]; omega
          have dkk : decide (j = 0) = false := by simpa using hk0
          have qj : IntKind.i64.wrap ((j : Int) - 1) = (j0 : Int) := by rw [hj0, IntKind.wrap_i64]; omega
          have hj3 : (j0 : Int) < F.length := by omega
          obtain ⟨b9, o9, e9, hcj⟩ := intAt (unhide HF) hj1
          simp only [Option.some.injEq, Addr.mk.injEq, and_true] at e9
          obtain ⟨rfl, rfl⟩ := e9
          have rj := wcell3 hcj (unhide HW)
          rw [hj2] at EF
          generalize F.getD j0 0 = yj at *
          clear hcj hj2 hk0
          by_cases hlt : yj < y
          · have h2 : decide (yj < y) = true := by simpa using hlt
            have dge : decide (y ≤ yj) = false := by rw [decide_eq_false_iff_not]; omega
            have HT := hide (unhide HJN (by rw [unhide EF]; simp [h2]))
            clear hlt
            go_wp2
            go_roundg (F.length - (j + 1))
            case measure => omega
            case rel => exact ⟨j + 1, by omega, rfl, by go_num, HW, HO, HT⟩
          · have h2 : decide (yj < y) = false := by simpa using hlt
            have dge : decide (y ≤ yj) = true := by rw [decide_eq_true_eq]; omega
            have HB := hide (unhide HJB (by rw [unhide EF]; simp [h2, dkk]))
            clear hlt
            go_wp2
            go_ret
            exact ⟨by rw [unhide HB]; rfl, unhide HW⟩
    · have HE := hide (unhide HGD (fun r hr => unhide HJ r (by omega)))
      clear HJ
      go_wp2
      go_ret
      exact ⟨by rw [unhide HE]; rfl, unhide HW⟩

end Go.Proofs.Ytdcbonfhakdhhaa

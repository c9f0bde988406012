/- Names: contracts of the program's isNameByte, isName, isNameOrEmpty, isMany and of the specification's l1Name. Written by wip/mkblb.py. -/
import Derived.Test.YtdcbonfhakdhhaaBlM
namespace Go.Proofs.Ytdcbonfhakdhhaa
open Go.RowKit

set_option maxHeartbeats 1600000 in
theorem isNameByte_any (b : Int) (w : World) (h0 : 0 ≤ b) (h1 : b < 256) : Calls Try.prog 90 #[.int .u8 b] w fun e w' => e = .returned (.bool (nmC b)) ∧ w' = w := by
  have hc : b < 45 ∨ b = 45 ∨ (45 < b ∧ b < 48) ∨ (48 ≤ b ∧ b ≤ 57) ∨ (57 < b ∧ b < 65) ∨ (65 ≤ b ∧ b ≤ 90) ∨ (90 < b ∧ b < 97) ∨ (97 ≤ b ∧ b ≤ 122) ∨ 122 < b := by omega
  have EN : Hid (nmC b = (inB b 97 122 || inB b 65 90 || inB b 48 57 || decide (b = 45))) := rfl
  rcases hc with hc | hc | hc | hc | hc | hc | hc | hc | hc
  · have ev : nmC b = false := by rw [unhide EN]; simp [inB]; omega
    have d0 : decide (97 ≤ b) = false := by rw [decide_eq_false_iff_not]; omega
    have d1 : decide (b ≤ 122) = true := by rw [decide_eq_true_eq]; omega
    have d2 : decide (65 ≤ b) = false := by rw [decide_eq_false_iff_not]; omega
    have d3 : decide (b ≤ 90) = true := by rw [decide_eq_true_eq]; omega
    have d4 : decide (48 ≤ b) = false := by rw [decide_eq_false_iff_not]; omega
    have d5 : decide (b ≤ 57) = true := by rw [decide_eq_true_eq]; omega
    have d6 : decide (b = 45) = false := by rw [decide_eq_false_iff_not]; omega
    have d7 : (b == 45) = false := by simp; omega
    go_enter Try.func90, Try.ntmps90
    go_wp2
    go_ret
    exact ⟨by rw [ev]; rfl, rfl⟩
  · have ev : nmC b = true := by rw [unhide EN]; simp [inB]; omega
    have d0 : decide (97 ≤ b) = false := by rw [decide_eq_false_iff_not]; omega
    have d1 : decide (b ≤ 122) = true := by rw [decide_eq_true_eq]; omega
    have d2 : decide (65 ≤ b) = false := by rw [decide_eq_false_iff_not]; omega
    have d3 : decide (b ≤ 90) = true := by rw [decide_eq_true_eq]; omega
    have d4 : decide (48 ≤ b) = false := by rw [decide_eq_false_iff_not]; omega
    have d5 : decide (b ≤ 57) = true := by rw [decide_eq_true_eq]; omega
    have d6 : decide (b = 45) = true := by rw [decide_eq_true_eq]; omega
    have d7 : (b == 45) = true := by simp; omega
    go_enter Try.func90, Try.ntmps90
    go_wp2
    go_ret
    exact ⟨by rw [ev]; rfl, rfl⟩
  · have ev : nmC b = false := by rw [unhide EN]; simp [inB]; omega
    have d0 : decide (97 ≤ b) = false := by rw [decide_eq_false_iff_not]; omega
    have d1 : decide (b ≤ 122) = true := by rw [decide_eq_true_eq]; omega
    have d2 : decide (65 ≤ b) = false := by rw [decide_eq_false_iff_not]; omega
    have d3 : decide (b ≤ 90) = true := by rw [decide_eq_true_eq]; omega
    have d4 : decide (48 ≤ b) = false := by rw [decide_eq_false_iff_not]; omega
    have d5 : decide (b ≤ 57) = true := by rw [decide_eq_true_eq]; omega
    have d6 : decide (b = 45) = false := by rw [decide_eq_false_iff_not]; omega
    have d7 : (b == 45) = false := by simp; omega
    go_enter Try.func90, Try.ntmps90
    go_wp2
    go_ret
    exact ⟨by rw [ev]; rfl, rfl⟩
  · have ev : nmC b = true := by rw [unhide EN]; simp [inB]; omega
    have d0 : decide (97 ≤ b) = false := by rw [decide_eq_false_iff_not]; omega
    have d1 : decide (b ≤ 122) = true := by rw [decide_eq_true_eq]; omega
    have d2 : decide (65 ≤ b) = false := by rw [decide_eq_false_iff_not]; omega
    have d3 : decide (b ≤ 90) = true := by rw [decide_eq_true_eq]; omega
    have d4 : decide (48 ≤ b) = true := by rw [decide_eq_true_eq]; omega
    have d5 : decide (b ≤ 57) = true := by rw [decide_eq_true_eq]; omega
    have d6 : decide (b = 45) = false := by rw [decide_eq_false_iff_not]; omega
    have d7 : (b == 45) = false := by simp; omega
    go_enter Try.func90, Try.ntmps90
    go_wp2
    go_ret
    exact ⟨by rw [ev]; rfl, rfl⟩
  · have ev : nmC b = false := by rw [unhide EN]; simp [inB]; omega
    have d0 : decide (97 ≤ b) = false := by rw [decide_eq_false_iff_not]; omega
    have d1 : decide (b ≤ 122) = true := by rw [decide_eq_true_eq]; omega
    have d2 : decide (65 ≤ b) = false := by rw [decide_eq_false_iff_not]; omega
    have d3 : decide (b ≤ 90) = true := by rw [decide_eq_true_eq]; omega
    have d4 : decide (48 ≤ b) = true := by rw [decide_eq_true_eq]; omega
    have d5 : decide (b ≤ 57) = false := by rw [decide_eq_false_iff_not]; omega
    have d6 : decide (b = 45) = false := by rw [decide_eq_false_iff_not]; omega
    have d7 : (b == 45) = false := by simp; omega
    go_enter Try.func90, Try.ntmps90
    go_wp2
    go_ret
    exact ⟨by rw [ev]; rfl, rfl⟩
  · have ev : nmC b = true := by rw [unhide EN]; simp [inB]; omega
    have d0 : decide (97 ≤ b) = false := by rw [decide_eq_false_iff_not]; omega
    have d1 : decide (b ≤ 122) = true := by rw [decide_eq_true_eq]; omega
    have d2 : decide (65 ≤ b) = true := by rw [decide_eq_true_eq]; omega
    have d3 : decide (b ≤ 90) = true := by rw [decide_eq_true_eq]; omega
    have d4 : decide (48 ≤ b) = true := by rw [decide_eq_true_eq]; omega
    have d5 : decide (b ≤ 57) = false := by rw [decide_eq_false_iff_not]; omega
    have d6 : decide (b = 45) = false := by rw [decide_eq_false_iff_not]; omega
    have d7 : (b == 45) = false := by simp; omega
    go_enter Try.func90, Try.ntmps90
    go_wp2
    go_ret
    exact ⟨by rw [ev]; rfl, rfl⟩
  · have ev : nmC b = false := by rw [unhide EN]; simp [inB]; omega
    have d0 : decide (97 ≤ b) = false := by rw [decide_eq_false_iff_not]; omega
    have d1 : decide (b ≤ 122) = true := by rw [decide_eq_true_eq]; omega
    have d2 : decide (65 ≤ b) = true := by rw [decide_eq_true_eq]; omega
    have d3 : decide (b ≤ 90) = false := by rw [decide_eq_false_iff_not]; omega
    have d4 : decide (48 ≤ b) = true := by rw [decide_eq_true_eq]; omega
    have d5 : decide (b ≤ 57) = false := by rw [decide_eq_false_iff_not]; omega
    have d6 : decide (b = 45) = false := by rw [decide_eq_false_iff_not]; omega
    have d7 : (b == 45) = false := by simp; omega
    go_enter Try.func90, Try.ntmps90
    go_wp2
    go_ret
    exact ⟨by rw [ev]; rfl, rfl⟩
  · have ev : nmC b = true := by rw [unhide EN]; simp [inB]; omega
    have d0 : decide (97 ≤ b) = true := by rw [decide_eq_true_eq]; omega
    have d1 : decide (b ≤ 122) = true := by rw [decide_eq_true_eq]; omega
    have d2 : decide (65 ≤ b) = true := by rw [decide_eq_true_eq]; omega
    have d3 : decide (b ≤ 90) = false := by rw [decide_eq_false_iff_not]; omega
    have d4 : decide (48 ≤ b) = true := by rw [decide_eq_true_eq]; omega
    have d5 : decide (b ≤ 57) = false := by rw [decide_eq_false_iff_not]; omega
    have d6 : decide (b = 45) = false := by rw [decide_eq_false_iff_not]; omega
    have d7 : (b == 45) = false := by simp; omega
    go_enter Try.func90, Try.ntmps90
    go_wp2
    go_ret
    exact ⟨by rw [ev]; rfl, rfl⟩
  · have ev : nmC b = false := by rw [unhide EN]; simp [inB]; omega
    have d0 : decide (97 ≤ b) = true := by rw [decide_eq_true_eq]; omega
    have d1 : decide (b ≤ 122) = false := by rw [decide_eq_false_iff_not]; omega
    have d2 : decide (65 ≤ b) = true := by rw [decide_eq_true_eq]; omega
    have d3 : decide (b ≤ 90) = false := by rw [decide_eq_false_iff_not]; omega
    have d4 : decide (48 ≤ b) = true := by rw [decide_eq_true_eq]; omega
    have d5 : decide (b ≤ 57) = false := by rw [decide_eq_false_iff_not]; omega
    have d6 : decide (b = 45) = false := by rw [decide_eq_false_iff_not]; omega
    have d7 : (b == 45) = false := by simp; omega
    go_enter Try.func90, Try.ntmps90
    go_wp2
    go_ret
    exact ⟨by rw [ev]; rfl, rfl⟩

theorem ix_any (s : ByteArray) (p : Nat) (hp : p < s.size) (hm : s.size ≤ maxLen) : ∀ V, (Instr.index 9 (.string s) (.int .i64 p)).run Try.prog V = .ok (.int .u8 (byt s p)) V := fun V => by
  have hk := hm
  unfold maxLen at hk
  rw [run_index_string V _ _ _ _ Try.underlying9, dif_pos (by omega)]
  simp only [Int.toNat_natCast]
  rw [byt_eq s p hp]

set_option maxHeartbeats 1600000 in
theorem isName_any (s : ByteArray) (w : World) : Calls Try.prog 73 #[.string s] w fun e w' => e = .returned (.bool (nameB s)) ∧ w' = w := by
  have HI := hide fun (b : Int) V h0 h1 => isNameByte_any b V h0 h1
  have HWi := hide fun V => within_any (s.size : Int) 1 20 V
  cases hin : inB s.size 1 20 with
  | false =>
    have HN := hide (name_len hin)
    rw [hin] at HWi
    clear hin
    go_enter Try.func73, Try.ntmps73
    go_wp2_with fail
    refine (unhide HWi _).mono ?_
    rintro e w1 ⟨rfl, rfl⟩
    go_wp2
    go_ret
    exact ⟨by rw [unhide HN]; rfl, rfl⟩
  | true =>
    obtain ⟨q1, q2⟩ := inB_true hin
    have HA : Hid ((∀ i, i < s.size → nmC (byt s i) = true) → nameB s = true) := fun h => (name_all h).trans hin
    rw [hin] at HWi
    have hsz : s.size ≤ 20 := by omega
    have hsm : s.size ≤ maxLen := by unfold maxLen; omega
    have HIX := hide fun p hp => ix_any s p hp hsm
    have HBad := hide fun i (hi : i < s.size) h => name_bad (s := s) hi h
    clear hin q1 q2 hsm
    obtain ⟨m, em⟩ : ∃ m : Nat, m = s.size := ⟨_, rfl⟩
    rw [← em] at hsz HA HIX HBad HWi
    have em' : s.size = m := em.symm
    go_enter Try.func73, Try.ntmps73
    clear em
    go_wp2_with fail
    refine (unhide HWi _).mono ?_
    rintro e w1 ⟨rfl, rfl⟩
    clear HWi
    go_wp2
    go_loopg [10] m (fun g iv wr => ∃ k : Nat, k ≤ m ∧ g = m - k ∧ iv = .int .i64 k ∧ wr = w1 ∧ Hid (∀ r, r < k → nmC (byt s r) = true))
    case atStart => exact ⟨0, Nat.zero_le _, rfl, rfl, rfl, fun r hr => by omega⟩
    case round =>
      obtain ⟨k, hk, rfl, rfl, rfl, HD⟩ := hrel
      by_cases hkn : k < m
      · have hix := unhide HIX k hkn
        have hbb := byt_bd s k
        have HB1 := hide (unhide HI (byt s k) wr hbb.1 hbb.2)
        have HBd := hide (unhide HBad k hkn)
        have HT : Hid (nmC (byt s k) = true → ∀ r, r < k + 1 → nmC (byt s r) = true) := fun h r hr => by
          by_cases e : r = k
          · rw [e]; exact h
          · exact unhide HD r (by omega)
        generalize byt s k = b at *
        have hki : (k : Int) < m := by omega
        obtain ⟨c, ec⟩ : ∃ c, c = nmC b := ⟨_, rfl⟩
        rw [← ec] at HB1 HBd HT
        clear ec hbb HD
        go_wp2_with fail
        refine (unhide HB1).mono ?_
        rintro e w2 ⟨rfl, h9⟩
        subst h9
        clear HB1
        cases c with
        | false =>
          go_wp2
          go_ret
          exact ⟨by rw [unhide HBd (by simp)]; rfl, rfl⟩
        | true =>
          go_wp2
          go_roundg (m - (k + 1))
          case measure => omega
          case rel => exact ⟨k + 1, by omega, rfl, by go_num, rfl, unhide HT (by simp)⟩
      · go_wp2
        go_ret
        exact ⟨by rw [unhide HA (fun i hi => unhide HD i (by omega))]; rfl, rfl⟩

set_option maxHeartbeats 400000 in
theorem isNameOrEmpty_any (s : ByteArray) (w : World) : Calls Try.prog 74 #[.string s] w fun e w' => e = .returned (.bool (orB s)) ∧ w' = w := by
  have HN := hide fun V => isName_any s V
  have EO : Hid (orB s = (noB s || nameB s)) := rfl
  have e0 := no_list s
  cases hc : noB s with
  | true =>
    rw [hc] at EO e0
    have ev : orB s = true := by rw [unhide EO]; rfl
    go_enter Try.func74, Try.ntmps74
    go_wp2
    go_ret
    exact ⟨by rw [ev]; rfl, rfl⟩
  | false =>
    rw [hc] at EO e0
    have ev : orB s = nameB s := by rw [unhide EO]; rfl
    rw [← ev] at HN
    generalize orB s = z at *
    clear ev EO hc
    go_enter Try.func74, Try.ntmps74
    go_wp2_with fail
    refine (unhide HN _).mono ?_
    rintro e w1 ⟨rfl, rfl⟩
    go_wp2
    go_ret
    exact ⟨rfl, rfl⟩

theorem isMany_any (x : Int) (w : World) : Calls Try.prog 75 #[.int .i64 x] w fun e w' => e = .returned (.bool (inB x 1 5)) ∧ w' = w := by
  have HN := hide fun V => within_any x 1 5 V
  go_enter Try.func75, Try.ntmps75
  go_wp2_with fail
  refine (unhide HN _).mono ?_
  rintro e w1 ⟨rfl, rfl⟩
  go_wp2
  go_ret
  exact ⟨rfl, rfl⟩

set_option maxHeartbeats 3200000 in
theorem specName_any (s : ByteArray) (w : World) (hm : s.size ≤ maxLen) : Calls Try.prog 70 #[.string s] w fun e w' => e = .returned (.bool (nameB s)) ∧ w' = w := by
  have HIn := hide fun (x a b : Int) V => l1In_any x a b V
  have HIX := hide fun p hp => ix_any s p hp hm
  have HBad := hide fun i (hi : i < s.size) h => name_bad (s := s) hi h
  have HA := hide fun h => name_all (s := s) h
  unfold maxLen at hm
  obtain ⟨m, em⟩ : ∃ m : Nat, m = s.size := ⟨_, rfl⟩
  rw [← em] at hm HIX HBad HA
  have em' : s.size = m := em.symm
  go_enter Try.func70, Try.ntmps70
  clear em
  go_wp2
  go_loopg [3] m (fun g iv wr => ∃ k : Nat, k ≤ m ∧ g = m - k ∧ iv = .int .i64 k ∧ wr = w ∧ Hid (∀ r, r < k → nmC (byt s r) = true))
  case atStart => exact ⟨0, Nat.zero_le _, rfl, rfl, rfl, fun r hr => by omega⟩
  case round =>
    obtain ⟨k, hk, rfl, rfl, rfl, HD⟩ := hrel
    by_cases hkn : k < m
    · have hix := unhide HIX k hkn
      have hbb := byt_bd s k
      have HBd := hide (unhide HBad k hkn)
      have HT : Hid (nmC (byt s k) = true → ∀ r, r < k + 1 → nmC (byt s r) = true) := fun h r hr => by
        by_cases e : r = k
        · rw [e]; exact h
        · exact unhide HD r (by omega)
      generalize byt s k = b at *
      obtain ⟨hb0, hb1⟩ := hbb
      have hki : (k : Int) < m := by omega
      have I1 := hide fun V => unhide HIn b 97 122 V
      have I2 := hide fun V => unhide HIn b 65 90 V
      have I3 := hide fun V => unhide HIn b 48 57 V
      have EC : Hid (nmC b = (inB b 97 122 || inB b 65 90 || inB b 48 57 || decide (b = 45))) := rfl
      generalize nmC b = c at *
      clear HD

      cases i1 : inB b 97 122 with
      | true =>
        rw [i1] at I1 EC
        clear i1
        go_wp2_with fail
        refine (unhide I1 _).mono ?_
        rintro e w1 ⟨rfl, h9⟩
        subst h9
        have ec : c = true := by rw [unhide EC]; simp
        go_wp2
        go_roundg (m - (k + 1))
        case measure => omega
        case rel => exact ⟨k + 1, by omega, rfl, by go_num, rfl, unhide HT ec⟩
      | false =>
        cases i2 : inB b 65 90 with
        | true =>
          rw [i1] at I1 EC
          rw [i2] at I2 EC
          clear i1 i2
          go_wp2_with fail
          refine (unhide I1 _).mono ?_
          rintro e w1 ⟨rfl, h9⟩
          subst h9
          go_wp2_with fail
          refine (unhide I2 _).mono ?_
          rintro e w2 ⟨rfl, h9⟩
          subst h9
          have ec : c = true := by rw [unhide EC]; simp
          go_wp2
          go_roundg (m - (k + 1))
          case measure => omega
          case rel => exact ⟨k + 1, by omega, rfl, by go_num, rfl, unhide HT ec⟩
        | false =>
          cases i3 : inB b 48 57 with
          | true =>
            rw [i1] at I1 EC
            rw [i2] at I2 EC
            rw [i3] at I3 EC
            clear i1 i2 i3
            go_wp2_with fail
            refine (unhide I1 _).mono ?_
            rintro e w1 ⟨rfl, h9⟩
            subst h9
            go_wp2_with fail
            refine (unhide I2 _).mono ?_
            rintro e w2 ⟨rfl, h9⟩
            subst h9
            go_wp2_with fail
            refine (unhide I3 _).mono ?_
            rintro e w3 ⟨rfl, h9⟩
            subst h9
            have ec : c = true := by rw [unhide EC]; simp
            go_wp2
            go_roundg (m - (k + 1))
            case measure => omega
            case rel => exact ⟨k + 1, by omega, rfl, by go_num, rfl, unhide HT ec⟩
          | false =>
            by_cases h45 : b = 45
            · subst h45
              rw [i1] at I1 EC
              rw [i2] at I2 EC
              rw [i3] at I3 EC
              clear i1 i2 i3
              go_wp2_with fail
              refine (unhide I1 _).mono ?_
              rintro e w1 ⟨rfl, h9⟩
              subst h9
              go_wp2_with fail
              refine (unhide I2 _).mono ?_
              rintro e w2 ⟨rfl, h9⟩
              subst h9
              go_wp2_with fail
              refine (unhide I3 _).mono ?_
              rintro e w3 ⟨rfl, h9⟩
              subst h9
              have ec : c = true := by rw [unhide EC]; simp
              go_wp2
              go_roundg (m - (k + 1))
              case measure => omega
              case rel => exact ⟨k + 1, by omega, rfl, by go_num, rfl, unhide HT ec⟩
            · have dn : (b != 45) = true := by simp; exact h45
              have dd : decide (b = 45) = false := by simp; exact h45
              rw [i1] at I1 EC
              rw [i2] at I2 EC
              rw [i3] at I3 EC
              rw [dd] at EC
              clear i1 i2 i3 dd
              go_wp2_with fail
              refine (unhide I1 _).mono ?_
              rintro e w1 ⟨rfl, h9⟩
              subst h9
              go_wp2_with fail
              refine (unhide I2 _).mono ?_
              rintro e w2 ⟨rfl, h9⟩
              subst h9
              go_wp2_with fail
              refine (unhide I3 _).mono ?_
              rintro e w3 ⟨rfl, h9⟩
              subst h9
              have ec : c = false := by rw [unhide EC]; simp
              go_wp2
              go_ret
              exact ⟨by rw [unhide HBd ec]; rfl, rfl⟩
    · have HWi := hide fun V => unhide HIn (m : Int) 1 20 V
      have HE := hide (unhide HA (fun i hi => unhide HD i (by omega)))
      clear HD HIn HA HBad HIX
      go_wp2_with fail
      refine (unhide HWi _).mono ?_
      rintro e w1 ⟨rfl, rfl⟩
      go_wp2
      go_ret
      exact ⟨by rw [unhide HE]; rfl, rfl⟩

end Go.Proofs.Ytdcbonfhakdhhaa

/- Boxes: contracts of what a letter counts, and of both CheckDigit. -/
import Derived.Test.YtnfdokcpjcnknaaBxM
import Derived.Laws.RangeAny
import Derived.Laws.ShiftsVarLaws
import Derived.LoopTactic
import Derived.Deep.QuietTactic
import Derived.BigQuiet
namespace Go.Proofs.Ytnfdokcpjcnknaa
open Go.RowKit

theorem ltr_zero : ltr 0 = 10 := rfl
theorem ltr_bd {j : Nat} (h : j ≤ 25) : 10 ≤ ltr j ∧ ltr j ≤ 38 := by unfold ltr; omega
theorem ltr_yes {j : Nat} (h : (ltr j + 1) % 11 = 0) : ltr (j + 1) = ltr j + 1 + 1 := by unfold ltr at *; omega
theorem ltr_no {j : Nat} (h : ¬ (ltr j + 1) % 11 = 0) : ltr (j + 1) = ltr j + 1 := by unfold ltr at *; omega

set_option maxHeartbeats 800000 in
theorem l11Letter_any (k : Nat) (w : World) (hk : k ≤ 25) :
    Calls Try.prog 77 #[.int .i64 k] w fun e w' => e = .returned (.int .i64 (ltr k)) ∧ w' = w := by
  go_enter Try.func77, Try.ntmps77
  go_wp2
  go_loopg [0, 3] k (fun g kv xv wr => ∃ j m : Nat, j + m = k ∧ g = m ∧ kv = .int .i64 m ∧ xv = .int .i64 (ltr j) ∧ wr = w)
  case atStart => exact ⟨0, k, by omega, rfl, rfl, rfl, rfl⟩
  case round =>
    obtain ⟨j, m, hj, hg, rfl, rfl, rfl⟩ := hrel
    have hg' := hg.symm
    subst hg'
    clear hg
    have HB := ltr_bd (show j ≤ 25 by omega)
    have HY : Hid ((ltr j + 1) % 11 = 0 → ltr (j + 1) = ltr j + 1 + 1) := ltr_yes
    have HN : Hid (¬ (ltr j + 1) % 11 = 0 → ltr (j + 1) = ltr j + 1) := ltr_no
    have HD : Hid (m = 0 → ltr k = ltr j) := fun h => by rw [← hj, h]; rfl
    have HJ := hide hj
    have hm25 : m ≤ 25 := by omega
    clear hj
    generalize ltr j = x at *
    obtain ⟨h1, h2⟩ := HB
    by_cases hm : 0 < m
    · have hmi : (0 : Int) < m := by omega
      have q1 : IntKind.i64.wrap ((m : Int) - 1) = ((m - 1 : Nat) : Int) := by rw [IntKind.wrap_i64]; omega
      by_cases hd : (x + 1) % 11 = 0
      · go_wp2
        go_roundg (m - 1)
        case measure => omega
        case rel => exact ⟨j + 1, m - 1, by have := unhide HJ; omega, rfl, by go_num, by rw [unhide HY hd], rfl⟩
      · go_wp2
        go_roundg (m - 1)
        case measure => omega
        case rel => exact ⟨j + 1, m - 1, by have := unhide HJ; omega, rfl, by go_num, by rw [unhide HN hd], rfl⟩
    · have hmi : ¬ (0 : Int) < m := by omega
      go_wp2
      go_ret
      exact ⟨by rw [unhide HD (by omega)]; rfl, rfl⟩

set_option maxHeartbeats 800000 in
theorem letterNumber_any (b : Int) (w : World) (h0 : 0 ≤ b) (hb : b ≤ 2147483647) :
    Calls Try.prog 80 #[.int .i32 b] w fun e w' => e = .returned (.int .i64 (letV b)) ∧ w' = w := by
  by_cases hin : 65 ≤ b ∧ b ≤ 90
  · have E1 : Hid (letV b = ltr (b - 65).toNat) := by show _ = _; rw [letV, if_pos hin]
    obtain ⟨k, ek⟩ : ∃ k : Nat, (b - 65).toNat = k := ⟨_, rfl⟩
    rw [ek] at E1
    have hk : k ≤ 25 := by omega
    have q1 : IntKind.i32.wrap (b - 65) = (k : Int) := by rw [IntKind.wrap_i32]; omega
    have d1 : decide (b < 65) = false := by simp; omega
    have d2 : decide (90 < b) = false := by simp; omega
    clear ek hin
    go_enter Try.func80, Try.ntmps80
    go_wp2
    go_loopg [3, 13] k (fun g xv iv wr => ∃ j : Nat, j ≤ k ∧ g = k - j ∧ iv = .int .i64 j ∧ xv = .int .i64 (ltr j) ∧ wr = w)
    case atStart => exact ⟨0, by omega, by omega, rfl, rfl, rfl⟩
    case round =>
      obtain ⟨j, hj, rfl, rfl, rfl, rfl⟩ := hrel
      have HB := ltr_bd (show j ≤ 25 by omega)
      have HY : Hid ((ltr j + 1) % 11 = 0 → ltr (j + 1) = ltr j + 1 + 1) := ltr_yes
      have HN : Hid (¬ (ltr j + 1) % 11 = 0 → ltr (j + 1) = ltr j + 1) := ltr_no
      have HD : Hid (¬ j < k → ltr k = ltr j) := fun h => by rw [show j = k by omega]
      generalize ltr j = x at *
      obtain ⟨h1, h2⟩ := HB
      by_cases hm : j < k
      · have hmi : (j : Int) < k := by omega
        by_cases hd : (x + 1) % 11 = 0
        · go_wp2
          go_roundg (k - (j + 1))
          case measure => omega
          case rel => exact ⟨j + 1, by omega, rfl, by go_num, by rw [unhide HY hd], rfl⟩
        · go_wp2
          go_roundg (k - (j + 1))
          case measure => omega
          case rel => exact ⟨j + 1, by omega, rfl, by go_num, by rw [unhide HN hd], rfl⟩
      · have hmi : ¬ (j : Int) < k := by omega
        go_wp2
        go_ret
        exact ⟨by rw [unhide E1, unhide HD hm]; rfl, rfl⟩
  · have E1 : Hid (letV b = -1) := by show _ = _; rw [letV, if_neg hin]
    by_cases h65 : b < 65
    · clear hin
      go_enter Try.func80, Try.ntmps80
      go_wp2
      go_ret
      exact ⟨by rw [unhide E1]; rfl, rfl⟩
    · have d1 : decide (b < 65) = false := by simp; omega
      have d2 : decide (90 < b) = true := by simp; omega
      clear hin
      go_enter Try.func80, Try.ntmps80
      go_wp2
      go_ret
      exact ⟨by rw [unhide E1]; rfl, rfl⟩

set_option maxHeartbeats 800000 in
theorem signNumber_any (b : Int) (i : Nat) (w : World) (h0 : 0 ≤ b) (hb : b ≤ 2147483647) :
    Calls Try.prog 79 #[.int .i32 b, .int .i64 i] w fun e w' => e = .returned (.int .i64 (sgB b i)) ∧ w' = w := by
  by_cases hi : i < 4
  · have E1 : Hid (sgB b i = letV b) := by show _ = _; unfold sgB; rw [if_pos hi]
    have hii : (i : Int) < 4 := by omega
    have HL := hide fun V => letterNumber_any b V h0 hb
    go_enter Try.func79, Try.ntmps79
    go_wp2_with fail
    refine (unhide HL _).mono ?_
    rintro e w' ⟨rfl, rfl⟩
    generalize letV b = z at *
    go_wp2
    go_ret
    exact ⟨by rw [unhide E1]; rfl, rfl⟩
  · have hii : ¬ (i : Int) < 4 := by omega
    have E1 : Hid (sgB b i = if 48 ≤ b ∧ b ≤ 57 then b - 48 else -1) := by show _ = _; unfold sgB; rw [if_neg hi]
    by_cases h48 : b < 48
    · go_enter Try.func79, Try.ntmps79
      go_wp2
      go_ret
      exact ⟨by rw [unhide E1, if_neg (by omega)]; rfl, rfl⟩
    · by_cases h57 : 57 < b
      · go_enter Try.func79, Try.ntmps79
        go_wp2
        go_ret
        exact ⟨by rw [unhide E1, if_neg (by omega)]; rfl, rfl⟩
      · have q1 : IntKind.i32.wrap (b - 48) = b - 48 := by rw [IntKind.wrap_i32]; omega
        go_enter Try.func79, Try.ntmps79
        go_wp2
        go_ret
        exact ⟨by rw [unhide E1, if_pos (by omega)]; rfl, rfl⟩

theorem sgB_big {b : Int} (i : Nat) (h : 128 ≤ b) : sgB b i = -1 := by
  unfold sgB letV
  rw [if_neg (show ¬ (65 ≤ b ∧ b ≤ 90) by omega), if_neg (show ¬ (48 ≤ b ∧ b ≤ 57) by omega)]
  split <;> rfl
theorem shl_small {x : Int} {i : Nat} (hx : -1 ≤ x ∧ x ≤ 38) (hi : i < 10) : IntKind.i64.wrap (x * 2 ^ i) = x * 2 ^ i := by
  have hp := pow_le10 hi
  generalize (2 : Int) ^ i = p at *
  have h1 : x * p ≤ 38 * p := Int.mul_le_mul_of_nonneg_right (by omega) (by omega)
  have h2 : -1 * p ≤ x * p := Int.mul_le_mul_of_nonneg_right (by omega) (by omega)
  rw [IntKind.wrap_i64]
  omega

set_option maxHeartbeats 1600000 in
theorem implCheckDigit_any (s : ByteArray) (w : World) :
    Calls Try.prog 78 #[.string s] w fun e w' => e = .returned (.int .i64 (cd s)) ∧ Below w.heap.size w w' := by
  by_cases h10 : s.size = 10
  · have HS := hide h10
    have HSN := hide fun (b : Int) (i : Nat) V h0 hb => signNumber_any b i V h0 hb
    go_enter Try.func78, Try.ntmps78
    go_wp2
    go_loopg [3] 10 (fun g sv wr => ∃ p : Nat, p ≤ 10 ∧ g = 10 - p ∧ sv = .int .i64 (cdSum s p) ∧ Hid (∀ r, r < p → 0 ≤ sgB (byt s r) r) ∧ wr = w.iter s p)
    case atStart => exact ⟨0, by omega, rfl, rfl, fun r hr => by omega, rfl⟩
    case round =>
      obtain ⟨p, hp, rfl, rfl, HA, rfl⟩ := hrel
      by_cases hp10 : p < 10
      · have hps : p < s.size := by rw [unhide HS]; exact hp10
        have hnx : ∀ ty, (Instr.next (.pointer (some ⟨w.heap.size, 0, none⟩)) true ty).run Try.prog (w.iter s p) = _ := fun ty => run_next_any w s p ty hps
        have hbt := byt_eq s p hps
        have HBD : Hid (sgB (byt s p) p < 0 → cd s = -1) := cd_bad hp10
        by_cases ha : (s[p]'hps).toNat < 128
        · rw [decode_ascii s p hps ha] at hnx
          simp only at hnx
          rw [hbt] at hnx
          have hbb := byt_bd s p
          have HB := hide (sgB_bd (byt s p) p)
          have HSM : Hid (cdSum s (p + 1) = cdSum s p + sgB (byt s p) p * 2 ^ p) := rfl
          have HP2 : Hid (∀ x : Int, -1 ≤ x ∧ x ≤ 38 → IntKind.i64.wrap (x * 2 ^ p) = x * 2 ^ p) := fun x hx => shl_small hx hp10
          have HSB := hide (cdSum_bd (s := s) p (by omega) (unhide HA))
          have HSB1 : Hid (0 ≤ sgB (byt s p) p → 0 ≤ cdSum s (p + 1) ∧ cdSum s (p + 1) ≤ 38 * 1024) := fun h => by
            have := cdSum_bd (s := s) (p + 1) (by omega) fun r hr => by
              by_cases e : r = p
              · rw [e]; exact h
              · exact unhide HA r (by omega)
            have h2 : (2 : Int) ^ (p + 1) ≤ 1024 := by rw [Int.pow_succ]; have := pow_le10 hp10; omega
            omega
          have HA1 : Hid (0 ≤ sgB (byt s p) p → ∀ r, r < p + 1 → 0 ≤ sgB (byt s r) r) := fun h r hr => by
            by_cases e : r = p
            · rw [e]; exact h
            · exact unhide HA r (by omega)
          generalize byt s p = b at *
          have HC := hide fun V => unhide HSN b p V (by omega) (by omega)
          have hpi : (p : Int) < 10 := by omega
          obtain ⟨z, ez⟩ : ∃ z, z = sgB b p := ⟨_, rfl⟩
          rw [← ez] at HBD HB HSM HSB1 HA1 HC
          clear ez ha hbt h10
          obtain ⟨s0, e0⟩ : ∃ z, z = cdSum s p := ⟨_, rfl⟩
          rw [← e0] at HSM HSB ⊢
          obtain ⟨s1, e1⟩ : ∃ z, z = cdSum s (p + 1) := ⟨_, rfl⟩
          have HE1 := hide e1
          rw [← e1] at HSM HSB1
          clear e0 e1
          go_wp2_with fail
          refine (unhide HC _).mono ?_
          rintro e w1 ⟨rfl, rfl⟩
          clear hnx HC HSN
          by_cases hz : z < 0
          · go_wp2
            go_ret
            exact ⟨by rw [unhide HBD hz]; rfl, Below.alloc1 _ _⟩
          · have q1 := unhide HP2 z (unhide HB)
            have hs1 := unhide HSB1 (by omega)
            have q2 : s0 + z * 2 ^ p = s1 := (unhide HSM).symm
            have q3 : IntKind.i64.wrap (s0 + z * 2 ^ p) = s1 := by rw [q2, IntKind.wrap_i64]; omega
            go_wp2
            go_roundg (10 - (p + 1))
            case measure => omega
            case rel => exact ⟨p + 1, by omega, rfl, by rw [unhide HE1], unhide HA1 (by omega), rfl⟩
        · have hh := decode_high s p hps (by omega)
          have hl := decode_le s p
          obtain ⟨h1, h2⟩ := hh
          obtain ⟨q, eq⟩ : ∃ z, z = (Utf8.decode s p).2 := ⟨_, rfl⟩
          obtain ⟨r, er⟩ : ∃ z, z = (Utf8.decode s p).1 := ⟨_, rfl⟩
          rw [← er] at h1 hl hnx
          rw [← eq] at h2 hnx
          have HC := hide fun V => unhide HSN r p V (by omega) (by omega)
          have hr : sgB r p = -1 := sgB_big p (by omega)
          rw [hr] at HC
          have HD : Hid (cd s = -1) := unhide HBD (by rw [← hbt, sgB_big p (by omega)]; omega)
          clear hr eq er hbt ha
          go_wp2_with fail
          refine (unhide HC _).mono ?_
          rintro e w1 ⟨rfl, rfl⟩
          clear hnx HC HSN
          go_wp2
          go_ret
          exact ⟨by rw [unhide HD]; rfl, Below.alloc1 _ _⟩
      · have hpe : p = 10 := by omega
        have hnx : ∀ ty, (Instr.next (.pointer (some ⟨w.heap.size, 0, none⟩)) true ty).run Try.prog (w.iter s p) = _ := fun ty => run_next_end w s p ty (by rw [unhide HS]; omega)
        subst hpe
        have E1 := hide (cd_all (unhide HS) (unhide HA))
        have hb := cdSum_bd (s := s) 10 (by omega) (unhide HA)
        obtain ⟨h1, h2⟩ := hb
        generalize cdSum s 10 = t at *
        clear hp hp10 HSN
        by_cases ht : t % 11 = 10
        · go_wp2
          go_ret
          exact ⟨by rw [unhide E1, ht]; rfl, Below.alloc1 _ _⟩
        · have E2 : Hid (cd s = t % 11) := by show _ = _; rw [unhide E1]; omega
          go_wp2
          go_ret
          exact ⟨by rw [unhide E2]; rfl, Below.alloc1 _ _⟩
  · have E1 := hide (cd_len h10)
    have d1 : decide ((s.size : Int) = 10) = false := by simp; omega
    have d2 : ((s.size : Int) != 10) = true := by simp; omega
    have d3 : (s.size != 10) = true := by simp; omega
    go_enter Try.func78, Try.ntmps78
    go_wp2
    go_ret
    exact ⟨by rw [unhide E1]; rfl, Below.refl _ _⟩

end Go.Proofs.Ytnfdokcpjcnknaa

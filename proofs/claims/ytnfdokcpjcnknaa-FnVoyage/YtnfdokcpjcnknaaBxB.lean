/- Boxes: the contract of the specification's CheckDigit; both BoxName. -/
import Derived.Test.YtnfdokcpjcnknaaBxA
namespace Go.Proofs.Ytnfdokcpjcnknaa
open Go.RowKit

set_option maxHeartbeats 1600000 in
theorem specCheckDigit_any (s : ByteArray) (w : World) :
    Calls Try.prog 64 #[.string s] w fun e w' => e = .returned (.int .i64 (cd s)) ∧ w' = w := by
  by_cases h10 : s.size = 10
  · have HS := hide h10
    have HL := hide fun (k : Nat) V hk => l11Letter_any k V hk
    have HIn := hide fun (x a b : Int) V => l1In_any x a b V
    go_enter Try.func64, Try.ntmps64
    go_wp2
    go_loopg [3, 4] 10 (fun g sv iv wr => ∃ p : Nat, p ≤ 10 ∧ g = 10 - p ∧ iv = .int .i64 p ∧ sv = .int .i64 (cdSum s p) ∧ Hid (∀ r, r < p → 0 ≤ sgB (byt s r) r) ∧ wr = w)
    case atStart => exact ⟨0, by omega, rfl, rfl, rfl, fun r hr => by omega, rfl⟩
    case round =>
      obtain ⟨p, hp, rfl, rfl, rfl, HA, rfl⟩ := hrel
      by_cases hp10 : p < 10
      · have hps : p < s.size := by rw [unhide HS]; exact hp10
        have hbt := byt_eq s p hps
        have hpi : (p : Int) < 10 := by omega
        have hix : ∀ V, (Instr.index 9 (.string s) (.int .i64 p)).run Try.prog V = .ok (.int .u8 (byt s p)) V := fun V => by
          rw [run_index_string V _ _ _ _ Try.underlying9, dif_pos (by omega)]
          simp only [Int.toNat_natCast]
          rw [hbt]
        have HBD : Hid (sgB (byt s p) p < 0 → cd s = -1) := cd_bad hp10
        have hbb := byt_bd s p
        have HB := hide (sgB_bd (byt s p) p)
        have HSM : Hid (cdSum s (p + 1) = cdSum s p + sgB (byt s p) p * 2 ^ p) := rfl
        have HP2 : Hid (∀ x : Int, -1 ≤ x ∧ x ≤ 38 → IntKind.i64.wrap (x * 2 ^ p) = x * 2 ^ p) := fun x hx => shl_small hx hp10
        have HSB := hide (cdSum_bd (s := s) p (by omega) (unhide HA))
        have HSB1 : Hid (0 ≤ sgB (byt s p) p → 0 ≤ cdSum s (p + 1) ∧ cdSum s (p + 1) ≤ 38 * 1024) := fun h => by
          have := cdSum_bd (s := s) (p + 1) (by omega) fun r hr => by
            by_cases e : r = p
            · rw [e]; exact h
            · exact unhide HA r (by omega)
          have h2 : (2 : Int) ^ (p + 1) ≤ 1024 := by rw [Int.pow_succ]; have := pow_le10 hp10; omega
          omega
        have HA1 : Hid (0 ≤ sgB (byt s p) p → ∀ r, r < p + 1 → 0 ≤ sgB (byt s r) r) := fun h r hr => by
          by_cases e : r = p
          · rw [e]; exact h
          · exact unhide HA r (by omega)
        generalize byt s p = b at *
        obtain ⟨z, ez⟩ : ∃ z, z = sgB b p := ⟨_, rfl⟩
        rw [← ez] at HBD HB HSM HSB1 HA1
        have EZ := hide ez
        clear ez hbt h10 hps
        obtain ⟨s0, e0⟩ : ∃ z, z = cdSum s p := ⟨_, rfl⟩
        rw [← e0] at HSM HSB ⊢
        obtain ⟨s1, e1⟩ : ∃ z, z = cdSum s (p + 1) := ⟨_, rfl⟩
        have HE1 := hide e1
        rw [← e1] at HSM HSB1
        clear e0 e1
        obtain ⟨hb0, hb1⟩ := hbb
        by_cases h4 : p < 4
        · have h4i : (p : Int) < 4 := by omega
          have h4d : decide ((4 : Int) ≤ (p : Int)) = false := by simp; omega
          by_cases hin : 65 ≤ b ∧ b ≤ 90
          · have EV : Hid (z = ltr (b - 65).toNat) := by show _ = _; rw [unhide EZ]; unfold sgB letV; rw [if_pos h4, if_pos hin]
            obtain ⟨k, ek⟩ : ∃ k : Nat, (b - 65).toNat = k := ⟨_, rfl⟩
            rw [ek] at EV
            have hk : k ≤ 25 := by omega
            have q0 : IntKind.i64.wrap (b - 65) = (k : Int) := by rw [IntKind.wrap_i64]; omega
            have hin1 : inB b 65 90 = true := by simp [inB]; omega
            have hlb := ltr_bd hk
            rw [← unhide EV] at hlb
            have HL1 := hide fun V => unhide HL k V hk
            rw [← unhide EV] at HL1
            have HI1 := hide fun V => unhide HIn b 65 90 V
            rw [hin1] at HI1
            have q1 := unhide HP2 z (unhide HB)
            have hs1 := unhide HSB1 (by omega)
            have q2 : s0 + z * 2 ^ p = s1 := (unhide HSM).symm
            have q3 : IntKind.i64.wrap (s0 + z * 2 ^ p) = s1 := by rw [q2, IntKind.wrap_i64]; omega
            clear ek EV hin hin1
            go_wp2_with fail
            refine (unhide HI1 _).mono ?_
            rintro e w1 ⟨rfl, rfl⟩
            go_wp2_with fail
            refine (unhide HL1 _).mono ?_
            rintro e w1 ⟨rfl, rfl⟩
            clear HL1 HI1 HIn HL
            go_wp2
            go_roundg (10 - (p + 1))
            case measure => omega
            case rel => exact ⟨p + 1, by omega, rfl, by go_num, by rw [unhide HE1], unhide HA1 (by omega), rfl⟩
          · have EV : Hid (z = -1) := by show _ = _; rw [unhide EZ]; unfold sgB letV; rw [if_pos h4, if_neg hin]
            have hin1 : inB b 65 90 = false := by simp [inB]; omega
            have HI1 := hide fun V => unhide HIn b 65 90 V
            rw [hin1] at HI1
            clear hin hin1
            go_wp2_with fail
            refine (unhide HI1 _).mono ?_
            rintro e w1 ⟨rfl, rfl⟩
            go_wp2
            go_ret
            exact ⟨by rw [unhide HBD (by rw [unhide EV]; omega)]; rfl, rfl⟩
        · have h4i : decide ((p : Int) < 4) = false := by simp; omega
          have h4d : decide ((4 : Int) ≤ (p : Int)) = true := by simp; omega
          by_cases hin : 48 ≤ b ∧ b ≤ 57
          · have EV : Hid (z = b - 48) := by show _ = _; rw [unhide EZ]; unfold sgB; rw [if_neg h4, if_pos hin]
            have q0 : IntKind.i64.wrap (b - 48) = z := by rw [IntKind.wrap_i64, unhide EV]; omega
            have hin1 : inB b 48 57 = true := by simp [inB]; omega
            have HI1 := hide fun V => unhide HIn b 48 57 V
            rw [hin1] at HI1
            have hz0 : 0 ≤ z := by rw [unhide EV]; omega
            have q1 := unhide HP2 z (unhide HB)
            have hs1 := unhide HSB1 hz0
            have q2 : s0 + z * 2 ^ p = s1 := (unhide HSM).symm
            have q3 : IntKind.i64.wrap (s0 + z * 2 ^ p) = s1 := by rw [q2, IntKind.wrap_i64]; omega
            clear hin hin1
            go_wp2_with fail
            refine (unhide HI1 _).mono ?_
            rintro e w1 ⟨rfl, rfl⟩
            go_wp2
            go_roundg (10 - (p + 1))
            case measure => omega
            case rel => exact ⟨p + 1, by omega, rfl, by go_num, by rw [unhide HE1], unhide HA1 hz0, rfl⟩
          · have EV : Hid (z = -1) := by show _ = _; rw [unhide EZ]; unfold sgB; rw [if_neg h4, if_neg hin]
            have hin1 : inB b 48 57 = false := by simp [inB]; omega
            have HI1 := hide fun V => unhide HIn b 48 57 V
            rw [hin1] at HI1
            clear hin hin1
            go_wp2_with fail
            refine (unhide HI1 _).mono ?_
            rintro e w1 ⟨rfl, rfl⟩
            go_wp2
            go_ret
            exact ⟨by rw [unhide HBD (by rw [unhide EV]; omega)]; rfl, rfl⟩
      · have hpe : p = 10 := by omega
        subst hpe
        have E1 := hide (cd_all (unhide HS) (unhide HA))
        have hb := cdSum_bd (s := s) 10 (by omega) (unhide HA)
        obtain ⟨h1, h2⟩ := hb
        generalize cdSum s 10 = t at *
        clear hp hp10
        go_wp2
        go_ret
        exact ⟨by rw [unhide E1]; rfl, rfl⟩
  · have E1 := hide (cd_len h10)
    have d1 : decide ((s.size : Int) = 10) = false := by simp; omega
    have d2 : ((s.size : Int) != 10) = true := by simp; omega
    have d3 : (s.size != 10) = true := by simp; omega
    go_enter Try.func64, Try.ntmps64
    go_wp2
    go_ret
    exact ⟨by rw [unhide E1]; rfl, rfl⟩

end Go.Proofs.Ytnfdokcpjcnknaa

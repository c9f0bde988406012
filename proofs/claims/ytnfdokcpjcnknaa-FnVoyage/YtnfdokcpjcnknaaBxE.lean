/- Boxes: both Apart, spots, gaps. Written by wip/mkbxe.py. -/
import Derived.Test.YtnfdokcpjcnknaaBxD
import Derived.Test.YtnfdokcpjcnknaaWalkH
namespace Go.Proofs.Ytnfdokcpjcnknaa
open Go.RowKit

theorem gapB_any (a b : Int) (w : World) (h1 : -1000000000 ≤ a) (h2 : a ≤ 1000000000) (h3 : -1000000000 ≤ b) (h4 : b ≤ 1000000000) :
    Calls Try.prog 75 #[.int .i64 a, .int .i64 b] w fun e w' => e = .returned (.int .i64 ((a - b).natAbs : Int)) ∧ w' = w := by
  by_cases h : a ≤ b
  · go_enter Try.func75, Try.ntmps75
    go_wp2
    all_goals
      go_ret
      exact ⟨ret_int (by omega), rfl⟩
  · go_enter Try.func75, Try.ntmps75
    go_wp2
    all_goals
      go_ret
      exact ⟨ret_int (by omega), rfl⟩
theorem sizeB_any (x : Int) (w : World) (h1 : -9000000000 ≤ x) (h2 : x ≤ 9000000000) :
    Calls Try.prog 62 #[.int .i64 x] w fun e w' => e = .returned (.int .i64 (x.natAbs : Int)) ∧ w' = w := by
  by_cases h : x < 0
  · go_enter Try.func62, Try.ntmps62
    go_wp2
    go_ret
    exact ⟨ret_int (by omega), rfl⟩
  · go_enter Try.func62, Try.ntmps62
    go_wp2
    go_ret
    exact ⟨ret_int (by omega), rfl⟩
theorem l1Least_any (a b : Int) (w : World) :
    Calls Try.prog 76 #[.int .i64 a, .int .i64 b] w fun e w' => e = .returned (.int .i64 (min a b)) ∧ w' = w := by
  by_cases h : a < b
  · have E : Hid (min a b = a) := by show _ = _; omega
    go_enter Try.func76, Try.ntmps76
    go_wp2
    go_ret
    exact ⟨by rw [unhide E]; rfl, rfl⟩
  · have E : Hid (min a b = b) := by show _ = _; omega
    go_enter Try.func76, Try.ntmps76
    go_wp2
    go_ret
    exact ⟨by rw [unhide E]; rfl, rfl⟩


set_option maxHeartbeats 1600000 in
theorem specApart_any (a b : Int) (w : World) :
    Calls Try.prog 63 #[.int .i64 a, .int .i64 b] w fun e w' => e = .returned (.int .i64 (apV a b)) ∧ w' = w := by
  have Qa := hide fun V => l1In_any a 0 9 V
  have Qb := hide fun V => l1In_any b 0 9 V
  have HO : Hid (inB a 0 9 = false ∨ inB b 0 9 = false → apV a b = -1) := apV_out
  have HI : Hid (inB a 0 9 = true → inB b 0 9 = true → apV a b = if a = 0 ∨ b = 0 ∨ a = b then 0 else if a = 1 ∨ b = 1 then 3 else if a * b % 6 = 0 then 2 else if (a + b) % 2 = 1 then 1 else 0) := apV_in
  cases ha : inB a 0 9 with
  | false =>
    rw [ha] at Qa
    go_enter Try.func63, Try.ntmps63
    go_wp2_with fail
    refine (unhide Qa _).mono ?_
    rintro e w1 ⟨rfl, rfl⟩
    go_wp2
    go_ret
    exact ⟨by rw [unhide HO (Or.inl ha)]; rfl, rfl⟩
  | true =>
  rw [ha] at Qa
  cases hb : inB b 0 9 with
  | false =>
    rw [hb] at Qb
    go_enter Try.func63, Try.ntmps63
    go_wp2_with fail
    refine (unhide Qa _).mono ?_
    rintro e w1 ⟨rfl, rfl⟩
    go_wp2_with fail
    refine (unhide Qb _).mono ?_
    rintro e w1 ⟨rfl, rfl⟩
    go_wp2
    go_ret
    exact ⟨by rw [unhide HO (Or.inr hb)]; rfl, rfl⟩
  | true =>
  rw [hb] at Qb
  have EV : Hid (apV a b = if a = 0 ∨ b = 0 ∨ a = b then 0 else if a = 1 ∨ b = 1 then 3 else if a * b % 6 = 0 then 2 else if (a + b) % 2 = 1 then 1 else 0) := unhide HI ha hb
  obtain ⟨hp0, hp1⟩ := prod_bd ha hb
  obtain ⟨ha0, ha1⟩ := inB_true ha
  obtain ⟨hb0, hb1⟩ := inB_true hb
  clear HO HI ha hb
  obtain ⟨p, ep⟩ : ∃ p, p = a * b := ⟨_, rfl⟩
  have ep' : b * a = p := by rw [ep, Int.mul_comm]
  have ep2 : a * b = p := ep.symm
  rw [ep2] at EV hp0 hp1
  clear ep
  have q1 : IntKind.i64.wrap (a * b) = p := by rw [ep2, IntKind.wrap_i64]; omega
  have q2 : IntKind.i64.wrap (b * a) = p := by rw [ep', IntKind.wrap_i64]; omega
  by_cases ha : a < b
  · have m1 : min a b = a := by omega
    have m2 : max a b = b := by omega
    have QL := hide fun V => l1Least_any a b V
    rw [m1] at QL
    have hne : (a == b) = false := by simp; omega
    have hne' : (b == a) = false := by simp; omega
    by_cases h0 : a = 0
    · have E : Hid (apV a b = 0) := by show _ = _; rw [unhide EV, if_pos (by omega)]
      have d0 : (a == 0) = true := by simp; omega
      clear h0 EV
      go_enter Try.func63, Try.ntmps63
      go_wp2_with fail
      refine (unhide Qa _).mono ?_
      rintro e w1 ⟨rfl, rfl⟩
      go_wp2_with fail
      refine (unhide Qb _).mono ?_
      rintro e w1 ⟨rfl, rfl⟩
      go_wp2_with fail
      refine (unhide QL _).mono ?_
      rintro e w1 ⟨rfl, rfl⟩
      go_wp2
      go_ret
      exact ⟨by rw [unhide E]; rfl, rfl⟩
    have d0 : (a == 0) = false := by simp; omega
    by_cases h1 : a = 1
    · have E : Hid (apV a b = 3) := by show _ = _; rw [unhide EV, if_neg (by omega), if_pos (by omega)]
      have d1 : (a == 1) = true := by simp; omega
      clear h1 EV
      go_enter Try.func63, Try.ntmps63
      go_wp2_with fail
      refine (unhide Qa _).mono ?_
      rintro e w1 ⟨rfl, rfl⟩
      go_wp2_with fail
      refine (unhide Qb _).mono ?_
      rintro e w1 ⟨rfl, rfl⟩
      go_wp2_with fail
      refine (unhide QL _).mono ?_
      rintro e w1 ⟨rfl, rfl⟩
      go_wp2
      go_ret
      exact ⟨by rw [unhide E]; rfl, rfl⟩
    have d1 : (a == 1) = false := by simp; omega
    by_cases h2 : p % 6 = 0
    · have E : Hid (apV a b = 2) := by show _ = _; rw [unhide EV, if_neg (by omega), if_neg (by omega), if_pos h2]
      clear EV h0 h1
      go_enter Try.func63, Try.ntmps63
      go_wp2_with fail
      refine (unhide Qa _).mono ?_
      rintro e w1 ⟨rfl, rfl⟩
      go_wp2_with fail
      refine (unhide Qb _).mono ?_
      rintro e w1 ⟨rfl, rfl⟩
      go_wp2_with fail
      refine (unhide QL _).mono ?_
      rintro e w1 ⟨rfl, rfl⟩
      go_wp2
      go_ret
      exact ⟨by rw [unhide E]; rfl, rfl⟩
    by_cases h3 : (a + b) % 2 = 1
    · have E : Hid (apV a b = 1) := by show _ = _; rw [unhide EV, if_neg (by omega), if_neg (by omega), if_neg h2, if_pos h3]
      have h3' : (a + b) % 2 = 1 := by omega
      clear EV h0 h1 h3
      go_enter Try.func63, Try.ntmps63
      go_wp2_with fail
      refine (unhide Qa _).mono ?_
      rintro e w1 ⟨rfl, rfl⟩
      go_wp2_with fail
      refine (unhide Qb _).mono ?_
      rintro e w1 ⟨rfl, rfl⟩
      go_wp2_with fail
      refine (unhide QL _).mono ?_
      rintro e w1 ⟨rfl, rfl⟩
      go_wp2
      go_ret
      exact ⟨by rw [unhide E]; rfl, rfl⟩
    · have E : Hid (apV a b = 0) := by show _ = _; rw [unhide EV, if_neg (by omega), if_neg (by omega), if_neg h2, if_neg h3]
      have h3' : ((a + b) % 2 == 1) = false := by simp; omega
      clear EV h0 h1 h3
      go_enter Try.func63, Try.ntmps63
      go_wp2_with fail
      refine (unhide Qa _).mono ?_
      rintro e w1 ⟨rfl, rfl⟩
      go_wp2_with fail
      refine (unhide Qb _).mono ?_
      rintro e w1 ⟨rfl, rfl⟩
      go_wp2_with fail
      refine (unhide QL _).mono ?_
      rintro e w1 ⟨rfl, rfl⟩
      go_wp2
      go_ret
      exact ⟨by rw [unhide E]; rfl, rfl⟩
  by_cases hb : b < a
  · have m1 : min a b = b := by omega
    have m2 : max a b = a := by omega
    have QL := hide fun V => l1Least_any a b V
    rw [m1] at QL
    have hne : (a == b) = false := by simp; omega
    have hne' : (b == a) = false := by simp; omega
    by_cases h0 : b = 0
    · have E : Hid (apV a b = 0) := by show _ = _; rw [unhide EV, if_pos (by omega)]
      have d0 : (b == 0) = true := by simp; omega
      clear h0 EV
      go_enter Try.func63, Try.ntmps63
      go_wp2_with fail
      refine (unhide Qa _).mono ?_
      rintro e w1 ⟨rfl, rfl⟩
      go_wp2_with fail
      refine (unhide Qb _).mono ?_
      rintro e w1 ⟨rfl, rfl⟩
      go_wp2_with fail
      refine (unhide QL _).mono ?_
      rintro e w1 ⟨rfl, rfl⟩
      go_wp2
      go_ret
      exact ⟨by rw [unhide E]; rfl, rfl⟩
    have d0 : (b == 0) = false := by simp; omega
    by_cases h1 : b = 1
    · have E : Hid (apV a b = 3) := by show _ = _; rw [unhide EV, if_neg (by omega), if_pos (by omega)]
      have d1 : (b == 1) = true := by simp; omega
      clear h1 EV
      go_enter Try.func63, Try.ntmps63
      go_wp2_with fail
      refine (unhide Qa _).mono ?_
      rintro e w1 ⟨rfl, rfl⟩
      go_wp2_with fail
      refine (unhide Qb _).mono ?_
      rintro e w1 ⟨rfl, rfl⟩
      go_wp2_with fail
      refine (unhide QL _).mono ?_
      rintro e w1 ⟨rfl, rfl⟩
      go_wp2
      go_ret
      exact ⟨by rw [unhide E]; rfl, rfl⟩
    have d1 : (b == 1) = false := by simp; omega
    by_cases h2 : p % 6 = 0
    · have E : Hid (apV a b = 2) := by show _ = _; rw [unhide EV, if_neg (by omega), if_neg (by omega), if_pos h2]
      clear EV h0 h1
      go_enter Try.func63, Try.ntmps63
      go_wp2_with fail
      refine (unhide Qa _).mono ?_
      rintro e w1 ⟨rfl, rfl⟩
      go_wp2_with fail
      refine (unhide Qb _).mono ?_
      rintro e w1 ⟨rfl, rfl⟩
      go_wp2_with fail
      refine (unhide QL _).mono ?_
      rintro e w1 ⟨rfl, rfl⟩
      go_wp2
      go_ret
      exact ⟨by rw [unhide E]; rfl, rfl⟩
    by_cases h3 : (a + b) % 2 = 1
    · have E : Hid (apV a b = 1) := by show _ = _; rw [unhide EV, if_neg (by omega), if_neg (by omega), if_neg h2, if_pos h3]
      have h3' : (b + a) % 2 = 1 := by omega
      clear EV h0 h1 h3
      go_enter Try.func63, Try.ntmps63
      go_wp2_with fail
      refine (unhide Qa _).mono ?_
      rintro e w1 ⟨rfl, rfl⟩
      go_wp2_with fail
      refine (unhide Qb _).mono ?_
      rintro e w1 ⟨rfl, rfl⟩
      go_wp2_with fail
      refine (unhide QL _).mono ?_
      rintro e w1 ⟨rfl, rfl⟩
      go_wp2
      go_ret
      exact ⟨by rw [unhide E]; rfl, rfl⟩
    · have E : Hid (apV a b = 0) := by show _ = _; rw [unhide EV, if_neg (by omega), if_neg (by omega), if_neg h2, if_neg h3]
      have h3' : ((b + a) % 2 == 1) = false := by simp; omega
      clear EV h0 h1 h3
      go_enter Try.func63, Try.ntmps63
      go_wp2_with fail
      refine (unhide Qa _).mono ?_
      rintro e w1 ⟨rfl, rfl⟩
      go_wp2_with fail
      refine (unhide Qb _).mono ?_
      rintro e w1 ⟨rfl, rfl⟩
      go_wp2_with fail
      refine (unhide QL _).mono ?_
      rintro e w1 ⟨rfl, rfl⟩
      go_wp2
      go_ret
      exact ⟨by rw [unhide E]; rfl, rfl⟩
  have hab : a = b := by omega
  have E : Hid (apV a b = 0) := by show _ = _; rw [unhide EV, if_pos (by omega)]
  subst hab
  have QL := hide fun V => l1Least_any a a V
  rw [Int.min_self] at QL
  clear EV ep2 ep' q1 q2 hp0 hp1 ha hb
  cases d0 : (a == 0) with
  | true =>
    go_enter Try.func63, Try.ntmps63
    go_wp2_with fail
    refine (unhide Qa _).mono ?_
    rintro e w1 ⟨rfl, rfl⟩
    go_wp2_with fail
    refine (unhide Qb _).mono ?_
    rintro e w1 ⟨rfl, rfl⟩
    go_wp2_with fail
    refine (unhide QL _).mono ?_
    rintro e w1 ⟨rfl, rfl⟩
    go_wp2
    go_ret
    exact ⟨by rw [unhide E]; rfl, rfl⟩
  | false =>
    go_enter Try.func63, Try.ntmps63
    go_wp2_with fail
    refine (unhide Qa _).mono ?_
    rintro e w1 ⟨rfl, rfl⟩
    go_wp2_with fail
    refine (unhide Qb _).mono ?_
    rintro e w1 ⟨rfl, rfl⟩
    go_wp2_with fail
    refine (unhide QL _).mono ?_
    rintro e w1 ⟨rfl, rfl⟩
    go_wp2
    go_ret
    exact ⟨by rw [unhide E]; rfl, rfl⟩


set_option maxHeartbeats 1600000 in
theorem implApart_any (a b : Int) (w : World) :
    Calls Try.prog 72 #[.int .i64 a, .int .i64 b] w fun e w' => e = .returned (.int .i64 (apV a b)) ∧ w' = w := by
  have Qa := hide fun V => isClass_any a V
  have Qb := hide fun V => isClass_any b V
  have HO : Hid (inB a 0 9 = false ∨ inB b 0 9 = false → apV a b = -1) := apV_out
  have HI : Hid (inB a 0 9 = true → inB b 0 9 = true → apV a b = if a = 0 ∨ b = 0 ∨ a = b then 0 else if a = 1 ∨ b = 1 then 3 else if a * b % 6 = 0 then 2 else if (a + b) % 2 = 1 then 1 else 0) := apV_in
  cases ha : inB a 0 9 with
  | false =>
    rw [ha] at Qa
    go_enter Try.func72, Try.ntmps72
    go_wp2_with fail
    refine (unhide Qa _).mono ?_
    rintro e w1 ⟨rfl, rfl⟩
    go_wp2
    go_ret
    exact ⟨by rw [unhide HO (Or.inl ha)]; rfl, rfl⟩
  | true =>
  rw [ha] at Qa
  cases hb : inB b 0 9 with
  | false =>
    rw [hb] at Qb
    go_enter Try.func72, Try.ntmps72
    go_wp2_with fail
    refine (unhide Qa _).mono ?_
    rintro e w1 ⟨rfl, rfl⟩
    go_wp2_with fail
    refine (unhide Qb _).mono ?_
    rintro e w1 ⟨rfl, rfl⟩
    go_wp2
    go_ret
    exact ⟨by rw [unhide HO (Or.inr hb)]; rfl, rfl⟩
  | true =>
  rw [hb] at Qb
  have EV : Hid (apV a b = if a = 0 ∨ b = 0 ∨ a = b then 0 else if a = 1 ∨ b = 1 then 3 else if a * b % 6 = 0 then 2 else if (a + b) % 2 = 1 then 1 else 0) := unhide HI ha hb
  obtain ⟨hp0, hp1⟩ := prod_bd ha hb
  obtain ⟨ha0, ha1⟩ := inB_true ha
  obtain ⟨hb0, hb1⟩ := inB_true hb
  clear HO HI ha hb
  obtain ⟨p, ep⟩ : ∃ p, p = a * b := ⟨_, rfl⟩
  have ep' : b * a = p := by rw [ep, Int.mul_comm]
  have ep2 : a * b = p := ep.symm
  rw [ep2] at EV hp0 hp1
  clear ep
  have q1 : IntKind.i64.wrap (a * b) = p := by rw [ep2, IntKind.wrap_i64]; omega
  have q2 : IntKind.i64.wrap (b * a) = p := by rw [ep', IntKind.wrap_i64]; omega
  by_cases ha : a < b
  · have m1 : min a b = a := by omega
    have m2 : max a b = b := by omega
    have hne : (a == b) = false := by simp; omega
    have hne' : (b == a) = false := by simp; omega
    by_cases h0 : a = 0
    · have E : Hid (apV a b = 0) := by show _ = _; rw [unhide EV, if_pos (by omega)]
      have d0 : (a == 0) = true := by simp; omega
      clear h0 EV
      go_enter Try.func72, Try.ntmps72
      go_wp2_with fail
      refine (unhide Qa _).mono ?_
      rintro e w1 ⟨rfl, rfl⟩
      go_wp2_with fail
      refine (unhide Qb _).mono ?_
      rintro e w1 ⟨rfl, rfl⟩
      go_wp2
      go_ret
      exact ⟨by rw [unhide E]; rfl, rfl⟩
    have d0 : (a == 0) = false := by simp; omega
    by_cases h1 : a = 1
    · have E : Hid (apV a b = 3) := by show _ = _; rw [unhide EV, if_neg (by omega), if_pos (by omega)]
      have d1 : (a == 1) = true := by simp; omega
      clear h1 EV
      go_enter Try.func72, Try.ntmps72
      go_wp2_with fail
      refine (unhide Qa _).mono ?_
      rintro e w1 ⟨rfl, rfl⟩
      go_wp2_with fail
      refine (unhide Qb _).mono ?_
      rintro e w1 ⟨rfl, rfl⟩
      go_wp2
      go_ret
      exact ⟨by rw [unhide E]; rfl, rfl⟩
    have d1 : (a == 1) = false := by simp; omega
    by_cases h2 : p % 6 = 0
    · have E : Hid (apV a b = 2) := by show _ = _; rw [unhide EV, if_neg (by omega), if_neg (by omega), if_pos h2]
      clear EV h0 h1
      go_enter Try.func72, Try.ntmps72
      go_wp2_with fail
      refine (unhide Qa _).mono ?_
      rintro e w1 ⟨rfl, rfl⟩
      go_wp2_with fail
      refine (unhide Qb _).mono ?_
      rintro e w1 ⟨rfl, rfl⟩
      go_wp2
      go_ret
      exact ⟨by rw [unhide E]; rfl, rfl⟩
    by_cases h3 : (a + b) % 2 = 1
    · have E : Hid (apV a b = 1) := by show _ = _; rw [unhide EV, if_neg (by omega), if_neg (by omega), if_neg h2, if_pos h3]
      have h3' : (a + b) % 2 = 1 := by omega
      clear EV h0 h1 h3
      go_enter Try.func72, Try.ntmps72
      go_wp2_with fail
      refine (unhide Qa _).mono ?_
      rintro e w1 ⟨rfl, rfl⟩
      go_wp2_with fail
      refine (unhide Qb _).mono ?_
      rintro e w1 ⟨rfl, rfl⟩
      go_wp2
      go_ret
      exact ⟨by rw [unhide E]; rfl, rfl⟩
    · have E : Hid (apV a b = 0) := by show _ = _; rw [unhide EV, if_neg (by omega), if_neg (by omega), if_neg h2, if_neg h3]
      have h3' : ((a + b) % 2 == 1) = false := by simp; omega
      clear EV h0 h1 h3
      go_enter Try.func72, Try.ntmps72
      go_wp2_with fail
      refine (unhide Qa _).mono ?_
      rintro e w1 ⟨rfl, rfl⟩
      go_wp2_with fail
      refine (unhide Qb _).mono ?_
      rintro e w1 ⟨rfl, rfl⟩
      go_wp2
      go_ret
      exact ⟨by rw [unhide E]; rfl, rfl⟩
  by_cases hb : b < a
  · have m1 : min a b = b := by omega
    have m2 : max a b = a := by omega
    have hne : (a == b) = false := by simp; omega
    have hne' : (b == a) = false := by simp; omega
    by_cases h0 : b = 0
    · have E : Hid (apV a b = 0) := by show _ = _; rw [unhide EV, if_pos (by omega)]
      have d0 : (b == 0) = true := by simp; omega
      clear h0 EV
      go_enter Try.func72, Try.ntmps72
      go_wp2_with fail
      refine (unhide Qa _).mono ?_
      rintro e w1 ⟨rfl, rfl⟩
      go_wp2_with fail
      refine (unhide Qb _).mono ?_
      rintro e w1 ⟨rfl, rfl⟩
      go_wp2
      go_ret
      exact ⟨by rw [unhide E]; rfl, rfl⟩
    have d0 : (b == 0) = false := by simp; omega
    by_cases h1 : b = 1
    · have E : Hid (apV a b = 3) := by show _ = _; rw [unhide EV, if_neg (by omega), if_pos (by omega)]
      have d1 : (b == 1) = true := by simp; omega
      clear h1 EV
      go_enter Try.func72, Try.ntmps72
      go_wp2_with fail
      refine (unhide Qa _).mono ?_
      rintro e w1 ⟨rfl, rfl⟩
      go_wp2_with fail
      refine (unhide Qb _).mono ?_
      rintro e w1 ⟨rfl, rfl⟩
      go_wp2
      go_ret
      exact ⟨by rw [unhide E]; rfl, rfl⟩
    have d1 : (b == 1) = false := by simp; omega
    by_cases h2 : p % 6 = 0
    · have E : Hid (apV a b = 2) := by show _ = _; rw [unhide EV, if_neg (by omega), if_neg (by omega), if_pos h2]
      clear EV h0 h1
      go_enter Try.func72, Try.ntmps72
      go_wp2_with fail
      refine (unhide Qa _).mono ?_
      rintro e w1 ⟨rfl, rfl⟩
      go_wp2_with fail
      refine (unhide Qb _).mono ?_
      rintro e w1 ⟨rfl, rfl⟩
      go_wp2
      go_ret
      exact ⟨by rw [unhide E]; rfl, rfl⟩
    by_cases h3 : (a + b) % 2 = 1
    · have E : Hid (apV a b = 1) := by show _ = _; rw [unhide EV, if_neg (by omega), if_neg (by omega), if_neg h2, if_pos h3]
      have h3' : (b + a) % 2 = 1 := by omega
      clear EV h0 h1 h3
      go_enter Try.func72, Try.ntmps72
      go_wp2_with fail
      refine (unhide Qa _).mono ?_
      rintro e w1 ⟨rfl, rfl⟩
      go_wp2_with fail
      refine (unhide Qb _).mono ?_
      rintro e w1 ⟨rfl, rfl⟩
      go_wp2
      go_ret
      exact ⟨by rw [unhide E]; rfl, rfl⟩
    · have E : Hid (apV a b = 0) := by show _ = _; rw [unhide EV, if_neg (by omega), if_neg (by omega), if_neg h2, if_neg h3]
      have h3' : ((b + a) % 2 == 1) = false := by simp; omega
      clear EV h0 h1 h3
      go_enter Try.func72, Try.ntmps72
      go_wp2_with fail
      refine (unhide Qa _).mono ?_
      rintro e w1 ⟨rfl, rfl⟩
      go_wp2_with fail
      refine (unhide Qb _).mono ?_
      rintro e w1 ⟨rfl, rfl⟩
      go_wp2
      go_ret
      exact ⟨by rw [unhide E]; rfl, rfl⟩
  have hab : a = b := by omega
  have E : Hid (apV a b = 0) := by show _ = _; rw [unhide EV, if_pos (by omega)]
  subst hab
  clear EV ep2 ep' q1 q2 hp0 hp1 ha hb
  cases d0 : (a == 0) with
  | true =>
    go_enter Try.func72, Try.ntmps72
    go_wp2_with fail
    refine (unhide Qa _).mono ?_
    rintro e w1 ⟨rfl, rfl⟩
    go_wp2_with fail
    refine (unhide Qb _).mono ?_
    rintro e w1 ⟨rfl, rfl⟩
    go_wp2
    go_ret
    exact ⟨by rw [unhide E]; rfl, rfl⟩
  | false =>
    go_enter Try.func72, Try.ntmps72
    go_wp2_with fail
    refine (unhide Qa _).mono ?_
    rintro e w1 ⟨rfl, rfl⟩
    go_wp2_with fail
    refine (unhide Qb _).mono ?_
    rintro e w1 ⟨rfl, rfl⟩
    go_wp2
    go_ret
    exact ⟨by rw [unhide E]; rfl, rfl⟩

end Go.Proofs.Ytnfdokcpjcnknaa

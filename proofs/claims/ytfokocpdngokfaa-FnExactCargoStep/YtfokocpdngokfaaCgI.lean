/- The program's cargoOpOk and cargoDeeds. Written by wip/mkcgi.py. -/
import Derived.Test.YtfokocpdngokfaaCgM
import Derived.Deep.QuietTactic
import Derived.BigQuiet
import Derived.Deep.DeepCutAuto
namespace Go.Proofs.Ytfokocpdngokfaa
open Go.RowKit

def mstK (k : Int) : Int := if k = 4 ∨ k = 5 then 100 else 100000
def opI (n k a b m : Int) : Bool := inB a 0 (n - 1) && (inB m 1 (mstK k) && (k != 3 || (inB b 0 (n - 1) && b != a)))
theorem cgOp_opI {n k a b m : Int} (h : inB k 1 5 = true) : cgOp n k a b m = opI n k a b m := by
  have hk := inB_true h
  unfold cgOp opI mstK
  rw [h, Bool.true_and]
  congr 1
  by_cases h4 : 4 ≤ k
  · rw [if_pos h4, if_pos (by omega), show (k != 3) = true from bne_iff_ne.2 (by omega), Bool.true_or, Bool.and_true]
  · rw [if_neg h4, if_neg (by omega)]
set_option maxHeartbeats 1000000 in
theorem mostOfKind_any (k : Int) (w : World) : Calls Try.prog 68 #[.int .i64 k] w fun e w' => e = .returned (.int .i64 (mstK k)) ∧ w' = w := by
  unfold mstK
  by_cases h4 : k = 4
  · subst h4
    go_enter Try.func68, Try.ntmps68
    go_wp2
    go_ret
    exact ⟨rfl, rfl⟩
  · have d4 : (k == 4) = false := by simpa using h4
    by_cases h5 : k = 5
    · subst h5
      go_enter Try.func68, Try.ntmps68
      go_wp2
      go_ret
      exact ⟨rfl, rfl⟩
    · have d5 : (k == 5) = false := by simpa using h5
      rw [if_neg (by omega)]
      go_enter Try.func68, Try.ntmps68
      go_wp2
      go_ret
      exact ⟨rfl, rfl⟩

set_option maxRecDepth 10000 in
set_option maxHeartbeats 4000000 in
theorem cargoOpOk_any (n k a b m : Int) (w : World) (hn0 : 0 ≤ n) (hn1 : n ≤ 1048576) :
    Calls Try.prog 42 #[vCargoOp k a b m, .int .i64 n] w fun e w' => e = .returned (.bool (opI n k a b m)) ∧ Below w.heap.size w w' := by
  have HW := hide (Below.alloc1 w (.cells #[.int .i64 k, .int .i64 a, .int .i64 b, .int .i64 m] 31))
  have ho := ownV_alloc w #[.int .i64 k, .int .i64 a, .int .i64 b, .int .i64 m] 31
  obtain ⟨V, eV⟩ : ∃ z, z = w.alloc (.cells #[.int .i64 k, .int .i64 a, .int .i64 b, .int .i64 m] 31) := ⟨_, rfl⟩
  rw [← eV] at HW ho
  have c0 := ho.cell (i := 0) rfl
  have c1 := ho.cell (i := 1) rfl
  have c2 := ho.cell (i := 2) rfl
  have c3 := ho.cell (i := 3) rfl
  clear ho
  have HR : Hid (opI n k a b m = (inB a 0 (n - 1) && (inB m 1 (mstK k) && (k != 3 || (inB b 0 (n - 1) && b != a))))) := rfl
  have Q1 := hide fun V => within_any a 0 (n - 1) V
  have QK := hide fun V => mostOfKind_any k V
  have Q2 := hide fun V => within_any m 1 (mstK k) V
  have Q3 := hide fun V => within_any b 0 (n - 1) V
  generalize mstK k = mk at *
  generalize opI n k a b m = r at *
  generalize inB a 0 (n - 1) = b1 at *
  generalize inB m 1 mk = b2 at *
  generalize inB b 0 (n - 1) = b3 at *
  have qn : IntKind.i64.wrap (n - 1) = n - 1 := by rw [IntKind.wrap_i64]; omega
  unfold vCargoOp
  go_enter Try.func42, Try.ntmps42
  go_upto_region 1 with (fail)
  rw [← eV]
  clear eV
  cases b1 with
  | false =>
    refine wp_region_quiet_lit (by kernel_rfl) (by kernel_rfl) ?_
    repeat (go_big_quiet_step (fail))
    go_big_quiet_want
    go_big_quiet_op
    go_big_quiet_call (exact Calls.quiet_of_same (unhide Q1 _))
    repeat (go_big_quiet_step (fail))
    refine wpQuiet_nil ?_
    intro _ hw'
    obtain ⟨nq, hw''⟩ := hw'
    subst hw''
    have e1 : r = false := by rw [unhide HR]; first | rfl | simp
    subst e1
    go_wp2
    go_ret
    exact ⟨rfl, below_drewN (unhide HW) _⟩
  | true =>
  cases b2 with
  | false =>
    refine wp_region_quiet_lit (by kernel_rfl) (by kernel_rfl) ?_
    repeat (go_big_quiet_step (fail))
    go_big_quiet_want
    go_big_quiet_op
    go_big_quiet_call (exact Calls.quiet_of_same (unhide Q1 _))
    repeat (go_big_quiet_step (fail))
    go_big_quiet_want
    go_big_quiet_op
    go_big_quiet_call (exact Calls.quiet_of_same (unhide QK _))
    repeat (go_big_quiet_step (fail))
    go_big_quiet_want
    go_big_quiet_op
    go_big_quiet_call (exact Calls.quiet_of_same (unhide Q2 _))
    repeat (go_big_quiet_step (fail))
    refine wpQuiet_nil ?_
    intro _ hw'
    obtain ⟨nq, hw''⟩ := hw'
    subst hw''
    have e1 : r = false := by rw [unhide HR]; first | rfl | simp
    subst e1
    go_wp2
    go_ret
    exact ⟨rfl, below_drewN (unhide HW) _⟩
  | true =>
  refine wp_region_quiet_lit (by kernel_rfl) (by kernel_rfl) ?_
  repeat (go_big_quiet_step (fail))
  go_big_quiet_want
  go_big_quiet_op
  go_big_quiet_call (exact Calls.quiet_of_same (unhide Q1 _))
  repeat (go_big_quiet_step (fail))
  go_big_quiet_want
  go_big_quiet_op
  go_big_quiet_call (exact Calls.quiet_of_same (unhide QK _))
  repeat (go_big_quiet_step (fail))
  go_big_quiet_want
  go_big_quiet_op
  go_big_quiet_call (exact Calls.quiet_of_same (unhide Q2 _))
  repeat (go_big_quiet_step (fail))
  refine wpQuiet_nil ?_
  intro _ hw'
  obtain ⟨nq, hw''⟩ := hw'
  subst hw''
  by_cases h3 : k = 3
  · subst h3
    cases b3 with
    | false =>
      go_wp2_with fail
      refine (unhide Q3 _).mono ?_
      rintro e w9 ⟨rfl, h9⟩
      have h8 := h9.symm
      subst h8
      clear h9
      have e1 : r = false := by rw [unhide HR]; first | rfl | simp
      subst e1
      go_wp2
      go_ret
      exact ⟨rfl, below_drewN (unhide HW) _⟩
    | true =>
      go_wp2_with fail
      refine (unhide Q3 _).mono ?_
      rintro e w9 ⟨rfl, h9⟩
      have h8 := h9.symm
      subst h8
      clear h9
      cases hne : b != a with
      | true =>
        rw [hne] at HR
        have e1 : r = true := by rw [unhide HR]; first | rfl | simp
        subst e1
        go_wp2
        go_ret
        exact ⟨rfl, below_drewN (unhide HW) _⟩
      | false =>
        rw [hne] at HR
        have e1 : r = false := by rw [unhide HR]; first | rfl | simp
        subst e1
        go_wp2
        go_ret
        exact ⟨rfl, below_drewN (unhide HW) _⟩
  · have d3 : (k != 3) = true := bne_iff_ne.2 h3
    rw [d3] at HR
    have e1 : r = true := by rw [unhide HR]; first | rfl | simp
    subst e1
    go_wp2
    go_ret
    exact ⟨rfl, below_drewN (unhide HW) _⟩

end Go.Proofs.Ytfokocpdngokfaa

/- The laws' own less, where the first is a whole number and not below the second. -/
import Derived.Test.YtcljgaofpeaplaaClM
import Derived.Test.YtcljgaofpeaplaaFlatA
import Derived.Deep.QuietTactic
import Derived.BigQuiet
import Derived.Deep.DeepCutAuto
import Derived.Deep.Cut
import Derived.BigRegion
namespace Go.Proofs.Ytcljgaofpeaplaa
open Go.RowKit

set_option maxRecDepth 10000 in
set_option maxHeartbeats 4000000 in
theorem less1_any (a1 b1 b2 : Int) (w : World) (h1 : 0 ≤ a1 ∧ a1 ≤ 1000000000000) (h2 : 0 ≤ b1 ∧ b1 ≤ 1000000000000000000) (h3 : 1 ≤ b2 ∧ b2 ≤ 10000000) (h4 : b1 ≤ a1 * b2) :
    Calls Try.prog 13 #[v2 (a1, 1), v2 (b1, b2)] w fun e w' => e = .returned (.bool false) ∧ Below w.heap.size w w' := by
  obtain ⟨q, eq⟩ : ∃ q, q = b1 / b2 := ⟨_, rfl⟩
  have e1 : b1.tdiv b2 = q := by rw [Int.tdiv_eq_ediv_of_nonneg h2.1, ← eq]
  have e2 : b1 / b2 = q := eq.symm
  have hm := Int.emod_add_mul_ediv b1 b2
  have hr0 := Int.emod_nonneg b1 (show b2 ≠ 0 by omega)
  have hr1 := Int.emod_lt_of_pos b1 (show 0 < b2 by omega)
  rw [← eq] at hm
  obtain ⟨r, er⟩ : ∃ r, r = b1 % b2 := ⟨_, rfl⟩
  have e3 : b1.tmod b2 = r := by rw [Int.tmod_eq_emod_of_nonneg h2.1, ← er]
  have e4 : b1 % b2 = r := er.symm
  rw [← er] at hm hr0 hr1
  have hq0 : 0 ≤ q := by rw [eq]; exact Int.ediv_nonneg h2.1 (by omega)
  have hqa : q ≤ a1 := by
    rw [eq]
    exact Int.ediv_le_of_le_mul (by omega) h4
  have HQL : Hid (a1 = q → b1 - q * b2 ≤ 0) := fun h => by rw [← h]; omega
  obtain ⟨m, em⟩ : ∃ m, m = q * b2 := ⟨_, rfl⟩
  have hmb : b1 = m + r := by rw [em, Int.mul_comm q b2]; omega
  have hm0 : 0 ≤ m := by rw [em]; exact Int.mul_nonneg hq0 (by omega)
  have q1 : IntKind.i64.wrap (q * b2) = m := by rw [← em, IntKind.wrap_i64]; omega
  have q2 : q * b2 = m := em.symm
  rw [q2] at HQL
  have n2 : ¬ b2 = 0 := by omega
  have HMB := hide hmb
  have hqb : q ≤ 1000000000000 := by omega
  have qw : IntKind.i64.wrap q = q := by rw [IntKind.wrap_i64]; omega
  clear eq er em hm h4 hmb
  unfold v2
  have HB := hide (Below.step (Below.alloc1 w (.cells #[.int .i64 a1, .int .i64 1] 36)) (Below.alloc1 _ (.cells #[.int .i64 b1, .int .i64 b2] 36)))
  go_enter Try.func13, Try.ntmps13
  go_wp2
  go_quiet (fail)
  have dr : decide (r < 0) = false := by simp; omega
  by_cases hpq : a1 = q
  · subst hpq
    have hle := unhide HQL rfl
    have df : decide (m < b1) = false := by simp; omega
    have hmr := unhide HMB
    have w1 : wrap64 m = m := by unfold wrap64; omega
    have w2 : wrap64 (b1 - m) = b1 - m := by unfold wrap64; omega
    clear hmr
    go_wp2
    go_ret
    exact ⟨by first | exact ret_bool rfl | exact ret_bool df, below_drewN (unhide HB) _⟩
  · have dq : (a1 != q) = true := by simpa using hpq
    have dl : decide (a1 < q) = false := by simp; omega
    go_wp2
    go_ret
    exact ⟨rfl, below_drewN (unhide HB) _⟩

end Go.Proofs.Ytcljgaofpeaplaa

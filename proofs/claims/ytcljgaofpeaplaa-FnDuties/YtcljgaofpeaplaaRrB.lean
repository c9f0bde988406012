/- Dots, crosses and differences of vectors, both sides; l8Least of the specification. Written by wip/mkrr2.py. -/
import Derived.Test.YtcljgaofpeaplaaRrA
import Derived.Test.YtcljgaofpeaplaaStD
namespace Go.Proofs.Ytcljgaofpeaplaa
open Go.RowKit

theorem natMul {a b : Int} {A B : Nat} (h : a.natAbs ≤ A) (h' : b.natAbs ≤ B) : (a * b).natAbs ≤ A * B := by
  rw [Int.natAbs_mul]
  exact Nat.mul_le_mul h h'

set_option maxHeartbeats 800000 in
theorem implDot_any (p q r s : Int) (w : World) (h1 : p.natAbs ≤ 200000) (h2 : q.natAbs ≤ 200000) (h3 : r.natAbs ≤ 200000) (h4 : s.natAbs ≤ 200000) :
    Calls Try.prog 30 #[vV p q, vV r s] w fun e w' => e = .returned (.int .i64 (p * r + q * s)) ∧ Below w.heap.size w w' := by
  have a1 := natMul h1 h3
  have a2 := natMul h2 h4
  obtain ⟨m, em⟩ : ∃ m, m = p * r := ⟨_, rfl⟩
  obtain ⟨n, en⟩ : ∃ n, n = q * s := ⟨_, rfl⟩
  rw [← em] at a1
  rw [← en] at a2
  have b1 : -40000000000 ≤ m := by omega
  have b2 : m ≤ 40000000000 := by omega
  have b3 : -40000000000 ≤ n := by omega
  have b4 : n ≤ 40000000000 := by omega
  have q1 : IntKind.i64.wrap (p * r) = m := by rw [← em, IntKind.wrap_i64]; omega
  have q2 : IntKind.i64.wrap (q * s) = n := by rw [← en, IntKind.wrap_i64]; omega
  have E : Hid (m + n = p * r + q * s) := by show _ = _; rw [em, en]
  clear em en a1 a2 h1 h2 h3 h4
  have HW : Hid (Below w.heap.size w ((w.alloc (.cells #[.int .i64 p, .int .i64 q] 54)).alloc (.cells #[.int .i64 r, .int .i64 s] 54))) := ((Below.refl _ _).alloc (Nat.le_refl _) _).alloc (by simp) _
  go_enter Try.func30, Try.ntmps30
  go_wp2
  go_ret
  exact ⟨ret_int (unhide E), unhide HW⟩

set_option maxHeartbeats 800000 in
theorem implCross_any (p q r s : Int) (w : World) (h1 : p.natAbs ≤ 200000) (h2 : q.natAbs ≤ 200000) (h3 : r.natAbs ≤ 200000) (h4 : s.natAbs ≤ 200000) :
    Calls Try.prog 32 #[vV p q, vV r s] w fun e w' => e = .returned (.int .i64 (p * s - q * r)) ∧ Below w.heap.size w w' := by
  have a1 := natMul h1 h4
  have a2 := natMul h2 h3
  obtain ⟨m, em⟩ : ∃ m, m = p * s := ⟨_, rfl⟩
  obtain ⟨n, en⟩ : ∃ n, n = q * r := ⟨_, rfl⟩
  rw [← em] at a1
  rw [← en] at a2
  have b1 : -40000000000 ≤ m := by omega
  have b2 : m ≤ 40000000000 := by omega
  have b3 : -40000000000 ≤ n := by omega
  have b4 : n ≤ 40000000000 := by omega
  have q1 : IntKind.i64.wrap (p * s) = m := by rw [← em, IntKind.wrap_i64]; omega
  have q2 : IntKind.i64.wrap (q * r) = n := by rw [← en, IntKind.wrap_i64]; omega
  have E : Hid (m - n = p * s - q * r) := by show _ = _; rw [em, en]
  clear em en a1 a2 h1 h2 h3 h4
  have HW : Hid (Below w.heap.size w ((w.alloc (.cells #[.int .i64 p, .int .i64 q] 54)).alloc (.cells #[.int .i64 r, .int .i64 s] 54))) := ((Below.refl _ _).alloc (Nat.le_refl _) _).alloc (by simp) _
  go_enter Try.func32, Try.ntmps32
  go_wp2
  go_ret
  exact ⟨ret_int (unhide E), unhide HW⟩

set_option maxHeartbeats 800000 in
theorem implLess_any (p q r s : Int) (w : World) (h1 : -100000 ≤ p) (h2 : p ≤ 100000) (h3 : -100000 ≤ q) (h4 : q ≤ 100000) (h5 : -100000 ≤ r) (h6 : r ≤ 100000) (h7 : -100000 ≤ s) (h8 : s ≤ 100000) :
    Calls Try.prog 29 #[vV p q, vV r s] w fun e w' => e = .returned (vV (p - r) (q - s)) ∧ Below w.heap.size w w' := by
  go_enter Try.func29, Try.ntmps29
  go_wp2
  refine bodyPost_ret (v := vV (p - r) (q - s)) (by simp [results, Try.results29, go_sem]) rfl ⟨rfl, ?_⟩
  exact (((Below.refl _ _).alloc (Nat.le_refl _) _).alloc (by simp) _).alloc (by simp; omega) _

end Go.Proofs.Ytcljgaofpeaplaa

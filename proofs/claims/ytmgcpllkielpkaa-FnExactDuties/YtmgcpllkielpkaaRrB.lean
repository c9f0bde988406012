/- Dots, crosses and differences of vectors, both sides; l8Least of the specification. Written by wip/mkrr2.py. -/
import Derived.Test.YtmgcpllkielpkaaRrA
import Derived.Test.YtmgcpllkielpkaaStD
namespace Go.Proofs.Ytmgcpllkielpkaa
open Go.RowKit

theorem natMul {a b : Int} {A B : Nat} (h : a.natAbs ≤ A) (h' : b.natAbs ≤ B) : (a * b).natAbs ≤ A * B := by
  rw [Int.natAbs_mul]
  exact Nat.mul_le_mul h h'

set_option maxHeartbeats 800000 in
theorem implDot_any (p q r s : Int) (w : World) (h1 : p.natAbs ≤ 200000) (h2 : q.natAbs ≤ 200000) (h3 : r.natAbs ≤ 200000) (h4 : s.natAbs ≤ 200000) :
    Calls Try.prog 55 #[vV p q, vV r s] w fun e w' => e = .returned (.int .i64 (p * r + q * s)) ∧ Below w.heap.size w w' := by
  have a1 := natMul h1 h3
  have a2 := natMul h2 h4
  obtain ⟨m, em⟩ : ∃ m, m = p * r := ⟨_, rfl⟩
  obtain ⟨n, en⟩ : ∃ n, n = q * s := ⟨_, rfl⟩
  rw [← em] at a1
  rw [← en] at a2
  have b1 : -40000000000 ≤ m := by omega
  have b2 : m ≤ 40000000000 := by omega
  have b3 : -40000000000 ≤ n := by omega
  have b4 : n ≤ 40000000000 := by omega
  have q1 : IntKind.i64.wrap (p * r) = m := by rw [← em, IntKind.wrap_i64]; omega
  have q2 : IntKind.i64.wrap (q * s) = n := by rw [← en, IntKind.wrap_i64]; omega
  have E : Hid (m + n = p * r + q * s) := by show _ = _; rw [em, en]
  clear em en a1 a2 h1 h2 h3 h4
  have HW : Hid (Below w.heap.size w ((w.alloc (.cells #[.int .i64 p, .int .i64 q] 68)).alloc (.cells #[.int .i64 r, .int .i64 s] 68))) := ((Below.refl _ _).alloc (Nat.le_refl _) _).alloc (by simp) _
  go_enter Try.func55, Try.ntmps55
  go_wp2
  go_ret
  exact ⟨ret_int (unhide E), unhide HW⟩

set_option maxHeartbeats 800000 in
theorem implCross_any (p q r s : Int) (w : World) (h1 : p.natAbs ≤ 200000) (h2 : q.natAbs ≤ 200000) (h3 : r.natAbs ≤ 200000) (h4 : s.natAbs ≤ 200000) :
    Calls Try.prog 57 #[vV p q, vV r s] w fun e w' => e = .returned (.int .i64 (p * s - q * r)) ∧ Below w.heap.size w w' := by
  have a1 := natMul h1 h4
  have a2 := natMul h2 h3
  obtain ⟨m, em⟩ : ∃ m, m = p * s := ⟨_, rfl⟩
  obtain ⟨n, en⟩ : ∃ n, n = q * r := ⟨_, rfl⟩
  rw [← em] at a1
  rw [← en] at a2
  have b1 : -40000000000 ≤ m := by omega
  have b2 : m ≤ 40000000000 := by omega
  have b3 : -40000000000 ≤ n := by omega
  have b4 : n ≤ 40000000000 := by omega
  have q1 : IntKind.i64.wrap (p * s) = m := by rw [← em, IntKind.wrap_i64]; omega
  have q2 : IntKind.i64.wrap (q * r) = n := by rw [← en, IntKind.wrap_i64]; omega
  have E : Hid (m - n = p * s - q * r) := by show _ = _; rw [em, en]
  clear em en a1 a2 h1 h2 h3 h4
  have HW : Hid (Below w.heap.size w ((w.alloc (.cells #[.int .i64 p, .int .i64 q] 68)).alloc (.cells #[.int .i64 r, .int .i64 s] 68))) := ((Below.refl _ _).alloc (Nat.le_refl _) _).alloc (by simp) _
  go_enter Try.func57, Try.ntmps57
  go_wp2
  go_ret
  exact ⟨ret_int (unhide E), unhide HW⟩

set_option maxHeartbeats 800000 in
theorem specDot_any (p q r s : Int) (w : World) (h1 : p.natAbs ≤ 200000) (h2 : q.natAbs ≤ 200000) (h3 : r.natAbs ≤ 200000) (h4 : s.natAbs ≤ 200000) :
    Calls Try.prog 60 #[vV p q, vV r s] w fun e w' => e = .returned (.int .i64 (p * r + q * s)) ∧ Below w.heap.size w w' := by
  have a1 := natMul h1 h3
  have a2 := natMul h2 h4
  obtain ⟨m, em⟩ : ∃ m, m = p * r := ⟨_, rfl⟩
  obtain ⟨n, en⟩ : ∃ n, n = q * s := ⟨_, rfl⟩
  rw [← em] at a1
  rw [← en] at a2
  have b1 : -40000000000 ≤ m := by omega
  have b2 : m ≤ 40000000000 := by omega
  have b3 : -40000000000 ≤ n := by omega
  have b4 : n ≤ 40000000000 := by omega
  have q1 : IntKind.i64.wrap (p * r) = m := by rw [← em, IntKind.wrap_i64]; omega
  have q2 : IntKind.i64.wrap (q * s) = n := by rw [← en, IntKind.wrap_i64]; omega
  have E : Hid (m + n = p * r + q * s) := by show _ = _; rw [em, en]
  clear em en a1 a2 h1 h2 h3 h4
  have HW : Hid (Below w.heap.size w ((w.alloc (.cells #[.int .i64 p, .int .i64 q] 76)).alloc (.cells #[.int .i64 r, .int .i64 s] 76))) := ((Below.refl _ _).alloc (Nat.le_refl _) _).alloc (by simp) _
  go_enter Try.func60, Try.ntmps60
  go_wp2
  go_ret
  exact ⟨ret_int (unhide E), unhide HW⟩

set_option maxHeartbeats 800000 in
theorem specCross_any (p q r s : Int) (w : World) (h1 : p.natAbs ≤ 200000) (h2 : q.natAbs ≤ 200000) (h3 : r.natAbs ≤ 200000) (h4 : s.natAbs ≤ 200000) :
    Calls Try.prog 61 #[vV p q, vV r s] w fun e w' => e = .returned (.int .i64 (p * s - q * r)) ∧ Below w.heap.size w w' := by
  have a1 := natMul h1 h4
  have a2 := natMul h2 h3
  obtain ⟨m, em⟩ : ∃ m, m = p * s := ⟨_, rfl⟩
  obtain ⟨n, en⟩ : ∃ n, n = q * r := ⟨_, rfl⟩
  rw [← em] at a1
  rw [← en] at a2
  have b1 : -40000000000 ≤ m := by omega
  have b2 : m ≤ 40000000000 := by omega
  have b3 : -40000000000 ≤ n := by omega
  have b4 : n ≤ 40000000000 := by omega
  have q1 : IntKind.i64.wrap (p * s) = m := by rw [← em, IntKind.wrap_i64]; omega
  have q2 : IntKind.i64.wrap (q * r) = n := by rw [← en, IntKind.wrap_i64]; omega
  have E : Hid (m - n = p * s - q * r) := by show _ = _; rw [em, en]
  clear em en a1 a2 h1 h2 h3 h4
  have HW : Hid (Below w.heap.size w ((w.alloc (.cells #[.int .i64 p, .int .i64 q] 76)).alloc (.cells #[.int .i64 r, .int .i64 s] 76))) := ((Below.refl _ _).alloc (Nat.le_refl _) _).alloc (by simp) _
  go_enter Try.func61, Try.ntmps61
  go_wp2
  go_ret
  exact ⟨ret_int (unhide E), unhide HW⟩

set_option maxHeartbeats 800000 in
theorem implLess_any (p q r s : Int) (w : World) (h1 : -100000 ≤ p) (h2 : p ≤ 100000) (h3 : -100000 ≤ q) (h4 : q ≤ 100000) (h5 : -100000 ≤ r) (h6 : r ≤ 100000) (h7 : -100000 ≤ s) (h8 : s ≤ 100000) :
    Calls Try.prog 54 #[vV p q, vV r s] w fun e w' => e = .returned (vV (p - r) (q - s)) ∧ Below w.heap.size w w' := by
  go_enter Try.func54, Try.ntmps54
  go_wp2
  refine bodyPost_ret (v := vV (p - r) (q - s)) (by simp [results, Try.results54, go_sem]) rfl ⟨rfl, ?_⟩
  exact (((Below.refl _ _).alloc (Nat.le_refl _) _).alloc (by simp) _).alloc (by simp; omega) _

set_option maxHeartbeats 800000 in
theorem specBearing_any (ax ay au av ak ad cx cy cu cv ck cd : Int) (w : World) (hax1 : -100000 ≤ ax) (hax2 : ax ≤ 100000) (hay1 : -100000 ≤ ay) (hay2 : ay ≤ 100000) (hcx1 : -100000 ≤ cx) (hcx2 : cx ≤ 100000) (hcy1 : -100000 ≤ cy) (hcy2 : cy ≤ 100000) :
    Calls Try.prog 58 #[vShip ax ay au av ak ad, vShip cx cy cu cv ck cd] w fun e w' => e = .returned (vV (cx - ax) (cy - ay)) ∧ Below w.heap.size w w' := by
  unfold vShip
  go_enter Try.func58, Try.ntmps58
  go_wp2
  refine bodyPost_ret (v := vV (cx - ax) (cy - ay)) (by simp [results, Try.results58, go_sem]) rfl ⟨rfl, ?_⟩
  exact (((Below.refl _ _).alloc (Nat.le_refl _) _).alloc (by simp) _).alloc (by simp; omega) _

set_option maxHeartbeats 800000 in
theorem specDiff_any (ax ay au av ak ad cx cy cu cv ck cd : Int) (w : World) (hau1 : -100000 ≤ au) (hau2 : au ≤ 100000) (hav1 : -100000 ≤ av) (hav2 : av ≤ 100000) (hcu1 : -100000 ≤ cu) (hcu2 : cu ≤ 100000) (hcv1 : -100000 ≤ cv) (hcv2 : cv ≤ 100000) :
    Calls Try.prog 59 #[vShip ax ay au av ak ad, vShip cx cy cu cv ck cd] w fun e w' => e = .returned (vV (cu - au) (cv - av)) ∧ Below w.heap.size w w' := by
  unfold vShip
  go_enter Try.func59, Try.ntmps59
  go_wp2
  refine bodyPost_ret (v := vV (cu - au) (cv - av)) (by simp [results, Try.results59, go_sem]) rfl ⟨rfl, ?_⟩
  exact (((Below.refl _ _).alloc (Nat.le_refl _) _).alloc (by simp) _).alloc (by simp; omega) _

set_option maxHeartbeats 1600000 in
theorem l8Least5_any (k d : Int) (w : World) (h1 : k.natAbs ≤ 400000000) (h2 : d.natAbs ≤ 400000000) :
    Calls Try.prog 64 #[.int .i64 k, .int .i64 5, .int .i64 d, .int .i64 29] w fun e w' => e = .returned (.bool (decide (5 * (k * k) ≤ 29 * (d * d)))) ∧ w' = w := by
  have a1 := natMul h1 h1
  have a2 := natMul h2 h2
  have s1 : 0 ≤ k * k := by rw [← Int.natAbs_mul_self]; omega
  have s2 : 0 ≤ d * d := by rw [← Int.natAbs_mul_self]; omega
  obtain ⟨x, ex⟩ : ∃ m, m = k * k := ⟨_, rfl⟩
  obtain ⟨y, ey⟩ : ∃ m, m = d * d := ⟨_, rfl⟩
  rw [← ex, ← ey]
  rw [← ex] at a1 s1
  rw [← ey] at a2 s2
  have b1 : x ≤ 160000000000000000 := by omega
  have b2 : y ≤ 160000000000000000 := by omega
  have q1 : IntKind.i64.wrap (k * k) = x := by rw [← ex, IntKind.wrap_i64]; omega
  have q2 : IntKind.i64.wrap (d * d) = y := by rw [← ey, IntKind.wrap_i64]; omega
  clear ex ey a1 a2 h1 h2
  have t1 : IntKind.i64.wrap (x.tdiv 1048576) = x / 1048576 := by rw [Int.tdiv_eq_ediv_of_nonneg s1, IntKind.wrap_i64]; omega
  have t2 : IntKind.i64.wrap (y.tdiv 1048576) = y / 1048576 := by rw [Int.tdiv_eq_ediv_of_nonneg s2, IntKind.wrap_i64]; omega
  have E : Hid (∀ b : Bool, (b = true ↔ 5 * x ≤ 29 * y) → b = decide (5 * x ≤ 29 * y)) := by
    intro b hb
    by_cases h : 5 * x ≤ 29 * y
    · rw [hb.2 h, decide_eq_true h]
    · rw [decide_eq_false h]
      cases b
      · rfl
      · exact absurd (hb.1 rfl) h
  go_enter Try.func64, Try.ntmps64
  go_wp2
  all_goals
    go_ret
    refine ⟨ret_bool (unhide E _ ?_), rfl⟩
    simp only [bne_iff_ne, ne_eq, decide_eq_true_eq, bne_eq_false_iff_eq] at *
    omega

set_option maxHeartbeats 1600000 in
theorem l8Least100_any (k d : Int) (w : World) (h1 : k.natAbs ≤ 400000000) (h2 : d.natAbs ≤ 400000000) :
    Calls Try.prog 64 #[.int .i64 k, .int .i64 100, .int .i64 d, .int .i64 1] w fun e w' => e = .returned (.bool (decide (100 * (k * k) ≤ 1 * (d * d)))) ∧ w' = w := by
  have a1 := natMul h1 h1
  have a2 := natMul h2 h2
  have s1 : 0 ≤ k * k := by rw [← Int.natAbs_mul_self]; omega
  have s2 : 0 ≤ d * d := by rw [← Int.natAbs_mul_self]; omega
  obtain ⟨x, ex⟩ : ∃ m, m = k * k := ⟨_, rfl⟩
  obtain ⟨y, ey⟩ : ∃ m, m = d * d := ⟨_, rfl⟩
  rw [← ex, ← ey]
  rw [← ex] at a1 s1
  rw [← ey] at a2 s2
  have b1 : x ≤ 160000000000000000 := by omega
  have b2 : y ≤ 160000000000000000 := by omega
  have q1 : IntKind.i64.wrap (k * k) = x := by rw [← ex, IntKind.wrap_i64]; omega
  have q2 : IntKind.i64.wrap (d * d) = y := by rw [← ey, IntKind.wrap_i64]; omega
  clear ex ey a1 a2 h1 h2
  have t1 : IntKind.i64.wrap (x.tdiv 1048576) = x / 1048576 := by rw [Int.tdiv_eq_ediv_of_nonneg s1, IntKind.wrap_i64]; omega
  have t2 : IntKind.i64.wrap (y.tdiv 1048576) = y / 1048576 := by rw [Int.tdiv_eq_ediv_of_nonneg s2, IntKind.wrap_i64]; omega
  have E : Hid (∀ b : Bool, (b = true ↔ 100 * x ≤ 1 * y) → b = decide (100 * x ≤ 1 * y)) := by
    intro b hb
    by_cases h : 100 * x ≤ 1 * y
    · rw [hb.2 h, decide_eq_true h]
    · rw [decide_eq_false h]
      cases b
      · rfl
      · exact absurd (hb.1 rfl) h
  go_enter Try.func64, Try.ntmps64
  go_wp2
  all_goals
    go_ret
    refine ⟨ret_bool (unhide E _ ?_), rfl⟩
    simp only [bne_iff_ne, ne_eq, decide_eq_true_eq, bne_eq_false_iff_eq] at *
    omega


end Go.Proofs.Ytmgcpllkielpkaa

/- Contracts of the specification's l2Less, l2FracOk and of the program's leastOk. -/
import Derived.Test.YticcjdcglfiggaaStI
import Derived.Test.YticcjdcglfiggaaWalkF
import Derived.Laws.StructEq
namespace Go.Proofs.Yticcjdcglfiggaa
open Go.RowKit

set_option maxHeartbeats 800000 in
theorem l2Less_any (a1 a2 b1 b2 : Int) (w : World) (h1 : -200000000000000000 ≤ a1) (h2 : a1 ≤ 200000000000000000) (h3 : 0 < a2) (h4 : a2 ≤ 200000000000000) (h5 : -1000 ≤ b1) (h6 : b1 ≤ 1000) (h7 : 1 ≤ b2) (h8 : b2 ≤ 1000) :
    Calls Try.prog 85 #[v2 (a1, a2), v2 (b1, b2)] w fun e w' => e = .returned (.bool (lessB (a1, a2) (b1, b2))) ∧ Below w.heap.size w w' := by
  obtain ⟨f1, f2⟩ := floorV_rest a1 a2 h3
  obtain ⟨f3, f4⟩ := floorV_rest b1 b2 (by omega)
  have HF := hide (less_f a1 a2 b1 b2 (floorV a1 a2) (floorV b1 b2) h3 (by omega) f1 f2 f3 f4)
  have C1 := hide fun w => l2Floor_any a1 a2 w (by omega) (by omega) h3
  have C2 := hide fun w => l2Floor_any b1 b2 w (by omega) (by omega) (by omega)
  have p1 := prod_bd' (a := a1 - floorV a1 a2 * a2) (b := b2) (A := 200000000000000) (B := 1000) (by omega) (by omega) (by omega) h8
  have p2 := prod_bd' (a := b1 - floorV b1 b2 * b2) (b := a2) (A := 1000) (B := 200000000000000) (by omega) (by omega) (by omega) h4
  have q1 : IntKind.i64.wrap (floorV a1 a2 * a2) = floorV a1 a2 * a2 := by rw [IntKind.wrap_i64]; omega
  have q2 : IntKind.i64.wrap (floorV b1 b2 * b2) = floorV b1 b2 * b2 := by rw [IntKind.wrap_i64]; omega
  have q3 : IntKind.i64.wrap (a1 - floorV a1 a2 * a2) = a1 - floorV a1 a2 * a2 := by rw [IntKind.wrap_i64]; omega
  have q4 : IntKind.i64.wrap (b1 - floorV b1 b2 * b2) = b1 - floorV b1 b2 * b2 := by rw [IntKind.wrap_i64]; omega
  have q5 : IntKind.i64.wrap ((a1 - floorV a1 a2 * a2) * b2) = (a1 - floorV a1 a2 * a2) * b2 := by rw [IntKind.wrap_i64]; omega
  have q6 : IntKind.i64.wrap ((b1 - floorV b1 b2 * b2) * a2) = (b1 - floorV b1 b2 * b2) * a2 := by rw [IntKind.wrap_i64]; omega
  clear h1 h2 h3 h4 h5 h6 h7 h8 f1 f2 f3 f4 p1 p2
  generalize floorV a1 a2 = p at *
  generalize floorV b1 b2 = q at *
  unfold v2
  obtain ⟨W, eW⟩ : ∃ W, W = (w.alloc (.cells #[.int .i64 a1, .int .i64 a2] 44)).alloc (.cells #[.int .i64 b1, .int .i64 b2] 44) := ⟨_, rfl⟩
  have HB : Hid (Below w.heap.size w W) := by show Below _ _ _; rw [eW]; exact Below.step (Below.alloc1 _ _) (Below.alloc1 _ _)
  have hO : OwnV W w.heap.size [.int .i64 a1, .int .i64 a2] := by rw [eW]; exact OwnV.alloc (ownV_alloc w #[.int .i64 a1, .int .i64 a2] _) _
  have hO' : OwnV W (w.heap.size + 1) [.int .i64 b1, .int .i64 b2] := by
    rw [eW]
    have h := ownV_alloc (w.alloc (.cells #[.int .i64 a1, .int .i64 a2] 44)) #[.int .i64 b1, .int .i64 b2] 44
    simp only [World.size_alloc] at h
    exact h
  have r0 := fun x : Gr W => gr_cell (OwnV.cell hO (i := 0) rfl) x
  have r1 := fun x : Gr W => gr_cell (OwnV.cell hO (i := 1) rfl) x
  have r2 := fun x : Gr W => gr_cell (OwnV.cell hO' (i := 0) rfl) x
  have r3 := fun x : Gr W => gr_cell (OwnV.cell hO' (i := 1) rfl) x
  have S1 := hide fun x : Gr W => (unhide C1 x.val).mono fun e w' ⟨h, h'⟩ => (⟨h, h' ▸ Below.refl _ _⟩ : _ ∧ Below x.val.heap.size x.val w')
  have S2 := hide fun x : Gr W => (unhide C2 x.val).mono fun e w' ⟨h, h'⟩ => (⟨h, h' ▸ Below.refl _ _⟩ : _ ∧ Below x.val.heap.size x.val w')
  have gsome := gr_some W
  have HO := hide hO
  have HO' := hide hO'
  clear hO hO' C1 C2
  go_enter Try.func85, Try.ntmps85
  go_wp2
  rw [← eW]
  clear eW
  refine wp_region_grown (by kernel_rfl) (by kernel_rfl) ?_
  repeat (go_big_quiet_step (fail))
  go_big_quiet_want
  go_big_quiet_op
  go_big_quiet_call (exact calls_grown (unhide S1 _))
  repeat (go_big_quiet_step (fail))
  go_big_quiet_want
  go_big_quiet_op
  go_big_quiet_call (exact calls_grown (unhide S2 _))
  repeat (go_big_quiet_step (fail))
  refine wpQuiet_nil ?_
  intro w1 hw1
  obtain ⟨z, hz⟩ := hw1
  have hb1 : Below W.heap.size W w1 := hz ▸ z.ok
  clear hz z r0 r1 r2 r3 S1 S2 gsome
  have c0 := OwnV.cell (OwnV.step (unhide HO) hb1) (i := 0) rfl
  have c1 := OwnV.cell (OwnV.step (unhide HO) hb1) (i := 1) rfl
  have c2 := OwnV.cell (OwnV.step (unhide HO') hb1) (i := 0) rfl
  have c3 := OwnV.cell (OwnV.step (unhide HO') hb1) (i := 1) rfl
  have HB1 := hide (Below.step (unhide HB) hb1)
  clear hb1 HB HO HO'
  by_cases hpq : p = q
  · rw [if_neg (by simpa using hpq)] at HF
    subst hpq
    go_wp2
    go_quiet (fail)
    have d1 : (w1.drewN nq).cell? ⟨w.heap.size, 1, none⟩ = some (.int .i64 a2) := c1
    have d3 : (w1.drewN nq).cell? ⟨w.heap.size + 1, 1, none⟩ = some (.int .i64 b2) := c3
    go_wp2
    go_ret
    exact ⟨ret_bool (unhide HF).symm, below_drewN (unhide HB1) _⟩
  · rw [if_pos hpq] at HF
    go_wp2
    go_ret
    exact ⟨ret_bool (unhide HF).symm, unhide HB1⟩

set_option maxHeartbeats 800000 in
theorem l2FracOk_any (n d : Int) (w : World) :
    Calls Try.prog 82 #[v2 (n, d), .int .i64 1000] w fun e w' => e = .returned (.bool (leastB (n, d))) ∧ Below w.heap.size w w' := by
  have HF : Hid (leastB (n, d) = (inB n (-1000) 1000 && inB d 1 1000 && decide (Int.gcd n d = 1))) := hide rfl
  unfold v2
  have HB := hide (Below.alloc1 w (.cells #[.int .i64 n, .int .i64 d] 44))
  cases h1 : inB n (-1000) 1000
  case false =>
    rw [h1] at HF
    go_enter Try.func82, Try.ntmps82
    go_wp2_with (go_at_call 77; refine (l1In_any _ _ _ _).mono ?_; rintro e w' ⟨rfl, rfl⟩)
    go_ret
    exact ⟨ret_bool (by rw [unhide HF]; rfl), unhide HB⟩
  cases h2 : inB d 1 1000
  case false =>
    rw [h1, h2] at HF
    go_enter Try.func82, Try.ntmps82
    go_wp2_with (go_at_call 77; refine (l1In_any _ _ _ _).mono ?_; rintro e w' ⟨rfl, rfl⟩)
    go_ret
    exact ⟨ret_bool (by rw [unhide HF]; rfl), unhide HB⟩
  rw [h1, h2] at HF
  have b1 := inB_true h1
  have b2 := inB_true h2
  have HG := hide (l2Gcd_any n d (w.alloc (.cells #[.int .i64 n, .int .i64 d] 44)) (by omega) (by omega) (by omega) (by omega))
  go_enter Try.func82, Try.ntmps82
  go_wp2_with (first | (go_at_call 77; refine (l1In_any _ _ _ _).mono ?_; rintro e w' ⟨rfl, rfl⟩) | (go_at_call 103; refine (unhide HG).mono ?_; rintro e w' ⟨rfl, rfl⟩))
  go_ret
  refine ⟨ret_bool ?_, unhide HB⟩
  rw [unhide HF, Bool.eq_iff_iff]
  simp
  omega

theorem leastB_eq {n d : Int} (h2 : inB d 1 1000 = true) : leastB (n, d) = (inB n (-1000) 1000 && decide (lowV n d = (n, d))) := by
  have := inB_true h2
  unfold leastB
  rw [low_self (by omega), h2]
  simp

theorem Try.eqgFrac : Try.prog.eqGuardType Try.prog.depth 44 = false := by kernel_rfl
theorem Try.heldFrac : Try.prog.stoodInHeld 44 = false := by kernel_rfl

theorem eql_frac (n d N D : Int) (w : World) : (binOp .eql 44 (.agg #[.int .i64 n, .int .i64 d]) (.agg #[.int .i64 N, .int .i64 D])).run Try.prog w = .ok (.bool ((n == N) && (d == D))) w := by
  rw [run_eql_struct, run_equalIn_agg _ _ _ _ _ (by rw [Program.fieldsOf, Try.underlying44]) Try.heldFrac]
  simp [go_sem, Program.fieldsOf, Try.underlying44, Try.underlying3]
  by_cases h1 : n = N <;> by_cases h2 : d = D <;> simp [h1, h2]

set_option maxHeartbeats 800000 in
theorem leastOk_any (n d : Int) (w : World) :
    Calls Try.prog 66 #[v2 (n, d)] w fun e w' => e = .returned (.bool (leastB (n, d))) ∧ Below w.heap.size w w' := by
  have HF : Hid (leastB (n, d) = (inB n (-1000) 1000 && inB d 1 1000 && decide (Int.gcd n d = 1))) := hide rfl
  unfold v2
  obtain ⟨W, eW⟩ : ∃ W, W = w.alloc (.cells #[.int .i64 n, .int .i64 d] 44) := ⟨_, rfl⟩
  have HB : Hid (Below w.heap.size w W) := by show Below _ _ _; rw [eW]; exact Below.alloc1 _ _
  have hO : OwnV W w.heap.size [.int .i64 n, .int .i64 d] := by rw [eW]; exact ownV_alloc w #[.int .i64 n, .int .i64 d] _
  have r0 := fun x : Gr W => gr_cell (OwnV.cell hO (i := 0) rfl) x
  have r1 := fun x : Gr W => gr_cell (OwnV.cell hO (i := 1) rfl) x
  have S1 := hide fun x : Gr W => (within_any n (-1000) 1000 x.val).mono fun e w' ⟨h, h'⟩ => (⟨h, h' ▸ Below.refl _ _⟩ : _ ∧ Below x.val.heap.size x.val w')
  have S2 := hide fun x : Gr W => (within_any d 1 1000 x.val).mono fun e w' ⟨h, h'⟩ => (⟨h, h' ▸ Below.refl _ _⟩ : _ ∧ Below x.val.heap.size x.val w')
  have gsome := gr_some W
  have HL : Hid (inB d 1 1000 = true → leastB (n, d) = (inB n (-1000) 1000 && decide (lowV n d = (n, d)))) := fun h => leastB_eq h
  have HLo : Hid (inB n (-1000) 1000 = true → inB d 1 1000 = true → ∀ x : Gr W, Calls Try.prog 95 #[.int .i64 n, .int .i64 d] x.val fun e w' => e = .returned (v2 (lowV n d)) ∧ Below x.val.heap.size x.val w') := fun h1 h2 x => by
    have := inB_true h1
    have := inB_true h2
    exact lowest_any n d x.val (by omega) (by omega) (by omega) (by omega)
  clear hO
  generalize inB n (-1000) 1000 = k1 at *
  generalize inB d 1 1000 = k2 at *
  go_enter Try.func66, Try.ntmps66
  go_wp2
  rw [← eW]
  clear eW
  refine wp_region_grown (by kernel_rfl) (by kernel_rfl) ?_
  repeat (go_big_quiet_step (fail))
  go_big_quiet_want
  go_big_quiet_op
  go_big_quiet_call (exact calls_grown (unhide S1 _))
  cases k1
  case false =>
    repeat (go_big_quiet_step (fail))
    refine wpQuiet_nil ?_
    intro w1 hw1
    obtain ⟨z, hz⟩ := hw1
    have hb1 : Below W.heap.size W w1 := hz ▸ z.ok
    clear hz z r0 r1 S1 S2 gsome
    go_wp2
    go_ret
    exact ⟨ret_bool (by rw [unhide HF]; simp), Below.step (unhide HB) hb1⟩
  repeat (go_big_quiet_step (fail))
  go_big_quiet_want
  go_big_quiet_op
  go_big_quiet_call (exact calls_grown (unhide S2 _))
  cases k2
  case false =>
    repeat (go_big_quiet_step (fail))
    refine wpQuiet_nil ?_
    intro w1 hw1
    obtain ⟨z, hz⟩ := hw1
    have hb1 : Below W.heap.size W w1 := hz ▸ z.ok
    clear hz z r0 r1 S1 S2 gsome
    go_wp2
    go_ret
    exact ⟨ret_bool (by rw [unhide HF]; simp), Below.step (unhide HB) hb1⟩
  have S3 := hide (unhide HLo rfl rfl)
  have HE : Hid (leastB (n, d) = decide (lowV n d = (n, d))) := by show _ = _; rw [unhide HL rfl]; rfl
  clear HLo HF HL
  generalize lowV n d = X at *
  obtain ⟨N, D⟩ := X
  dsimp only [v2] at S3
  have hEq := eql_frac n d N D
  have hGd := fun x y w => run_eqGuard_agg (P := Try.prog) w .eql 44 x y #[.int .i64 n, .int .i64 d] #[.int .i64 N, .int .i64 D] Try.eqgFrac
  repeat (go_big_quiet_step (fail))
  go_big_quiet_want
  go_big_quiet_op
  go_big_quiet_call (exact calls_grown (unhide S3 _))
  repeat (go_big_quiet_step (fail))
  refine wpQuiet_nil ?_
  intro w1 hw1
  obtain ⟨z, hz⟩ := hw1
  have hb1 : Below W.heap.size W w1 := hz ▸ z.ok
  clear hz z r0 r1 S1 S2 S3 gsome hEq hGd
  go_wp2
  go_ret
  refine ⟨ret_bool ?_, Below.step (unhide HB) hb1⟩
  rw [unhide HE, Bool.eq_iff_iff]
  simp
  omega

end Go.Proofs.Yticcjdcglfiggaa

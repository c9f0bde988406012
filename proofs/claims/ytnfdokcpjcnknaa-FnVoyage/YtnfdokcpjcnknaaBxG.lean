/- Boxes: spots, isOneStep, both KeepsApart. Written by wip/mkbxg.py. -/
import Derived.Test.YtnfdokcpjcnknaaBxF
import Derived.Laws.StructEq
namespace Go.Proofs.Ytnfdokcpjcnknaa
open Go.RowKit

theorem Try.eqgSpot : Try.prog.eqGuardType Try.prog.depth 38 = false := by kernel_rfl
theorem Try.heldSpot : Try.prog.stoodInHeld 38 = false := by kernel_rfl
theorem eql_spot (x y z x' y' z' : Int) (w : World) : (binOp .eql 38 (.agg #[.int .i64 x, .int .i64 y, .int .i64 z]) (.agg #[.int .i64 x', .int .i64 y', .int .i64 z'])).run Try.prog w = .ok (.bool (decide (x = x' ∧ y = y' ∧ z = z'))) w := by
  rw [run_eql_struct, run_equalIn_agg _ _ _ _ _ (by rw [Program.fieldsOf, Try.underlying38]) Try.heldSpot]
  simp [go_sem, Program.fieldsOf, Try.underlying38, Try.underlying3]
  by_cases h1 : x = x' <;> by_cases h2 : y = y' <;> by_cases h3 : z = z' <;> simp [h1, h2, h3]
theorem apV_bd {a b : Int} (h1 : inB a 0 9 = true) (h2 : inB b 0 9 = true) : 0 ≤ apV a b ∧ apV a b ≤ 3 := by
  rw [apV_in h1 h2]
  split
  · omega
  · split
    · omega
    · split
      · omega
      · split <;> omega
theorem boxB_cl {n : ByteArray} {wt cl fr to : Int} (h : boxB n wt cl fr to = true) : inB cl 0 9 = true := by
  simp only [boxB, Bool.and_eq_true] at h
  exact h.1.2
theorem boxB_wt {n : ByteArray} {wt cl fr to : Int} (h : boxB n wt cl fr to = true) : 1 ≤ wt ∧ wt ≤ 40000 := by
  simp only [boxB, Bool.and_eq_true] at h
  exact inB_true h.1.1.2
theorem spotB_bd {x y z : Int} (h : spotB x y z = true) : (0 ≤ x ∧ x ≤ 19) ∧ (0 ≤ y ∧ y ≤ 19) ∧ 0 ≤ z ∧ z ≤ 19 := by
  simp only [spotB, Bool.and_eq_true] at h
  exact ⟨inB_true h.1.1, inB_true h.1.2, inB_true h.2⟩


set_option maxHeartbeats 1600000 in
theorem spotOk_any (x y z : Int) (w : World) :
    Calls Try.prog 71 #[v3 (x, y, z)] w fun e w' => e = .returned (.bool (spotB x y z)) ∧ Below w.heap.size w w' := by
  have EB : Hid (spotB x y z = (inB x 0 19 && inB y 0 19 && inB z 0 19)) := rfl
  unfold v3
  have Q0 := hide fun V => within_any x 0 19 V
  have Q1 := hide fun V => within_any y 0 19 V
  have Q2 := hide fun V => within_any z 0 19 V
  cases h0 : inB x 0 19 with
  | false =>
    rw [h0] at Q0 EB
    go_enter Try.func71, Try.ntmps71
    go_wp2_with fail
    refine (unhide Q0 _).mono ?_
    rintro e w1 ⟨rfl, rfl⟩
    go_wp2
    go_ret
    exact ⟨by rw [unhide EB]; rfl, Below.alloc1 _ _⟩
  | true =>
  rw [h0] at Q0 EB
  cases h1 : inB y 0 19 with
  | false =>
    rw [h1] at Q1 EB
    go_enter Try.func71, Try.ntmps71
    go_wp2_with fail
    refine (unhide Q0 _).mono ?_
    rintro e w1 ⟨rfl, rfl⟩
    go_wp2_with fail
    refine (unhide Q1 _).mono ?_
    rintro e w1 ⟨rfl, rfl⟩
    go_wp2
    go_ret
    exact ⟨by rw [unhide EB]; rfl, Below.alloc1 _ _⟩
  | true =>
  rw [h1] at Q1 EB
  generalize inB z 0 19 = r at *
  go_enter Try.func71, Try.ntmps71
  go_wp2_with fail
  refine (unhide Q0 _).mono ?_
  rintro e w1 ⟨rfl, rfl⟩
  go_wp2_with fail
  refine (unhide Q1 _).mono ?_
  rintro e w1 ⟨rfl, rfl⟩
  go_wp2_with fail
  refine (unhide Q2 _).mono ?_
  rintro e w1 ⟨rfl, rfl⟩
  go_wp2
  go_ret
  exact ⟨by rw [unhide EB]; rfl, Below.alloc1 _ _⟩


set_option maxHeartbeats 1600000 in
theorem l11Spot_any (x y z : Int) (w : World) :
    Calls Try.prog 61 #[v3 (x, y, z)] w fun e w' => e = .returned (.bool (spotB x y z)) ∧ Below w.heap.size w w' := by
  have EB : Hid (spotB x y z = (inB x 0 19 && inB y 0 19 && inB z 0 19)) := rfl
  unfold v3
  have Q0 := hide fun V => l1In_any x 0 19 V
  have Q1 := hide fun V => l1In_any y 0 19 V
  have Q2 := hide fun V => l1In_any z 0 19 V
  cases h0 : inB x 0 19 with
  | false =>
    rw [h0] at Q0 EB
    go_enter Try.func61, Try.ntmps61
    go_wp2_with fail
    refine (unhide Q0 _).mono ?_
    rintro e w1 ⟨rfl, rfl⟩
    go_wp2
    go_ret
    exact ⟨by rw [unhide EB]; rfl, Below.alloc1 _ _⟩
  | true =>
  rw [h0] at Q0 EB
  cases h1 : inB y 0 19 with
  | false =>
    rw [h1] at Q1 EB
    go_enter Try.func61, Try.ntmps61
    go_wp2_with fail
    refine (unhide Q0 _).mono ?_
    rintro e w1 ⟨rfl, rfl⟩
    go_wp2_with fail
    refine (unhide Q1 _).mono ?_
    rintro e w1 ⟨rfl, rfl⟩
    go_wp2
    go_ret
    exact ⟨by rw [unhide EB]; rfl, Below.alloc1 _ _⟩
  | true =>
  rw [h1] at Q1 EB
  generalize inB z 0 19 = r at *
  go_enter Try.func61, Try.ntmps61
  go_wp2_with fail
  refine (unhide Q0 _).mono ?_
  rintro e w1 ⟨rfl, rfl⟩
  go_wp2_with fail
  refine (unhide Q1 _).mono ?_
  rintro e w1 ⟨rfl, rfl⟩
  go_wp2_with fail
  refine (unhide Q2 _).mono ?_
  rintro e w1 ⟨rfl, rfl⟩
  go_wp2
  go_ret
  exact ⟨by rw [unhide EB]; rfl, Below.alloc1 _ _⟩


set_option maxHeartbeats 3200000 in
theorem isOneStep_any (x y z x' y' z' : Int) (w : World) (h1 : (0 ≤ x ∧ x ≤ 19) ∧ (0 ≤ y ∧ y ≤ 19) ∧ 0 ≤ z ∧ z ≤ 19) (h2 : (0 ≤ x' ∧ x' ≤ 19) ∧ (0 ≤ y' ∧ y' ≤ 19) ∧ 0 ≤ z' ∧ z' ≤ 19) :
    Calls Try.prog 74 #[v3 (x, y, z), v3 (x', y', z')] w fun e w' => e = .returned (.bool (decide (((x - x').natAbs : Int) + ((y - y').natAbs : Int) + ((z - z').natAbs : Int) = 1))) ∧ Below w.heap.size w w' := by
  obtain ⟨⟨a1, a2⟩, ⟨a3, a4⟩, a5, a6⟩ := h1
  obtain ⟨⟨b1, b2⟩, ⟨b3, b4⟩, b5, b6⟩ := h2
  have C1 := hide fun V => gapB_any x x' V (by omega) (by omega) (by omega) (by omega)
  have C2 := hide fun V => gapB_any y y' V (by omega) (by omega) (by omega) (by omega)
  have C3 := hide fun V => gapB_any z z' V (by omega) (by omega) (by omega) (by omega)
  obtain ⟨p, ep⟩ : ∃ p : Int, p = ((x - x').natAbs : Int) := ⟨_, rfl⟩
  obtain ⟨q, eq⟩ : ∃ p : Int, p = ((y - y').natAbs : Int) := ⟨_, rfl⟩
  obtain ⟨r, er⟩ : ∃ p : Int, p = ((z - z').natAbs : Int) := ⟨_, rfl⟩
  have hp : 0 ≤ p ∧ p ≤ 19 := by omega
  have hq : 0 ≤ q ∧ q ≤ 19 := by omega
  have hr : 0 ≤ r ∧ r ≤ 19 := by omega
  rw [← ep] at C1
  rw [← eq] at C2
  rw [← er] at C3
  rw [← ep, ← eq, ← er]
  clear ep eq er a1 a2 a3 a4 a5 a6 b1 b2 b3 b4 b5 b6
  obtain ⟨p0, p1⟩ := hp
  obtain ⟨q0, q1⟩ := hq
  obtain ⟨r0, r1⟩ := hr
  unfold v3
  obtain ⟨W, eW⟩ : ∃ W, W = (w.alloc (.cells #[.int .i64 x, .int .i64 y, .int .i64 z] 38)).alloc (.cells #[.int .i64 x', .int .i64 y', .int .i64 z'] 38) := ⟨_, rfl⟩
  have HB : Hid (Below w.heap.size w W) := by show Below _ _ _; rw [eW]; exact Below.step (Below.alloc1 _ _) (Below.alloc1 _ _)
  have hO : OwnV W w.heap.size [.int .i64 x, .int .i64 y, .int .i64 z] := by rw [eW]; exact OwnV.alloc (ownV_alloc w #[.int .i64 x, .int .i64 y, .int .i64 z] _) _
  have hO' : OwnV W (w.heap.size + 1) [.int .i64 x', .int .i64 y', .int .i64 z'] := by
    rw [eW]
    have h := ownV_alloc (w.alloc (.cells #[.int .i64 x, .int .i64 y, .int .i64 z] 38)) #[.int .i64 x', .int .i64 y', .int .i64 z'] 38
    simp only [World.size_alloc] at h
    exact h
  have k0 := OwnV.cell hO (i := 0) rfl
  have k1 := OwnV.cell hO (i := 1) rfl
  have k2 := OwnV.cell hO (i := 2) rfl
  have l0 := OwnV.cell hO' (i := 0) rfl
  have l1 := OwnV.cell hO' (i := 1) rfl
  have l2 := OwnV.cell hO' (i := 2) rfl
  clear hO hO'
  go_enter Try.func74, Try.ntmps74
  go_wp2
  rw [← eW]
  clear eW
  refine wp_region_quiet_lit (by kernel_rfl) (by kernel_rfl) ?_
  repeat (go_big_quiet_step (fail))
  go_big_quiet_want
  go_big_quiet_op
  go_big_quiet_call (exact Calls.quiet_of_same (unhide C1 _))
  repeat (go_big_quiet_step (fail))
  go_big_quiet_want
  go_big_quiet_op
  go_big_quiet_call (exact Calls.quiet_of_same (unhide C2 _))
  repeat (go_big_quiet_step (fail))
  go_big_quiet_want
  go_big_quiet_op
  go_big_quiet_call (exact Calls.quiet_of_same (unhide C3 _))
  repeat (go_big_quiet_step (fail))
  refine wpQuiet_nil ?_
  intro w1 hw1
  obtain ⟨nq, hw2⟩ := hw1
  subst hw2
  go_wp2
  go_ret
  exact ⟨rfl, below_drewN (unhide HB) _⟩


set_option maxRecDepth 10000 in
set_option maxHeartbeats 6400000 in
theorem specKeepsApart_any (n : ByteArray) (wt cl : Int) (co : Bool) (fr to : Int) (x y z : Int) (n' : ByteArray) (wt' cl' : Int) (co' : Bool) (fr' to' : Int) (x' y' z' : Int) (w : World) :
    Calls Try.prog 50 #[vBox n wt cl co fr to, v3 (x, y, z), vBox n' wt' cl' co' fr' to', v3 (x', y', z')] w fun e w' => e = .returned (.bool (keepB (boxB n wt cl fr to) (boxB n' wt' cl' fr' to') cl cl' x y z x' y' z')) ∧ Below w.heap.size w w' := by
  have EB : Hid (keepB (boxB n wt cl fr to) (boxB n' wt' cl' fr' to') cl cl' x y z x' y' z' = (boxB n wt cl fr to && boxB n' wt' cl' fr' to' && spotB x y z && spotB x' y' z' && !(decide (x = x' ∧ y = y' ∧ z = z')) && keptB (apV cl cl') ((x - x').natAbs : Int) ((y - y').natAbs : Int) ((z - z').natAbs : Int))) := rfl
  have Q0 := hide fun V => specBoxOk_any n wt cl co fr to V
  have Q1 := hide fun V => specBoxOk_any n' wt' cl' co' fr' to' V
  have Q2 := hide fun V => l11Spot_any x y z V
  have Q3 := hide fun V => l11Spot_any x' y' z' V
  have HCA : Hid (boxB n wt cl fr to = true → inB cl 0 9 = true) := boxB_cl
  have HCB : Hid (boxB n' wt' cl' fr' to' = true → inB cl' 0 9 = true) := boxB_cl
  unfold vBox v3 at *
  obtain ⟨W, eW⟩ : ∃ W, W = ((((w.alloc (.cells #[.string n, .int .i64 wt, .int .i64 cl, .bool co, .int .i64 fr, .int .i64 to] 36)).alloc (.cells #[.int .i64 x, .int .i64 y, .int .i64 z] 38)).alloc (.cells #[.string n', .int .i64 wt', .int .i64 cl', .bool co', .int .i64 fr', .int .i64 to'] 36)).alloc (.cells #[.int .i64 x', .int .i64 y', .int .i64 z'] 38)) := ⟨_, rfl⟩
  have HW : Hid (Below w.heap.size w W) := by show Below _ _ _; rw [eW]; exact Below.step (Below.step (Below.step (Below.alloc1 _ _) (Below.alloc1 _ _)) (Below.alloc1 _ _)) (Below.alloc1 _ _)
  have HA : Hid (OwnV W (w.heap.size) [.string n, .int .i64 wt, .int .i64 cl, .bool co, .int .i64 fr, .int .i64 to]) := by
    show OwnV _ _ _
    rw [eW]
    have h := ownV_alloc w #[.string n, .int .i64 wt, .int .i64 cl, .bool co, .int .i64 fr, .int .i64 to] 36
    exact OwnV.alloc (OwnV.alloc (OwnV.alloc (h) _) _) _
  have HS : Hid (OwnV W (w.heap.size + 1) [.int .i64 x, .int .i64 y, .int .i64 z]) := by
    show OwnV _ _ _
    rw [eW]
    have h := ownV_alloc (w.alloc (.cells #[.string n, .int .i64 wt, .int .i64 cl, .bool co, .int .i64 fr, .int .i64 to] 36)) #[.int .i64 x, .int .i64 y, .int .i64 z] 38
    simp only [World.size_alloc] at h
    exact OwnV.alloc (OwnV.alloc (h) _) _
  have HB : Hid (OwnV W (w.heap.size + 1 + 1) [.string n', .int .i64 wt', .int .i64 cl', .bool co', .int .i64 fr', .int .i64 to']) := by
    show OwnV _ _ _
    rw [eW]
    have h := ownV_alloc ((w.alloc (.cells #[.string n, .int .i64 wt, .int .i64 cl, .bool co, .int .i64 fr, .int .i64 to] 36)).alloc (.cells #[.int .i64 x, .int .i64 y, .int .i64 z] 38)) #[.string n', .int .i64 wt', .int .i64 cl', .bool co', .int .i64 fr', .int .i64 to'] 36
    simp only [World.size_alloc] at h
    exact OwnV.alloc (h) _
  have HT : Hid (OwnV W (w.heap.size + 1 + 1 + 1) [.int .i64 x', .int .i64 y', .int .i64 z']) := by
    show OwnV _ _ _
    rw [eW]
    have h := ownV_alloc (((w.alloc (.cells #[.string n, .int .i64 wt, .int .i64 cl, .bool co, .int .i64 fr, .int .i64 to] 36)).alloc (.cells #[.int .i64 x, .int .i64 y, .int .i64 z] 38)).alloc (.cells #[.string n', .int .i64 wt', .int .i64 cl', .bool co', .int .i64 fr', .int .i64 to'] 36)) #[.int .i64 x', .int .i64 y', .int .i64 z'] 38
    simp only [World.size_alloc] at h
    exact h
  generalize keepB (boxB n wt cl fr to) (boxB n' wt' cl' fr' to') cl cl' x y z x' y' z' = res at *
  have a0 := (unhide HA).cell (i := 0) rfl
  have a1 := (unhide HA).cell (i := 1) rfl
  have a2 := (unhide HA).cell (i := 2) rfl
  have a3 := (unhide HA).cell (i := 3) rfl
  have a4 := (unhide HA).cell (i := 4) rfl
  have a5 := (unhide HA).cell (i := 5) rfl
  have s0 := (unhide HS).cell (i := 0) rfl
  have s1 := (unhide HS).cell (i := 1) rfl
  have s2 := (unhide HS).cell (i := 2) rfl
  have b0 := (unhide HB).cell (i := 0) rfl
  have b1 := (unhide HB).cell (i := 1) rfl
  have b2 := (unhide HB).cell (i := 2) rfl
  have b3 := (unhide HB).cell (i := 3) rfl
  have b4 := (unhide HB).cell (i := 4) rfl
  have b5 := (unhide HB).cell (i := 5) rfl
  have t0 := (unhide HT).cell (i := 0) rfl
  have t1 := (unhide HT).cell (i := 1) rfl
  have t2 := (unhide HT).cell (i := 2) rfl
  go_enter Try.func50, Try.ntmps50
  go_wp2_with fail
  rw [← eW]
  clear eW
  refine (unhide Q0 _).mono ?_
  rintro e w1 ⟨rfl, hb⟩
  replace HW := hide (Below.step (unhide HW) hb)
  replace HA := hide ((unhide HA).step hb)
  replace HS := hide ((unhide HS).step hb)
  replace HB := hide ((unhide HB).step hb)
  replace HT := hide ((unhide HT).step hb)
  clear hb
  clear a0 a1 a2 a3 a4 a5 s0 s1 s2 b0 b1 b2 b3 b4 b5 t0 t1 t2
  have a0 := (unhide HA).cell (i := 0) rfl
  have a1 := (unhide HA).cell (i := 1) rfl
  have a2 := (unhide HA).cell (i := 2) rfl
  have a3 := (unhide HA).cell (i := 3) rfl
  have a4 := (unhide HA).cell (i := 4) rfl
  have a5 := (unhide HA).cell (i := 5) rfl
  have s0 := (unhide HS).cell (i := 0) rfl
  have s1 := (unhide HS).cell (i := 1) rfl
  have s2 := (unhide HS).cell (i := 2) rfl
  have b0 := (unhide HB).cell (i := 0) rfl
  have b1 := (unhide HB).cell (i := 1) rfl
  have b2 := (unhide HB).cell (i := 2) rfl
  have b3 := (unhide HB).cell (i := 3) rfl
  have b4 := (unhide HB).cell (i := 4) rfl
  have b5 := (unhide HB).cell (i := 5) rfl
  have t0 := (unhide HT).cell (i := 0) rfl
  have t1 := (unhide HT).cell (i := 1) rfl
  have t2 := (unhide HT).cell (i := 2) rfl
  cases h0 : boxB n wt cl fr to with
  | false =>
    rw [h0] at EB
    go_wp2
    go_ret
    exact ⟨by rw [unhide EB]; rfl, unhide HW⟩
  | true =>
  rw [h0] at EB HCA
  clear Q0
  go_wp2_with fail
  refine (unhide Q1 _).mono ?_
  rintro e w2 ⟨rfl, hb⟩
  replace HW := hide (Below.step (unhide HW) hb)
  replace HA := hide ((unhide HA).step hb)
  replace HS := hide ((unhide HS).step hb)
  replace HB := hide ((unhide HB).step hb)
  replace HT := hide ((unhide HT).step hb)
  clear hb
  clear a0 a1 a2 a3 a4 a5 s0 s1 s2 b0 b1 b2 b3 b4 b5 t0 t1 t2
  have a0 := (unhide HA).cell (i := 0) rfl
  have a1 := (unhide HA).cell (i := 1) rfl
  have a2 := (unhide HA).cell (i := 2) rfl
  have a3 := (unhide HA).cell (i := 3) rfl
  have a4 := (unhide HA).cell (i := 4) rfl
  have a5 := (unhide HA).cell (i := 5) rfl
  have s0 := (unhide HS).cell (i := 0) rfl
  have s1 := (unhide HS).cell (i := 1) rfl
  have s2 := (unhide HS).cell (i := 2) rfl
  have b0 := (unhide HB).cell (i := 0) rfl
  have b1 := (unhide HB).cell (i := 1) rfl
  have b2 := (unhide HB).cell (i := 2) rfl
  have b3 := (unhide HB).cell (i := 3) rfl
  have b4 := (unhide HB).cell (i := 4) rfl
  have b5 := (unhide HB).cell (i := 5) rfl
  have t0 := (unhide HT).cell (i := 0) rfl
  have t1 := (unhide HT).cell (i := 1) rfl
  have t2 := (unhide HT).cell (i := 2) rfl
  cases h1 : boxB n' wt' cl' fr' to' with
  | false =>
    rw [h1] at EB
    go_wp2
    go_ret
    exact ⟨by rw [unhide EB]; rfl, unhide HW⟩
  | true =>
  rw [h1] at EB HCB
  clear Q1
  go_wp2_with fail
  refine (unhide Q2 _).mono ?_
  rintro e w3 ⟨rfl, hb⟩
  replace HW := hide (Below.step (unhide HW) hb)
  replace HA := hide ((unhide HA).step hb)
  replace HS := hide ((unhide HS).step hb)
  replace HB := hide ((unhide HB).step hb)
  replace HT := hide ((unhide HT).step hb)
  clear hb
  clear a0 a1 a2 a3 a4 a5 s0 s1 s2 b0 b1 b2 b3 b4 b5 t0 t1 t2
  have a0 := (unhide HA).cell (i := 0) rfl
  have a1 := (unhide HA).cell (i := 1) rfl
  have a2 := (unhide HA).cell (i := 2) rfl
  have a3 := (unhide HA).cell (i := 3) rfl
  have a4 := (unhide HA).cell (i := 4) rfl
  have a5 := (unhide HA).cell (i := 5) rfl
  have s0 := (unhide HS).cell (i := 0) rfl
  have s1 := (unhide HS).cell (i := 1) rfl
  have s2 := (unhide HS).cell (i := 2) rfl
  have b0 := (unhide HB).cell (i := 0) rfl
  have b1 := (unhide HB).cell (i := 1) rfl
  have b2 := (unhide HB).cell (i := 2) rfl
  have b3 := (unhide HB).cell (i := 3) rfl
  have b4 := (unhide HB).cell (i := 4) rfl
  have b5 := (unhide HB).cell (i := 5) rfl
  have t0 := (unhide HT).cell (i := 0) rfl
  have t1 := (unhide HT).cell (i := 1) rfl
  have t2 := (unhide HT).cell (i := 2) rfl
  cases h2 : spotB x y z with
  | false =>
    rw [h2] at EB
    go_wp2
    go_ret
    exact ⟨by rw [unhide EB]; rfl, unhide HW⟩
  | true =>
  rw [h2] at EB
  clear Q2
  go_wp2_with fail
  refine (unhide Q3 _).mono ?_
  rintro e w4 ⟨rfl, hb⟩
  replace HW := hide (Below.step (unhide HW) hb)
  replace HA := hide ((unhide HA).step hb)
  replace HS := hide ((unhide HS).step hb)
  replace HB := hide ((unhide HB).step hb)
  replace HT := hide ((unhide HT).step hb)
  clear hb
  clear a0 a1 a2 a3 a4 a5 s0 s1 s2 b0 b1 b2 b3 b4 b5 t0 t1 t2
  have a0 := (unhide HA).cell (i := 0) rfl
  have a1 := (unhide HA).cell (i := 1) rfl
  have a2 := (unhide HA).cell (i := 2) rfl
  have a3 := (unhide HA).cell (i := 3) rfl
  have a4 := (unhide HA).cell (i := 4) rfl
  have a5 := (unhide HA).cell (i := 5) rfl
  have s0 := (unhide HS).cell (i := 0) rfl
  have s1 := (unhide HS).cell (i := 1) rfl
  have s2 := (unhide HS).cell (i := 2) rfl
  have b0 := (unhide HB).cell (i := 0) rfl
  have b1 := (unhide HB).cell (i := 1) rfl
  have b2 := (unhide HB).cell (i := 2) rfl
  have b3 := (unhide HB).cell (i := 3) rfl
  have b4 := (unhide HB).cell (i := 4) rfl
  have b5 := (unhide HB).cell (i := 5) rfl
  have t0 := (unhide HT).cell (i := 0) rfl
  have t1 := (unhide HT).cell (i := 1) rfl
  have t2 := (unhide HT).cell (i := 2) rfl
  cases h3 : spotB x' y' z' with
  | false =>
    rw [h3] at EB
    go_wp2
    go_ret
    exact ⟨by rw [unhide EB]; rfl, unhide HW⟩
  | true =>
  rw [h3] at EB
  clear Q3
  have hca := unhide HCA (by simp)
  have hcb := unhide HCB (by simp)
  have hv := apV_bd hca hcb
  have B1 := spotB_bd h2
  have B2 := spotB_bd h3
  obtain ⟨⟨a1', a2'⟩, ⟨a3', a4'⟩, a5', a6'⟩ := B1
  obtain ⟨⟨b1', b2'⟩, ⟨b3', b4'⟩, b5', b6'⟩ := B2
  have hEq := eql_spot x y z x' y' z'
  have hGd := fun u v w => run_eqGuard_agg (P := Try.prog) w .eql 38 u v #[.int .i64 x, .int .i64 y, .int .i64 z] #[.int .i64 x', .int .i64 y', .int .i64 z'] Try.eqgSpot
  clear HCA HCB h0 h1 h2 h3
  cases hd : decide (x = x' ∧ y = y' ∧ z = z') with
  | true =>
    rw [hd] at EB hEq
    clear hd
    go_wp2
    go_ret
    exact ⟨by rw [unhide EB]; rfl, unhide HW⟩
  | false =>
  rw [hd] at EB hEq
  clear hd
  have C1 := hide fun V => sizeB_any (x - x') V (by omega) (by omega)
  have C2 := hide fun V => sizeB_any (y - y') V (by omega) (by omega)
  have C3 := hide fun V => sizeB_any (z - z') V (by omega) (by omega)
  have m1 : IntKind.i64.wrap (x - x') = x - x' := by rw [IntKind.wrap_i64]; omega
  have m2 : IntKind.i64.wrap (y - y') = y - y' := by rw [IntKind.wrap_i64]; omega
  have m3 : IntKind.i64.wrap (z - z') = z - z' := by rw [IntKind.wrap_i64]; omega
  obtain ⟨p, ep⟩ : ∃ p : Int, p = ((x - x').natAbs : Int) := ⟨_, rfl⟩
  obtain ⟨q, eq⟩ : ∃ p : Int, p = ((y - y').natAbs : Int) := ⟨_, rfl⟩
  obtain ⟨r, er⟩ : ∃ p : Int, p = ((z - z').natAbs : Int) := ⟨_, rfl⟩
  have hp : 0 ≤ p ∧ p ≤ 19 := by omega
  have hq : 0 ≤ q ∧ q ≤ 19 := by omega
  have hr : 0 ≤ r ∧ r ≤ 19 := by omega
  rw [← ep, ← eq, ← er] at EB
  rw [← ep] at C1
  rw [← eq] at C2
  rw [← er] at C3
  clear ep eq er a1' a2' a3' a4' a5' a6' b1' b2' b3' b4' b5' b6'
  obtain ⟨p0, p1⟩ := hp
  obtain ⟨q0, q1⟩ := hq
  obtain ⟨r0, r1⟩ := hr
  go_wp2
  refine wp_region_quiet_lit (by kernel_rfl) (by kernel_rfl) ?_
  repeat (go_big_quiet_step (fail))
  go_big_quiet_want
  go_big_quiet_op
  go_big_quiet_call (exact Calls.quiet_of_same (unhide C1 _))
  repeat (go_big_quiet_step (fail))
  go_big_quiet_want
  go_big_quiet_op
  go_big_quiet_call (exact Calls.quiet_of_same (unhide C2 _))
  repeat (go_big_quiet_step (fail))
  go_big_quiet_want
  go_big_quiet_op
  go_big_quiet_call (exact Calls.quiet_of_same (unhide C3 _))
  repeat (go_big_quiet_step (fail))
  refine wpQuiet_nil ?_
  intro w5 hw1
  obtain ⟨nq, hw2⟩ := hw1
  have hb : Below w4.heap.size w4 w5 := by rw [hw2]; exact below_drewN (Below.refl _ _) _
  clear hw2
  replace HW := hide (Below.step (unhide HW) hb)
  replace HA := hide ((unhide HA).step hb)
  replace HS := hide ((unhide HS).step hb)
  replace HB := hide ((unhide HB).step hb)
  replace HT := hide ((unhide HT).step hb)
  clear hb
  clear a0 a1 a2 a3 a4 a5 s0 s1 s2 b0 b1 b2 b3 b4 b5 t0 t1 t2
  have a0 := (unhide HA).cell (i := 0) rfl
  have a1 := (unhide HA).cell (i := 1) rfl
  have a2 := (unhide HA).cell (i := 2) rfl
  have a3 := (unhide HA).cell (i := 3) rfl
  have a4 := (unhide HA).cell (i := 4) rfl
  have a5 := (unhide HA).cell (i := 5) rfl
  have s0 := (unhide HS).cell (i := 0) rfl
  have s1 := (unhide HS).cell (i := 1) rfl
  have s2 := (unhide HS).cell (i := 2) rfl
  have b0 := (unhide HB).cell (i := 0) rfl
  have b1 := (unhide HB).cell (i := 1) rfl
  have b2 := (unhide HB).cell (i := 2) rfl
  have b3 := (unhide HB).cell (i := 3) rfl
  have b4 := (unhide HB).cell (i := 4) rfl
  have b5 := (unhide HB).cell (i := 5) rfl
  have t0 := (unhide HT).cell (i := 0) rfl
  have t1 := (unhide HT).cell (i := 1) rfl
  have t2 := (unhide HT).cell (i := 2) rfl
  have QA := hide fun V => specApart_any cl cl' V
  generalize apV cl cl' = v at *
  obtain ⟨v0, v3'⟩ := hv
  clear C1 C2 C3 m1 m2 m3 hEq hGd
  go_wp2_with fail
  refine (unhide QA _).mono ?_
  rintro e w6 ⟨rfl, rfl⟩
  clear QA
  have hvv : v = 0 ∨ v = 1 ∨ v = 2 ∨ v = 3 := by omega
  have hx : IntKind.i64.wrap (p + q) = p + q := by rw [IntKind.wrap_i64]; omega
  have hx2 : IntKind.i64.wrap (p + q + r) = p + q + r := by rw [IntKind.wrap_i64]; omega
  rcases hvv with rfl | rfl | rfl | rfl
  · go_wp2
    go_ret
    exact ⟨by rw [unhide EB]; simp [keptB], unhide HW⟩
  · by_cases h1 : p + q + r = 1
    · go_wp2
      go_ret
      exact ⟨by rw [unhide EB]; simp [keptB, h1], unhide HW⟩
    · have d1 : (p + q + r != 1) = true := by simp; omega
      go_wp2
      go_ret
      exact ⟨by rw [unhide EB]; simp [keptB, h1], unhide HW⟩
  · by_cases h2 : 2 ≤ p
    · go_wp2
      go_ret
      exact ⟨by rw [unhide EB]; simp [keptB, h2], unhide HW⟩
    · go_wp2
      go_ret
      exact ⟨by rw [unhide EB]; simp [keptB], unhide HW⟩
  · go_wp2
    go_ret
    exact ⟨by rw [unhide EB]; simp [keptB], unhide HW⟩


set_option maxRecDepth 10000 in
set_option maxHeartbeats 6400000 in
theorem implKeepsApart_any (n : ByteArray) (wt cl : Int) (co : Bool) (fr to : Int) (x y z : Int) (n' : ByteArray) (wt' cl' : Int) (co' : Bool) (fr' to' : Int) (x' y' z' : Int) (w : World) :
    Calls Try.prog 59 #[vBox n wt cl co fr to, v3 (x, y, z), vBox n' wt' cl' co' fr' to', v3 (x', y', z')] w fun e w' => e = .returned (.bool (keepB (boxB n wt cl fr to) (boxB n' wt' cl' fr' to') cl cl' x y z x' y' z')) ∧ Below w.heap.size w w' := by
  have EB : Hid (keepB (boxB n wt cl fr to) (boxB n' wt' cl' fr' to') cl cl' x y z x' y' z' = (boxB n wt cl fr to && boxB n' wt' cl' fr' to' && spotB x y z && spotB x' y' z' && !(decide (x = x' ∧ y = y' ∧ z = z')) && keptB (apV cl cl') ((x - x').natAbs : Int) ((y - y').natAbs : Int) ((z - z').natAbs : Int))) := rfl
  have Q0 := hide fun V => implBoxOk_any n wt cl co fr to V
  have Q1 := hide fun V => implBoxOk_any n' wt' cl' co' fr' to' V
  have Q2 := hide fun V => spotOk_any x y z V
  have Q3 := hide fun V => spotOk_any x' y' z' V
  have HCA : Hid (boxB n wt cl fr to = true → inB cl 0 9 = true) := boxB_cl
  have HCB : Hid (boxB n' wt' cl' fr' to' = true → inB cl' 0 9 = true) := boxB_cl
  unfold vBox v3 at *
  obtain ⟨W, eW⟩ : ∃ W, W = ((((w.alloc (.cells #[.string n, .int .i64 wt, .int .i64 cl, .bool co, .int .i64 fr, .int .i64 to] 36)).alloc (.cells #[.int .i64 x, .int .i64 y, .int .i64 z] 38)).alloc (.cells #[.string n', .int .i64 wt', .int .i64 cl', .bool co', .int .i64 fr', .int .i64 to'] 36)).alloc (.cells #[.int .i64 x', .int .i64 y', .int .i64 z'] 38)) := ⟨_, rfl⟩
  have HW : Hid (Below w.heap.size w W) := by show Below _ _ _; rw [eW]; exact Below.step (Below.step (Below.step (Below.alloc1 _ _) (Below.alloc1 _ _)) (Below.alloc1 _ _)) (Below.alloc1 _ _)
  have HA : Hid (OwnV W (w.heap.size) [.string n, .int .i64 wt, .int .i64 cl, .bool co, .int .i64 fr, .int .i64 to]) := by
    show OwnV _ _ _
    rw [eW]
    have h := ownV_alloc w #[.string n, .int .i64 wt, .int .i64 cl, .bool co, .int .i64 fr, .int .i64 to] 36
    exact OwnV.alloc (OwnV.alloc (OwnV.alloc (h) _) _) _
  have HS : Hid (OwnV W (w.heap.size + 1) [.int .i64 x, .int .i64 y, .int .i64 z]) := by
    show OwnV _ _ _
    rw [eW]
    have h := ownV_alloc (w.alloc (.cells #[.string n, .int .i64 wt, .int .i64 cl, .bool co, .int .i64 fr, .int .i64 to] 36)) #[.int .i64 x, .int .i64 y, .int .i64 z] 38
    simp only [World.size_alloc] at h
    exact OwnV.alloc (OwnV.alloc (h) _) _
  have HB : Hid (OwnV W (w.heap.size + 1 + 1) [.string n', .int .i64 wt', .int .i64 cl', .bool co', .int .i64 fr', .int .i64 to']) := by
    show OwnV _ _ _
    rw [eW]
    have h := ownV_alloc ((w.alloc (.cells #[.string n, .int .i64 wt, .int .i64 cl, .bool co, .int .i64 fr, .int .i64 to] 36)).alloc (.cells #[.int .i64 x, .int .i64 y, .int .i64 z] 38)) #[.string n', .int .i64 wt', .int .i64 cl', .bool co', .int .i64 fr', .int .i64 to'] 36
    simp only [World.size_alloc] at h
    exact OwnV.alloc (h) _
  have HT : Hid (OwnV W (w.heap.size + 1 + 1 + 1) [.int .i64 x', .int .i64 y', .int .i64 z']) := by
    show OwnV _ _ _
    rw [eW]
    have h := ownV_alloc (((w.alloc (.cells #[.string n, .int .i64 wt, .int .i64 cl, .bool co, .int .i64 fr, .int .i64 to] 36)).alloc (.cells #[.int .i64 x, .int .i64 y, .int .i64 z] 38)).alloc (.cells #[.string n', .int .i64 wt', .int .i64 cl', .bool co', .int .i64 fr', .int .i64 to'] 36)) #[.int .i64 x', .int .i64 y', .int .i64 z'] 38
    simp only [World.size_alloc] at h
    exact h
  generalize keepB (boxB n wt cl fr to) (boxB n' wt' cl' fr' to') cl cl' x y z x' y' z' = res at *
  have a0 := (unhide HA).cell (i := 0) rfl
  have a1 := (unhide HA).cell (i := 1) rfl
  have a2 := (unhide HA).cell (i := 2) rfl
  have a3 := (unhide HA).cell (i := 3) rfl
  have a4 := (unhide HA).cell (i := 4) rfl
  have a5 := (unhide HA).cell (i := 5) rfl
  have s0 := (unhide HS).cell (i := 0) rfl
  have s1 := (unhide HS).cell (i := 1) rfl
  have s2 := (unhide HS).cell (i := 2) rfl
  have b0 := (unhide HB).cell (i := 0) rfl
  have b1 := (unhide HB).cell (i := 1) rfl
  have b2 := (unhide HB).cell (i := 2) rfl
  have b3 := (unhide HB).cell (i := 3) rfl
  have b4 := (unhide HB).cell (i := 4) rfl
  have b5 := (unhide HB).cell (i := 5) rfl
  have t0 := (unhide HT).cell (i := 0) rfl
  have t1 := (unhide HT).cell (i := 1) rfl
  have t2 := (unhide HT).cell (i := 2) rfl
  go_enter Try.func59, Try.ntmps59
  go_wp2_with fail
  rw [← eW]
  clear eW
  refine (unhide Q0 _).mono ?_
  rintro e w1 ⟨rfl, hb⟩
  replace HW := hide (Below.step (unhide HW) hb)
  replace HA := hide ((unhide HA).step hb)
  replace HS := hide ((unhide HS).step hb)
  replace HB := hide ((unhide HB).step hb)
  replace HT := hide ((unhide HT).step hb)
  clear hb
  clear a0 a1 a2 a3 a4 a5 s0 s1 s2 b0 b1 b2 b3 b4 b5 t0 t1 t2
  have a0 := (unhide HA).cell (i := 0) rfl
  have a1 := (unhide HA).cell (i := 1) rfl
  have a2 := (unhide HA).cell (i := 2) rfl
  have a3 := (unhide HA).cell (i := 3) rfl
  have a4 := (unhide HA).cell (i := 4) rfl
  have a5 := (unhide HA).cell (i := 5) rfl
  have s0 := (unhide HS).cell (i := 0) rfl
  have s1 := (unhide HS).cell (i := 1) rfl
  have s2 := (unhide HS).cell (i := 2) rfl
  have b0 := (unhide HB).cell (i := 0) rfl
  have b1 := (unhide HB).cell (i := 1) rfl
  have b2 := (unhide HB).cell (i := 2) rfl
  have b3 := (unhide HB).cell (i := 3) rfl
  have b4 := (unhide HB).cell (i := 4) rfl
  have b5 := (unhide HB).cell (i := 5) rfl
  have t0 := (unhide HT).cell (i := 0) rfl
  have t1 := (unhide HT).cell (i := 1) rfl
  have t2 := (unhide HT).cell (i := 2) rfl
  cases h0 : boxB n wt cl fr to with
  | false =>
    rw [h0] at EB
    go_wp2
    go_ret
    exact ⟨by rw [unhide EB]; rfl, unhide HW⟩
  | true =>
  rw [h0] at EB HCA
  clear Q0
  go_wp2_with fail
  refine (unhide Q1 _).mono ?_
  rintro e w2 ⟨rfl, hb⟩
  replace HW := hide (Below.step (unhide HW) hb)
  replace HA := hide ((unhide HA).step hb)
  replace HS := hide ((unhide HS).step hb)
  replace HB := hide ((unhide HB).step hb)
  replace HT := hide ((unhide HT).step hb)
  clear hb
  clear a0 a1 a2 a3 a4 a5 s0 s1 s2 b0 b1 b2 b3 b4 b5 t0 t1 t2
  have a0 := (unhide HA).cell (i := 0) rfl
  have a1 := (unhide HA).cell (i := 1) rfl
  have a2 := (unhide HA).cell (i := 2) rfl
  have a3 := (unhide HA).cell (i := 3) rfl
  have a4 := (unhide HA).cell (i := 4) rfl
  have a5 := (unhide HA).cell (i := 5) rfl
  have s0 := (unhide HS).cell (i := 0) rfl
  have s1 := (unhide HS).cell (i := 1) rfl
  have s2 := (unhide HS).cell (i := 2) rfl
  have b0 := (unhide HB).cell (i := 0) rfl
  have b1 := (unhide HB).cell (i := 1) rfl
  have b2 := (unhide HB).cell (i := 2) rfl
  have b3 := (unhide HB).cell (i := 3) rfl
  have b4 := (unhide HB).cell (i := 4) rfl
  have b5 := (unhide HB).cell (i := 5) rfl
  have t0 := (unhide HT).cell (i := 0) rfl
  have t1 := (unhide HT).cell (i := 1) rfl
  have t2 := (unhide HT).cell (i := 2) rfl
  cases h1 : boxB n' wt' cl' fr' to' with
  | false =>
    rw [h1] at EB
    go_wp2
    go_ret
    exact ⟨by rw [unhide EB]; rfl, unhide HW⟩
  | true =>
  rw [h1] at EB HCB
  clear Q1
  go_wp2_with fail
  refine (unhide Q2 _).mono ?_
  rintro e w3 ⟨rfl, hb⟩
  replace HW := hide (Below.step (unhide HW) hb)
  replace HA := hide ((unhide HA).step hb)
  replace HS := hide ((unhide HS).step hb)
  replace HB := hide ((unhide HB).step hb)
  replace HT := hide ((unhide HT).step hb)
  clear hb
  clear a0 a1 a2 a3 a4 a5 s0 s1 s2 b0 b1 b2 b3 b4 b5 t0 t1 t2
  have a0 := (unhide HA).cell (i := 0) rfl
  have a1 := (unhide HA).cell (i := 1) rfl
  have a2 := (unhide HA).cell (i := 2) rfl
  have a3 := (unhide HA).cell (i := 3) rfl
  have a4 := (unhide HA).cell (i := 4) rfl
  have a5 := (unhide HA).cell (i := 5) rfl
  have s0 := (unhide HS).cell (i := 0) rfl
  have s1 := (unhide HS).cell (i := 1) rfl
  have s2 := (unhide HS).cell (i := 2) rfl
  have b0 := (unhide HB).cell (i := 0) rfl
  have b1 := (unhide HB).cell (i := 1) rfl
  have b2 := (unhide HB).cell (i := 2) rfl
  have b3 := (unhide HB).cell (i := 3) rfl
  have b4 := (unhide HB).cell (i := 4) rfl
  have b5 := (unhide HB).cell (i := 5) rfl
  have t0 := (unhide HT).cell (i := 0) rfl
  have t1 := (unhide HT).cell (i := 1) rfl
  have t2 := (unhide HT).cell (i := 2) rfl
  cases h2 : spotB x y z with
  | false =>
    rw [h2] at EB
    go_wp2
    go_ret
    exact ⟨by rw [unhide EB]; rfl, unhide HW⟩
  | true =>
  rw [h2] at EB
  clear Q2
  go_wp2_with fail
  refine (unhide Q3 _).mono ?_
  rintro e w4 ⟨rfl, hb⟩
  replace HW := hide (Below.step (unhide HW) hb)
  replace HA := hide ((unhide HA).step hb)
  replace HS := hide ((unhide HS).step hb)
  replace HB := hide ((unhide HB).step hb)
  replace HT := hide ((unhide HT).step hb)
  clear hb
  clear a0 a1 a2 a3 a4 a5 s0 s1 s2 b0 b1 b2 b3 b4 b5 t0 t1 t2
  have a0 := (unhide HA).cell (i := 0) rfl
  have a1 := (unhide HA).cell (i := 1) rfl
  have a2 := (unhide HA).cell (i := 2) rfl
  have a3 := (unhide HA).cell (i := 3) rfl
  have a4 := (unhide HA).cell (i := 4) rfl
  have a5 := (unhide HA).cell (i := 5) rfl
  have s0 := (unhide HS).cell (i := 0) rfl
  have s1 := (unhide HS).cell (i := 1) rfl
  have s2 := (unhide HS).cell (i := 2) rfl
  have b0 := (unhide HB).cell (i := 0) rfl
  have b1 := (unhide HB).cell (i := 1) rfl
  have b2 := (unhide HB).cell (i := 2) rfl
  have b3 := (unhide HB).cell (i := 3) rfl
  have b4 := (unhide HB).cell (i := 4) rfl
  have b5 := (unhide HB).cell (i := 5) rfl
  have t0 := (unhide HT).cell (i := 0) rfl
  have t1 := (unhide HT).cell (i := 1) rfl
  have t2 := (unhide HT).cell (i := 2) rfl
  cases h3 : spotB x' y' z' with
  | false =>
    rw [h3] at EB
    go_wp2
    go_ret
    exact ⟨by rw [unhide EB]; rfl, unhide HW⟩
  | true =>
  rw [h3] at EB
  clear Q3
  have hca := unhide HCA (by simp)
  have hcb := unhide HCB (by simp)
  have hv := apV_bd hca hcb
  have B1 := spotB_bd h2
  have B2 := spotB_bd h3
  obtain ⟨⟨a1', a2'⟩, ⟨a3', a4'⟩, a5', a6'⟩ := B1
  obtain ⟨⟨b1', b2'⟩, ⟨b3', b4'⟩, b5', b6'⟩ := B2
  have hEq := eql_spot x y z x' y' z'
  have hGd := fun u v w => run_eqGuard_agg (P := Try.prog) w .eql 38 u v #[.int .i64 x, .int .i64 y, .int .i64 z] #[.int .i64 x', .int .i64 y', .int .i64 z'] Try.eqgSpot
  clear HCA HCB h0 h1 h2 h3
  cases hd : decide (x = x' ∧ y = y' ∧ z = z') with
  | true =>
    rw [hd] at EB hEq
    clear hd
    go_wp2
    go_ret
    exact ⟨by rw [unhide EB]; rfl, unhide HW⟩
  | false =>
  rw [hd] at EB hEq
  clear hd
  have CO := hide fun V => isOneStep_any x y z x' y' z' V ⟨⟨a1', a2'⟩, ⟨a3', a4'⟩, a5', a6'⟩ ⟨⟨b1', b2'⟩, ⟨b3', b4'⟩, b5', b6'⟩
  have CG := hide fun V => gapB_any x x' V (by omega) (by omega) (by omega) (by omega)
  obtain ⟨p, ep⟩ : ∃ p : Int, p = ((x - x').natAbs : Int) := ⟨_, rfl⟩
  obtain ⟨q, eq⟩ : ∃ p : Int, p = ((y - y').natAbs : Int) := ⟨_, rfl⟩
  obtain ⟨r, er⟩ : ∃ p : Int, p = ((z - z').natAbs : Int) := ⟨_, rfl⟩
  have hp : 0 ≤ p ∧ p ≤ 19 := by omega
  have hq : 0 ≤ q ∧ q ≤ 19 := by omega
  have hr : 0 ≤ r ∧ r ≤ 19 := by omega
  rw [← ep, ← eq, ← er] at EB
  rw [← ep, ← eq, ← er] at CO
  rw [← ep] at CG
  clear ep eq er a1' a2' a3' a4' a5' a6' b1' b2' b3' b4' b5' b6'
  obtain ⟨p0, p1⟩ := hp
  obtain ⟨q0, q1⟩ := hq
  obtain ⟨r0, r1⟩ := hr
  have SA := fun X : Gr w4 => wareOf_any n wt cl co fr to X.val
  have SB := fun X : Gr w4 => wareOf_any n' wt' cl' co' fr' to' X.val
  have SC := fun X : Gr w4 => dangerOf_any wt cl co X.val (inB_true hca).1
  have SD := fun X : Gr w4 => dangerOf_any wt' cl' co' X.val (inB_true hcb).1
  have SE := hide fun X : Gr w4 => (implApart_any cl cl' X.val).mono fun e w' ⟨h, h'⟩ => (⟨h, h' ▸ Below.refl _ _⟩ : _ ∧ Below X.val.heap.size X.val w')
  unfold vBox at SA SB
  generalize wareV wt cl co = va at *
  generalize wareV wt' cl' co' = vb at *
  replace SA := hide SA
  replace SB := hide SB
  replace SC := hide SC
  replace SD := hide SD
  have ra0 := fun X : Gr w4 => gr_cell a0 X
  have ra1 := fun X : Gr w4 => gr_cell a1 X
  have ra2 := fun X : Gr w4 => gr_cell a2 X
  have ra3 := fun X : Gr w4 => gr_cell a3 X
  have ra4 := fun X : Gr w4 => gr_cell a4 X
  have ra5 := fun X : Gr w4 => gr_cell a5 X
  have rb0 := fun X : Gr w4 => gr_cell b0 X
  have rb1 := fun X : Gr w4 => gr_cell b1 X
  have rb2 := fun X : Gr w4 => gr_cell b2 X
  have rb3 := fun X : Gr w4 => gr_cell b3 X
  have rb4 := fun X : Gr w4 => gr_cell b4 X
  have rb5 := fun X : Gr w4 => gr_cell b5 X
  have gsome := gr_some w4
  generalize apV cl cl' = v at *
  obtain ⟨v0, v3'⟩ := hv
  clear hca hcb
  go_wp2
  refine wp_region_grown (by kernel_rfl) (by kernel_rfl) ?_
  repeat (go_big_quiet_step (fail))
  go_big_quiet_want
  go_big_quiet_op
  go_big_quiet_call (exact calls_grown (unhide SA _))
  repeat (go_big_quiet_step (fail))
  go_big_quiet_want
  go_big_quiet_op
  go_big_quiet_call (exact calls_grown (unhide SC _))
  repeat (go_big_quiet_step (fail))
  go_big_quiet_want
  go_big_quiet_op
  go_big_quiet_call (exact calls_grown (unhide SB _))
  repeat (go_big_quiet_step (fail))
  go_big_quiet_want
  go_big_quiet_op
  go_big_quiet_call (exact calls_grown (unhide SD _))
  repeat (go_big_quiet_step (fail))
  go_big_quiet_want
  go_big_quiet_op
  go_big_quiet_call (exact calls_grown (unhide SE _))
  repeat (go_big_quiet_step (fail))
  refine wpQuiet_nil ?_
  intro w5 hw1
  obtain ⟨zq, hz⟩ := hw1
  have hb : Below w4.heap.size w4 w5 := hz ▸ zq.ok
  clear hz gsome SA SB SC SD SE hEq hGd ra0 ra1 ra2 ra3 ra4 ra5 rb0 rb1 rb2 rb3 rb4 rb5
  replace HW := hide (Below.step (unhide HW) hb)
  replace HA := hide ((unhide HA).step hb)
  replace HS := hide ((unhide HS).step hb)
  replace HB := hide ((unhide HB).step hb)
  replace HT := hide ((unhide HT).step hb)
  clear hb
  clear a0 a1 a2 a3 a4 a5 s0 s1 s2 b0 b1 b2 b3 b4 b5 t0 t1 t2
  have a0 := (unhide HA).cell (i := 0) rfl
  have a1 := (unhide HA).cell (i := 1) rfl
  have a2 := (unhide HA).cell (i := 2) rfl
  have a3 := (unhide HA).cell (i := 3) rfl
  have a4 := (unhide HA).cell (i := 4) rfl
  have a5 := (unhide HA).cell (i := 5) rfl
  have s0 := (unhide HS).cell (i := 0) rfl
  have s1 := (unhide HS).cell (i := 1) rfl
  have s2 := (unhide HS).cell (i := 2) rfl
  have b0 := (unhide HB).cell (i := 0) rfl
  have b1 := (unhide HB).cell (i := 1) rfl
  have b2 := (unhide HB).cell (i := 2) rfl
  have b3 := (unhide HB).cell (i := 3) rfl
  have b4 := (unhide HB).cell (i := 4) rfl
  have b5 := (unhide HB).cell (i := 5) rfl
  have t0 := (unhide HT).cell (i := 0) rfl
  have t1 := (unhide HT).cell (i := 1) rfl
  have t2 := (unhide HT).cell (i := 2) rfl
  have hvv : v = 0 ∨ v = 1 ∨ v = 2 ∨ v = 3 := by omega
  rcases hvv with rfl | rfl | rfl | rfl
  · go_wp2
    go_ret
    exact ⟨by rw [unhide EB]; simp [keptB], unhide HW⟩
  · obtain ⟨one, eo⟩ : ∃ o, o = decide (p + q + r = 1) := ⟨_, rfl⟩
    rw [← eo] at CO
    unfold v3 at CO
    have EO := hide eo
    clear eo
    go_wp2_with fail
    refine (unhide CO _).mono ?_
    rintro e w6 ⟨rfl, hb⟩
    have HW1 := hide (Below.step (unhide HW) hb)
    clear hb
    go_wp2
    go_ret
    refine ⟨?_, unhide HW1⟩
    rw [unhide EB]
    have e2 : keptB 1 p q r = !one := by
      rw [unhide EO, Bool.eq_iff_iff]
      simp [keptB]
    rw [e2]
    rfl
  · go_wp2_with fail
    refine (unhide CG _).mono ?_
    rintro e w6 ⟨rfl, rfl⟩
    clear CG CO
    by_cases h2 : 2 ≤ p
    · go_wp2
      go_ret
      exact ⟨by rw [unhide EB]; simp [keptB, h2], unhide HW⟩
    · go_wp2
      go_ret
      exact ⟨by rw [unhide EB]; simp [keptB], unhide HW⟩
  · go_wp2
    go_ret
    exact ⟨by rw [unhide EB]; simp [keptB], unhide HW⟩

end Go.Proofs.Ytnfdokcpjcnknaa

/- Boxes: the specification's StackOk, Lashes. Written by wip/mkbxh.py. -/
import Derived.Test.YtmnpeljgafmnpaaBxH
namespace Go.Proofs.Ytmnpeljgafmnpaa
open Go.RowKit

set_option maxRecDepth 100000 in
set_option maxHeartbeats 12800000 in
theorem specStackOk_any (v : Value) (L : List BoxT) (most : Int) (w : World) (h : RBox w v L) :
    Calls Try.prog 19 #[v, .int .i64 most] w fun e w' => e = .returned (.bool (stackB L most)) ∧ Below w.heap.size w w' := by
  obtain ⟨ao, cap, rfl, hl, hm, hc⟩ := h
  unfold maxLen at hm
  have HC := hide hc
  clear hc
  have Q1 := hide fun V => l1In_any most 0 1000000 V
  have E0 : Hid (stk2 L = false → stackB L most = false) := stack_two
  have E1 : Hid (inB most 0 1000000 = false → stackB L most = false) := stack_most
  have E2 : Hid (stackB L most = (stk2 L && inB most 0 1000000 && decide (sumTo (wtO L) L.length ≤ most))) := rfl
  go_enter Try.func19, Try.ntmps19
  go_wp2
  go_loopg [5, 6] L.length (fun g tv iv wr => ∃ (k : Nat), k ≤ L.length ∧ g = L.length - k ∧ iv = .int .i64 k ∧ tv = .int .i64 (sumTo (wtO L) k) ∧ Hid (k = 0 ∨ L.length ≤ 20) ∧ Hid (∀ r, r < k → stGood L r) ∧ Hid (Below w.heap.size w wr))
  case atStart => exact ⟨0, Nat.zero_le _, rfl, rfl, rfl, Or.inl rfl, fun r hr => by omega, Below.refl _ _⟩
  case round =>
    obtain ⟨k, hk, rfl, rfl, rfl, HL, HA, HW⟩ := hrel
    by_cases hkn : k < L.length
    · have HBD : Hid (¬ stGood L k → stackB L most = false) := fun h => unhide E0 (stk2_bad hkn h)
      have HLong : Hid (¬ L.length ≤ 20 → stackB L most = false) := fun h => unhide E0 (stk2_long h)
      obtain ⟨b, o, n, wt, cl, co, fr, to, rfl, hc0, hc1, hc2, hc3, hc4, hc5, EX⟩ := recBoxAt (unhide HC) hkn
      have g0 := ((unhide HW).cell (lt_of_cell hc0)).trans hc0
      have g1 := ((unhide HW).cell (lt_of_cell hc1)).trans hc1
      have g2 := ((unhide HW).cell (lt_of_cell hc2)).trans hc2
      have g3 := ((unhide HW).cell (lt_of_cell hc3)).trans hc3
      have g4 := ((unhide HW).cell (lt_of_cell hc4)).trans hc4
      have g5 := ((unhide HW).cell (lt_of_cell hc5)).trans hc5
      have EO : Hid (okO L k = boxB n wt cl fr to) := by show _ = _; unfold okO boxT; rw [unhide EX]
      have EW : Hid (wtO L k = wt) := by show _ = _; unfold wtO; rw [unhide EX]
      have EC : Hid (coO L k = co) := by show _ = _; unfold coO; rw [unhide EX]
      have HBx := hide (ownV_alloc wr #[.string n, .int .i64 wt, .int .i64 cl, .bool co, .int .i64 fr, .int .i64 to] 34)
      have HW1 := hide (Below.step (unhide HW) (Below.alloc1 wr (.cells #[.string n, .int .i64 wt, .int .i64 cl, .bool co, .int .i64 fr, .int .i64 to] 34)))
      have HA1 : Hid (stGood L k → ∀ r, r < k + 1 → stGood L r) := fun h r hr => by
        by_cases e : r = k
        · rw [e]; exact h
        · exact unhide HA r (by omega)
      have HG : Hid (stGood L k ↔ (boxB n wt cl fr to = true ∧ (0 < k → wt ≤ wtO L (k - 1)) ∧ (co = true → k ≤ 1))) := by
        show _ ↔ _
        unfold stGood
        rw [unhide EO, unhide EW, unhide EC]
      have HSM : Hid (sumTo (wtO L) (k + 1) = sumTo (wtO L) k + wt) := by show sumTo (wtO L) k + wtO L k = _; rw [unhide EW]
      have HSB1 : Hid (L.length ≤ 20 → boxB n wt cl fr to = true → 0 ≤ sumTo (wtO L) (k + 1) ∧ sumTo (wtO L) (k + 1) ≤ 800000) := fun h20 hb => sumW_bd (m := k + 1) (fun r hr => by
        by_cases e : r = k
        · rw [e, unhide EO]; exact hb
        · exact (unhide HA r (by omega)).1) (by omega) (k + 1) (Nat.le_refl _)
      have QB := fun V => specBoxOk_any n wt cl co fr to V
      unfold vBox at QB
      have hki : (k : Int) < L.length := by omega
      obtain ⟨s0, e0⟩ : ∃ z, z = sumTo (wtO L) k := ⟨_, rfl⟩
      rw [← e0] at HSM ⊢
      obtain ⟨s1, e1⟩ : ∃ z, z = sumTo (wtO L) (k + 1) := ⟨_, rfl⟩
      have HE1 := hide e1
      rw [← e1] at HSM HSB1
      clear e0 e1 EX EO EC
      have c0 := (unhide HBx).cell (i := 0) rfl
      have c1 := (unhide HBx).cell (i := 1) rfl
      have c2 := (unhide HBx).cell (i := 2) rfl
      have c3 := (unhide HBx).cell (i := 3) rfl
      have c4 := (unhide HBx).cell (i := 4) rfl
      have c5 := (unhide HBx).cell (i := 5) rfl
      have hpv : ¬ k = 0 → ∃ j : Nat, j + 1 = k ∧ (wr.alloc (.cells #[.string n, .int .i64 wt, .int .i64 cl, .bool co, .int .i64 fr, .int .i64 to] 34)).cell? ⟨b, o + j * 6 + 1, none⟩ = some (.int .i64 (wtO L (k - 1))) := fun h => by
        obtain ⟨j, ej⟩ : ∃ j, j = k - 1 := ⟨_, rfl⟩
        obtain ⟨b', o', n', wt', cl', co', fr', to', e', hd0, hd1, hd2, hd3, hd4, hd5, EX'⟩ := recBoxAt (unhide HC) (show j < L.length by omega)
        simp only [Option.some.injEq, Addr.mk.injEq, and_true] at e'
        obtain ⟨rfl, rfl⟩ := e'
        refine ⟨j, by omega, ?_⟩
        rw [← ej]
        have : wtO L j = wt' := by unfold wtO; rw [unhide EX']
        rw [this]
        exact wcell3 (wcell3 hd1 (unhide HW)) (Below.alloc1 _ _)
      go_wp2
      obtain ⟨V0, eV0⟩ : ∃ z, z = wr.alloc (.cells #[.string n, .int .i64 wt, .int .i64 cl, .bool co, .int .i64 fr, .int .i64 to] 34) := ⟨_, rfl⟩
      rw [← eV0] at HBx HW1 c0 c1 c2 c3 c4 c5 hpv ⊢
      clear eV0 hc0 hc1 hc2 hc3 hc4 hc5 g0 g1 g2 g3 g4 g5
      have SB := fun X : Gr V0 => QB X.val
      have r0 := fun X : Gr V0 => gr_cell c0 X
      have r1 := fun X : Gr V0 => gr_cell c1 X
      have r2 := fun X : Gr V0 => gr_cell c2 X
      have r3 := fun X : Gr V0 => gr_cell c3 X
      have r4 := fun X : Gr V0 => gr_cell c4 X
      have r5 := fun X : Gr V0 => gr_cell c5 X
      have gsome := gr_some V0
      replace QB := hide QB
      replace SB := hide SB
      clear c0 c1 c2 c3 c4 c5
      by_cases h20 : ¬ L.length ≤ 20
      · have h20i : (20 : Int) < L.length := by omega
        have E := hide (unhide HLong h20)
        refine wp_region_grown (by kernel_rfl) (by kernel_rfl) ?_
        repeat (go_big_quiet_step (fail))
        refine wpQuiet_nil ?_
        intro w1 hw1
        obtain ⟨zq, hz⟩ := hw1
        have hb : Below V0.heap.size V0 w1 := hz ▸ zq.ok
        clear hz gsome
        replace HW1 := hide (Below.step (unhide HW1) hb)
        replace HBx := hide ((unhide HBx).step hb)
        clear hb
        go_wp2
        go_ret
        exact ⟨by rw [unhide E]; rfl, unhide HW1⟩
      replace h20 : L.length ≤ 20 := by omega
      have h20i : decide ((20 : Int) < (L.length : Int)) = false := by simp; omega
      have HS1 := hide (unhide HSB1 h20)
      cases hb : boxB n wt cl fr to with
      | false =>
        rw [hb] at SB HG
        have E := hide (unhide HBD (by rw [unhide HG]; simp))
        clear hb
        refine wp_region_grown (by kernel_rfl) (by kernel_rfl) ?_
        repeat (go_big_quiet_step (fail))
        go_big_quiet_want
        go_big_quiet_op
        go_big_quiet_call (exact calls_grown (unhide SB _))
        repeat (go_big_quiet_step (fail))
        refine wpQuiet_nil ?_
        intro w1 hw1
        obtain ⟨zq, hz⟩ := hw1
        have hb : Below V0.heap.size V0 w1 := hz ▸ zq.ok
        clear hz gsome
        replace HW1 := hide (Below.step (unhide HW1) hb)
        replace HBx := hide ((unhide HBx).step hb)
        clear hb
        go_wp2
        go_ret
        exact ⟨by rw [unhide E]; rfl, unhide HW1⟩
      | true =>
      rw [hb] at SB HG HS1
      have hs1 := unhide HS1 rfl
      have q1 : IntKind.i64.wrap (s0 + wt) = s1 := by rw [IntKind.wrap_i64, unhide HSM] at *; omega
      clear hb HS1 HSB1
      by_cases hk0 : k = 0
      · have d1 : decide ((0 : Int) < (k : Int)) = false := by simp; omega
        have d1' : decide (0 < k) = false := by simp; omega
        have d2 : decide ((1 : Int) < (k : Int)) = false := by simp; omega
        have d2' : decide (1 < k) = false := by simp; omega
        have HGd := hide (unhide HA1 ((unhide HG).2 ⟨rfl, fun h => by omega, fun _ => by omega⟩))
        clear hk0 hpv
        cases co with
        | false =>
          refine wp_region_grown (by kernel_rfl) (by kernel_rfl) ?_
          repeat (go_big_quiet_step (fail))
          go_big_quiet_want
          go_big_quiet_op
          go_big_quiet_call (exact calls_grown (unhide SB _))
          repeat (go_big_quiet_step (fail))
          refine wpQuiet_nil ?_
          intro w1 hw1
          obtain ⟨zq, hz⟩ := hw1
          have hb : Below V0.heap.size V0 w1 := hz ▸ zq.ok
          clear hz gsome
          replace HW1 := hide (Below.step (unhide HW1) hb)
          replace HBx := hide ((unhide HBx).step hb)
          clear hb
          clear r0 r1 r2 r3 r4 r5 SB QB
          have c1 := (unhide HBx).cell (i := 1) rfl
          go_wp2
          go_roundg (L.length - (k + 1))
          case measure => omega
          case rel => exact ⟨k + 1, by omega, rfl, by go_num, by rw [unhide HE1], Or.inr h20, unhide HGd, unhide HW1⟩
        | true =>
          refine wp_region_grown (by kernel_rfl) (by kernel_rfl) ?_
          repeat (go_big_quiet_step (fail))
          go_big_quiet_want
          go_big_quiet_op
          go_big_quiet_call (exact calls_grown (unhide SB _))
          repeat (go_big_quiet_step (fail))
          refine wpQuiet_nil ?_
          intro w1 hw1
          obtain ⟨zq, hz⟩ := hw1
          have hb : Below V0.heap.size V0 w1 := hz ▸ zq.ok
          clear hz gsome
          replace HW1 := hide (Below.step (unhide HW1) hb)
          replace HBx := hide ((unhide HBx).step hb)
          clear hb
          clear r0 r1 r2 r3 r4 r5 SB QB
          have c1 := (unhide HBx).cell (i := 1) rfl
          go_wp2
          go_roundg (L.length - (k + 1))
          case measure => omega
          case rel => exact ⟨k + 1, by omega, rfl, by go_num, by rw [unhide HE1], Or.inr h20, unhide HGd, unhide HW1⟩
      · obtain ⟨j, hj, hpv0⟩ := hpv hk0
        clear hpv
        obtain ⟨wp, ewp⟩ : ∃ z, z = wtO L (k - 1) := ⟨_, rfl⟩
        rw [← ewp] at HG hpv0
        have rp := fun X : Gr V0 => gr_cell hpv0 X
        have q2 : IntKind.i64.wrap ((k : Int) - 1) = (j : Int) := by rw [IntKind.wrap_i64]; omega
        have hjl : (j : Int) < L.length := by omega
        have d1 : decide ((0 : Int) < (k : Int)) = true := by simp; omega
        have d1' : decide (0 < k) = true := by simp; omega
        have hkp : 0 < k := by omega
        clear hj hk0 ewp hpv0
        by_cases hlt : wp < wt
        · have E := hide (unhide HBD (by rw [unhide HG]; intro h; have := h.2.1 hkp; omega))
          clear hkp
          refine wp_region_grown (by kernel_rfl) (by kernel_rfl) ?_
          repeat (go_big_quiet_step (fail))
          go_big_quiet_want
          go_big_quiet_op
          go_big_quiet_call (exact calls_grown (unhide SB _))
          repeat (go_big_quiet_step (fail))
          refine wpQuiet_nil ?_
          intro w1 hw1
          obtain ⟨zq, hz⟩ := hw1
          have hb : Below V0.heap.size V0 w1 := hz ▸ zq.ok
          clear hz gsome
          replace HW1 := hide (Below.step (unhide HW1) hb)
          replace HBx := hide ((unhide HBx).step hb)
          clear hb
          go_wp2
          go_ret
          exact ⟨by rw [unhide E]; rfl, unhide HW1⟩
        have d3 : decide (wp < wt) = false := by simp; omega
        cases co with
        | false =>
          have HGd := hide (unhide HA1 ((unhide HG).2 ⟨rfl, fun _ => by omega, fun h => by cases h⟩))
          clear hkp hlt
          refine wp_region_grown (by kernel_rfl) (by kernel_rfl) ?_
          repeat (go_big_quiet_step (fail))
          go_big_quiet_want
          go_big_quiet_op
          go_big_quiet_call (exact calls_grown (unhide SB _))
          repeat (go_big_quiet_step (fail))
          refine wpQuiet_nil ?_
          intro w1 hw1
          obtain ⟨zq, hz⟩ := hw1
          have hb : Below V0.heap.size V0 w1 := hz ▸ zq.ok
          clear hz gsome
          replace HW1 := hide (Below.step (unhide HW1) hb)
          replace HBx := hide ((unhide HBx).step hb)
          clear hb
          clear r0 r1 r2 r3 r4 r5 SB QB
          have c1 := (unhide HBx).cell (i := 1) rfl
          go_wp2
          go_roundg (L.length - (k + 1))
          case measure => omega
          case rel => exact ⟨k + 1, by omega, rfl, by go_num, by rw [unhide HE1], Or.inr h20, unhide HGd, unhide HW1⟩
        | true =>
          by_cases hk1 : 1 < k
          · have E := hide (unhide HBD (by rw [unhide HG]; intro h; have := h.2.2 rfl; omega))
            have d2 : decide ((1 : Int) < (k : Int)) = true := by simp; omega
            have d2' : decide (1 < k) = true := by simp; omega
            clear hkp hlt hk1
            refine wp_region_grown (by kernel_rfl) (by kernel_rfl) ?_
            repeat (go_big_quiet_step (fail))
            go_big_quiet_want
            go_big_quiet_op
            go_big_quiet_call (exact calls_grown (unhide SB _))
            repeat (go_big_quiet_step (fail))
            refine wpQuiet_nil ?_
            intro w1 hw1
            obtain ⟨zq, hz⟩ := hw1
            have hb : Below V0.heap.size V0 w1 := hz ▸ zq.ok
            clear hz gsome
            replace HW1 := hide (Below.step (unhide HW1) hb)
            replace HBx := hide ((unhide HBx).step hb)
            clear hb
            go_wp2
            go_ret
            exact ⟨by rw [unhide E]; rfl, unhide HW1⟩
          · have HGd := hide (unhide HA1 ((unhide HG).2 ⟨rfl, fun _ => by omega, fun _ => by omega⟩))
            have d2 : decide ((1 : Int) < (k : Int)) = false := by simp; omega
            have d2' : decide (1 < k) = false := by simp; omega
            clear hkp hlt hk1
            refine wp_region_grown (by kernel_rfl) (by kernel_rfl) ?_
            repeat (go_big_quiet_step (fail))
            go_big_quiet_want
            go_big_quiet_op
            go_big_quiet_call (exact calls_grown (unhide SB _))
            repeat (go_big_quiet_step (fail))
            refine wpQuiet_nil ?_
            intro w1 hw1
            obtain ⟨zq, hz⟩ := hw1
            have hb : Below V0.heap.size V0 w1 := hz ▸ zq.ok
            clear hz gsome
            replace HW1 := hide (Below.step (unhide HW1) hb)
            replace HBx := hide ((unhide HBx).step hb)
            clear hb
            clear r0 r1 r2 r3 r4 r5 SB QB
            have c1 := (unhide HBx).cell (i := 1) rfl
            go_wp2
            go_roundg (L.length - (k + 1))
            case measure => omega
            case rel => exact ⟨k + 1, by omega, rfl, by go_num, by rw [unhide HE1], Or.inr h20, unhide HGd, unhide HW1⟩
    · have hki : ¬ (k : Int) < L.length := by omega
      have hkk : k = L.length := by omega
      have h20 : L.length ≤ 20 := by have := unhide HL; omega
      have E := hide (unhide E2)
      rw [stk2_all h20 (by rw [← hkk]; exact unhide HA), ← hkk] at E
      clear hkk E2 E0
      generalize sumTo (wtO L) k = s0 at *
      cases hm1 : inB most 0 1000000 with
      | false =>
        rw [hm1] at Q1 E
        go_wp2_with fail
        refine (unhide Q1 _).mono ?_
        rintro e w1 ⟨rfl, rfl⟩
        go_wp2
        go_ret
        exact ⟨by rw [unhide E]; rfl, unhide HW⟩
      | true =>
        rw [hm1] at Q1 E
        go_wp2_with fail
        refine (unhide Q1 _).mono ?_
        rintro e w1 ⟨rfl, rfl⟩
        clear Q1
        by_cases hs : s0 ≤ most
        · go_wp2
          go_ret
          exact ⟨by rw [unhide E]; simp [hs], unhide HW⟩
        · go_wp2
          go_ret
          exact ⟨by rw [unhide E]; simp, unhide HW⟩

set_option maxRecDepth 10000 in
set_option maxHeartbeats 6400000 in
theorem specLashes_any (v : Value) (L : List BoxT) (wind : Int) (w : World) (h : RBox w v L) :
    Calls Try.prog 21 #[v, .int .i64 wind] w fun e w' => e = .returned (.tuple #[.int .i64 (lashC L wind), .bool (lashB L wind)]) ∧ Below w.heap.size w w' := by
  obtain ⟨ao, cap, rfl, hl, hm, hc⟩ := h
  unfold maxLen at hm
  have HC := hide hc
  clear hc
  have Q1 := hide fun V => l1In_any wind 0 100 V
  have E0 : Hid (lashB L wind = false → lashC L wind = 0) := lash_pair
  have E2 : Hid (lashB L wind = (stk1 L && inB wind 0 100)) := rfl
  have E5 : Hid (lashB L wind = true → lashC L wind = sumTo (lashK L wind) L.length) := fun h => by rw [lashC, if_pos h]; rfl
  by_cases h20 : ¬ L.length ≤ 20
  · have h20i : (20 : Int) < L.length := by omega
    have E := hide (unhide E2)
    rw [stk1_long h20] at E
    have E' := hide (unhide E0 (by rw [unhide E]; rfl))
    go_enter Try.func21, Try.ntmps21
    go_wp2
    refine bodyPost_ret (v := .tuple #[.int .i64 0, .bool false]) (by simp [results, Try.results21, go_sem]) rfl ⟨by rw [unhide E, unhide E']; rfl, Below.refl _ _⟩
  replace h20 : L.length ≤ 20 := by omega
  have h20i : ¬ (20 : Int) < L.length := by omega
  go_enter Try.func21, Try.ntmps21
  cases hm1 : inB wind 0 100 with
  | false =>
    rw [hm1] at Q1 E2
    have E : Hid (lashB L wind = false) := by show _ = _; rw [unhide E2, Bool.and_false]
    have E' := hide (unhide E0 (by rw [unhide E]))
    go_wp2_with fail
    refine (unhide Q1 _).mono ?_
    rintro e w1 ⟨rfl, rfl⟩
    go_wp2
    refine bodyPost_ret (v := .tuple #[.int .i64 0, .bool false]) (by simp [results, Try.results21, go_sem]) rfl ⟨by rw [unhide E, unhide E'], Below.refl _ _⟩
  | true =>
  rw [hm1] at Q1 E2
  have hmb := inB_true hm1
  obtain ⟨mo0, mo1⟩ := hmb
  go_wp2_with fail
  refine (unhide Q1 _).mono ?_
  rintro e w1 ⟨rfl, rfl⟩
  clear Q1 hm1
  go_wp2
  go_loopg [6, 7, 8] L.length (fun g lv tv iv wr => ∃ (k : Nat), k ≤ L.length ∧ g = L.length - k ∧ iv = .int .i64 k ∧ tv = .int .i64 (sumTo (wtO L) k) ∧ lv = .int .i64 (sumTo (lashK L wind) k) ∧ Hid (∀ r, r < k → okO L r = true) ∧ Hid (Below w1.heap.size w1 wr))
  case atStart => exact ⟨0, Nat.zero_le _, rfl, rfl, rfl, rfl, fun r hr => by omega, Below.refl _ _⟩
  case round =>
    obtain ⟨k, hk, rfl, rfl, rfl, rfl, HA, HW⟩ := hrel
    by_cases hkn : k < L.length
    · have HBD : Hid (okO L k = false → stk1 L = false) := stk1_bad hkn
      obtain ⟨b, o, n, wt, cl, co, fr, to, rfl, hc0, hc1, hc2, hc3, hc4, hc5, EX⟩ := recBoxAt (unhide HC) hkn
      have g0 := ((unhide HW).cell (lt_of_cell hc0)).trans hc0
      have g1 := ((unhide HW).cell (lt_of_cell hc1)).trans hc1
      have g2 := ((unhide HW).cell (lt_of_cell hc2)).trans hc2
      have g3 := ((unhide HW).cell (lt_of_cell hc3)).trans hc3
      have g4 := ((unhide HW).cell (lt_of_cell hc4)).trans hc4
      have g5 := ((unhide HW).cell (lt_of_cell hc5)).trans hc5
      have EO : Hid (okO L k = boxB n wt cl fr to) := by show _ = _; unfold okO boxT; rw [unhide EX]
      have EW : Hid (wtO L k = wt) := by show _ = _; unfold wtO; rw [unhide EX]
      have EC : Hid (coO L k = co) := by show _ = _; unfold coO; rw [unhide EX]
      have QB := hide fun V => specBoxOk_any n wt cl co fr to V
      unfold vBox at QB
      have hki : (k : Int) < L.length := by omega
      cases hb : boxB n wt cl fr to with
      | false =>
        rw [hb] at QB
        have E := hide (unhide E2)
        rw [unhide HBD (by rw [unhide EO, hb])] at E
        have E' := hide (unhide E0 (by rw [unhide E]; rfl))
        clear hc0 hc1 hc2 hc3 hc4 hc5 EX EO EW EC hb
        generalize sumTo (lashK L wind) k = t0 at *
        generalize sumTo (wtO L) k = s0 at *
        go_wp2_with fail
        refine (unhide QB _).mono ?_
        rintro e w2 ⟨rfl, hb⟩
        have HW1 := hide (Below.step (unhide HW) hb)
        clear hb QB
        go_wp2
        refine bodyPost_ret (v := .tuple #[.int .i64 0, .bool false]) (by simp [results, Try.results21, go_sem]) rfl ⟨by rw [unhide E, unhide E']; rfl, unhide HW1⟩
      | true =>
      rw [hb] at QB
      have HAL : Hid (∀ r, r < k + 1 → okO L r = true) := fun r hr => by
        by_cases e : r = k
        · rw [e, unhide EO]; exact hb
        · exact unhide HA r (by omega)
      have HSB := hide (sumW_bd (m := k + 1) (unhide HAL) (by omega) k (by omega))
      have HSB1 := hide (sumW_bd (m := k + 1) (unhide HAL) (by omega) (k + 1) (by omega))
      have HSM : Hid (sumTo (wtO L) (k + 1) = sumTo (wtO L) k + wt) := by show sumTo (wtO L) k + wtO L k = _; rw [unhide EW]
      have HFB := hide (forceN_bd (n := L.length) (k := k) mo0 mo1 h20 hk)
      have HTB := hide (lashS_bd (L := L) mo0 mo1 (m := k + 1) (by omega) h20 (by omega) (unhide HAL) k (by omega))
      have HTB1 := hide (lashS_bd (L := L) mo0 mo1 (m := k + 1) (by omega) h20 (by omega) (unhide HAL) (k + 1) (by omega))
      have HTM : Hid (sumTo (lashK L wind) (k + 1) = sumTo (lashK L wind) k + needV (100 * wind * ((L.length : Int) - (k : Int)) - sumTo (wtO L) (k + 1) / 10)) := rfl
      obtain ⟨s0, e0⟩ : ∃ z, z = sumTo (wtO L) k := ⟨_, rfl⟩
      rw [← e0] at HSM HSB ⊢
      obtain ⟨s1, e1⟩ : ∃ z, z = sumTo (wtO L) (k + 1) := ⟨_, rfl⟩
      have HE1 := hide e1
      rw [← e1] at HSM HSB1 HTM
      obtain ⟨t0, e2⟩ : ∃ z, z = sumTo (lashK L wind) k := ⟨_, rfl⟩
      rw [← e2] at HTM HTB ⊢
      obtain ⟨t1, e3⟩ : ∃ z, z = sumTo (lashK L wind) (k + 1) := ⟨_, rfl⟩
      have HT1 := hide e3
      rw [← e3] at HTM HTB1
      clear e0 e1 e2 e3
      have q1 : IntKind.i64.wrap (s0 + wt) = s1 := by have := unhide HSB1; rw [IntKind.wrap_i64, unhide HSM] at *; omega
      obtain ⟨mm, em⟩ : ∃ z : Int, z = (L.length : Int) - (k : Int) := ⟨_, rfl⟩
      rw [← em] at HFB HTM
      have q2 : IntKind.i64.wrap ((L.length : Int) - (k : Int)) = mm := by rw [IntKind.wrap_i64, em]; omega
      obtain ⟨uu, eu⟩ : ∃ z : Int, z = 100 * wind := ⟨_, rfl⟩
      rw [← eu] at HFB HTM
      have q3 : IntKind.i64.wrap (100 * wind) = uu := by rw [IntKind.wrap_i64, eu]; omega
      obtain ⟨pp, ep⟩ : ∃ z : Int, z = uu * mm := ⟨_, rfl⟩
      rw [← ep] at HFB HTM
      obtain ⟨f0, f1⟩ := unhide HFB
      have q4 : IntKind.i64.wrap (uu * mm) = pp := by rw [← ep, IntKind.wrap_i64]; omega
      obtain ⟨s10, s11⟩ := unhide HSB1
      obtain ⟨ff, ef⟩ : ∃ z : Int, z = pp - s1 / 10 := ⟨_, rfl⟩
      rw [← ef] at HTM
      have q5 : IntKind.i64.wrap (pp - s1 / 10) = ff := by rw [IntKind.wrap_i64, ef]; omega
      obtain ⟨nn, en⟩ : ∃ z : Int, z = needV ff := ⟨_, rfl⟩
      rw [← en] at HTM
      have q6 : IntKind.i64.wrap (t0 + nn) = t1 := by have := unhide HTB1; rw [IntKind.wrap_i64, unhide HTM] at *; omega
      have hki : (k : Int) < L.length := by omega
      have hff : -1000000 ≤ ff ∧ ff ≤ 200000 := by omega
      obtain ⟨hff0, hff1⟩ := hff
      clear em eu ep HFB HTB HTB1 HSB HSB1
      have EN := hide en
      clear hc0 hc1 hc2 hc3 hc4 hc5 EX EO EW EC hb en ef
      go_wp2_with fail
      refine (unhide QB _).mono ?_
      rintro e w2 ⟨rfl, hb⟩
      have HW1 := hide (Below.step (unhide HW) hb)
      have k1 := (hb.cell (lt_of_cell g1)).trans g1
      clear hb QB g0 g1 g2 g3 g4 g5
      by_cases hf : 0 < ff
      · have en2 : (ff + 499) / 500 = nn := by rw [unhide EN, needV, if_neg (by omega)]
        have q7 : IntKind.i64.wrap (ff + 499) = ff + 499 := by rw [IntKind.wrap_i64]; omega
        go_wp2
        go_roundg (L.length - (k + 1))
        case measure => omega
        case rel => exact ⟨k + 1, by omega, rfl, by go_num, by rw [unhide HE1], by rw [unhide HT1], unhide HAL, unhide HW1⟩
      · have en2 : t0 = t1 := by rw [unhide HTM, unhide EN, needV, if_pos (by omega)]; omega
        have EN2 := hide en2
        clear en2
        go_wp2
        go_roundg (L.length - (k + 1))
        case measure => omega
        case rel => exact ⟨k + 1, by omega, rfl, by go_num, by rw [unhide HE1], by rw [unhide EN2, unhide HT1], unhide HAL, unhide HW1⟩
    · have hki : ¬ (k : Int) < L.length := by omega
      have hkk : k = L.length := by omega
      have E := hide (unhide E2)
      rw [stk1_all h20 (by rw [← hkk]; exact unhide HA)] at E
      have E' := hide (unhide E5 (by rw [unhide E]; rfl))
      rw [← hkk] at E'
      clear hkk
      generalize sumTo (lashK L wind) k = t0 at *
      generalize sumTo (wtO L) k = s0 at *
      go_wp2
      refine bodyPost_ret (v := .tuple #[.int .i64 t0, .bool true]) (by simp [results, Try.results21, go_sem]) rfl ⟨by rw [unhide E, unhide E']; rfl, unhide HW⟩

end Go.Proofs.Ytmnpeljgafmnpaa

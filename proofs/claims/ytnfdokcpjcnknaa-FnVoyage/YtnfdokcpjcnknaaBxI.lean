/- Boxes: the specification's StackOk, Lashes. Written by wip/mkbxh.py. -/
import Derived.Test.YtnfdokcpjcnknaaBxH
namespace Go.Proofs.Ytnfdokcpjcnknaa
open Go.RowKit

set_option maxRecDepth 100000 in
set_option maxHeartbeats 12800000 in
theorem specStackOk_any (v : Value) (L : List BoxT) (most : Int) (w : World) (h : RBox w v L) :
    Calls Try.prog 48 #[v, .int .i64 most] w fun e w' => e = .returned (.bool (stackB L most)) ∧ Below w.heap.size w w' := by
  obtain ⟨ao, cap, rfl, hl, hm, hc⟩ := h
  unfold maxLen at hm
  have HC := hide hc
  clear hc
  have Q1 := hide fun V => l1In_any most 0 1000000 V
  have E0 : Hid (stk2 L = false → stackB L most = false) := stack_two
  have E1 : Hid (inB most 0 1000000 = false → stackB L most = false) := stack_most
  have E2 : Hid (stackB L most = (stk2 L && inB most 0 1000000 && decide (sumTo (wtO L) L.length ≤ most))) := rfl
  go_enter Try.func48, Try.ntmps48
  go_wp2
  go_loopg [5, 6] L.length (fun g tv iv wr => ∃ (k : Nat), k ≤ L.length ∧ g = L.length - k ∧ iv = .int .i64 k ∧ tv = .int .i64 (sumTo (wtO L) k) ∧ Hid (k = 0 ∨ L.length ≤ 20) ∧ Hid (∀ r, r < k → stGood L r) ∧ Hid (Below w.heap.size w wr))
  case atStart => exact ⟨0, Nat.zero_le _, rfl, rfl, rfl, Or.inl rfl, fun r hr => by omega, Below.refl _ _⟩
  case round =>
    obtain ⟨k, hk, rfl, rfl, rfl, HL, HA, HW⟩ := hrel
    by_cases hkn : k < L.length
    · have HBD : Hid (¬ stGood L k → stackB L most = false) := fun h => unhide E0 (stk2_bad hkn h)
      have HLong : Hid (¬ L.length ≤ 20 → stackB L most = false) := fun h => unhide E0 (stk2_long h)
      obtain ⟨b, o, n, wt, cl, co, fr, to, rfl, hc0, hc1, hc2, hc3, hc4, hc5, EX⟩ := recBoxAt (unhide HC) hkn
      have g0 := ((unhide HW).cell (lt_of_cell hc0)).trans hc0
      have g1 := ((unhide HW).cell (lt_of_cell hc1)).trans hc1
      have g2 := ((unhide HW).cell (lt_of_cell hc2)).trans hc2
      have g3 := ((unhide HW).cell (lt_of_cell hc3)).trans hc3
      have g4 := ((unhide HW).cell (lt_of_cell hc4)).trans hc4
      have g5 := ((unhide HW).cell (lt_of_cell hc5)).trans hc5
      have EO : Hid (okO L k = boxB n wt cl fr to) := by show _ = _; unfold okO boxT; rw [unhide EX]
      have EW : Hid (wtO L k = wt) := by show _ = _; unfold wtO; rw [unhide EX]
      have EC : Hid (coO L k = co) := by show _ = _; unfold coO; rw [unhide EX]
      have HBx := hide (ownV_alloc wr #[.string n, .int .i64 wt, .int .i64 cl, .bool co, .int .i64 fr, .int .i64 to] 36)
      have HW1 := hide (Below.step (unhide HW) (Below.alloc1 wr (.cells #[.string n, .int .i64 wt, .int .i64 cl, .bool co, .int .i64 fr, .int .i64 to] 36)))
      have HA1 : Hid (stGood L k → ∀ r, r < k + 1 → stGood L r) := fun h r hr => by
        by_cases e : r = k
        · rw [e]; exact h
        · exact unhide HA r (by omega)
      have HG : Hid (stGood L k ↔ (boxB n wt cl fr to = true ∧ (0 < k → wt ≤ wtO L (k - 1)) ∧ (co = true → k ≤ 1))) := by
        show _ ↔ _
        unfold stGood
        rw [unhide EO, unhide EW, unhide EC]
      have HSM : Hid (sumTo (wtO L) (k + 1) = sumTo (wtO L) k + wt) := by show sumTo (wtO L) k + wtO L k = _; rw [unhide EW]
      have HSB1 : Hid (L.length ≤ 20 → boxB n wt cl fr to = true → 0 ≤ sumTo (wtO L) (k + 1) ∧ sumTo (wtO L) (k + 1) ≤ 800000) := fun h20 hb => sumW_bd (m := k + 1) (fun r hr => by
        by_cases e : r = k
        · rw [e, unhide EO]; exact hb
        · exact (unhide HA r (by omega)).1) (by omega) (k + 1) (Nat.le_refl _)
      have QB := fun V => specBoxOk_any n wt cl co fr to V
      unfold vBox at QB
      have hki : (k : Int) < L.length := by omega
      obtain ⟨s0, e0⟩ : ∃ z, z = sumTo (wtO L) k := ⟨_, rfl⟩
      rw [← e0] at HSM ⊢
      obtain ⟨s1, e1⟩ : ∃ z, z = sumTo (wtO L) (k + 1) := ⟨_, rfl⟩
      have HE1 := hide e1
      rw [← e1] at HSM HSB1
      clear e0 e1 EX EO EC
      have c0 := (unhide HBx).cell (i := 0) rfl
      have c1 := (unhide HBx).cell (i := 1) rfl
      have c2 := (unhide HBx).cell (i := 2) rfl
      have c3 := (unhide HBx).cell (i := 3) rfl
      have c4 := (unhide HBx).cell (i := 4) rfl
      have c5 := (unhide HBx).cell (i := 5) rfl
      have hpv : ¬ k = 0 → ∃ j : Nat, j + 1 = k ∧ (wr.alloc (.cells #[.string n, .int .i64 wt, .int .i64 cl, .bool co, .int .i64 fr, .int .i64 to] 36)).cell? ⟨b, o + j * 6 + 1, none⟩ = some (.int .i64 (wtO L (k - 1))) := fun h => by
        obtain ⟨j, ej⟩ : ∃ j, j = k - 1 := ⟨_, rfl⟩
        obtain ⟨b', o', n', wt', cl', co', fr', to', e', hd0, hd1, hd2, hd3, hd4, hd5, EX'⟩ := recBoxAt (unhide HC) (show j < L.length by omega)
        simp only [Option.some.injEq, Addr.mk.injEq, and_true] at e'
        obtain ⟨rfl, rfl⟩ := e'
        refine ⟨j, by omega, ?_⟩
        rw [← ej]
        have : wtO L j = wt' := by unfold wtO; rw [unhide EX']
        rw [this]
        exact wcell3 (wcell3 hd1 (unhide HW)) (Below.alloc1 _ _)
      go_wp2
      obtain ⟨V0, eV0⟩ : ∃ z, z = wr.alloc (.cells #[.string n, .int .i64 wt, .int .i64 cl, .bool co, .int .i64 fr, .int .i64 to] 36) := ⟨_, rfl⟩
      rw [← eV0] at HBx HW1 c0 c1 c2 c3 c4 c5 hpv ⊢
      clear eV0 hc0 hc1 hc2 hc3 hc4 hc5 g0 g1 g2 g3 g4 g5
      have SB := fun X : Gr V0 => QB X.val
      have r0 := fun X : Gr V0 => gr_cell c0 X
      have r1 := fun X : Gr V0 => gr_cell c1 X
      have r2 := fun X : Gr V0 => gr_cell c2 X
      have r3 := fun X : Gr V0 => gr_cell c3 X
      have r4 := fun X : Gr V0 => gr_cell c4 X
      have r5 := fun X : Gr V0 => gr_cell c5 X
      have gsome := gr_some V0
      replace QB := hide QB
      replace SB := hide SB
      clear c0 c1 c2 c3 c4 c5
      by_cases h20 : ¬ L.length ≤ 20
      · have h20i : (20 : Int) < L.length := by omega
        have E := hide (unhide HLong h20)
        refine wp_region_grown (by kernel_rfl) (by kernel_rfl) ?_
        repeat (go_big_quiet_step (fail))
        refine wpQuiet_nil ?_
        intro w1 hw1
        obtain ⟨zq, hz⟩ := hw1
        have hb : Below V0.heap.size V0 w1 := hz ▸ zq.ok
        clear hz gsome
        replace HW1 := hide (Below.step (unhide HW1) hb)
        replace HBx := hide ((unhide HBx).step hb)
        clear hb
        go_wp2
        go_ret
        exact ⟨by rw [unhide E]; rfl, unhide HW1⟩
      replace h20 : L.length ≤ 20 := by omega
      have h20i : decide ((20 : Int) < (L.length : Int)) = false := by simp; omega
      have HS1 := hide (unhide HSB1 h20)
      cases hb : boxB n wt cl fr to with
      | false =>
        rw [hb] at SB HG
        have E := hide (unhide HBD (by rw [unhide HG]; simp))
        clear hb
        refine wp_region_grown (by kernel_rfl) (by kernel_rfl) ?_
        repeat (go_big_quiet_step (fail))
        go_big_quiet_want
        go_big_quiet_op
        go_big_quiet_call (exact calls_grown (unhide SB _))
        repeat (go_big_quiet_step (fail))
        refine wpQuiet_nil ?_
        intro w1 hw1
        obtain ⟨zq, hz⟩ := hw1
        have hb : Below V0.heap.size V0 w1 := hz ▸ zq.ok
        clear hz gsome
        replace HW1 := hide (Below.step (unhide HW1) hb)
        replace HBx := hide ((unhide HBx).step hb)
        clear hb
        go_wp2
        go_ret
        exact ⟨by rw [unhide E]; rfl, unhide HW1⟩
      | true =>
      rw [hb] at SB HG HS1
      have hs1 := unhide HS1 rfl
      have q1 : IntKind.i64.wrap (s0 + wt) = s1 := by rw [IntKind.wrap_i64, unhide HSM] at *; omega
      clear hb HS1 HSB1
      by_cases hk0 : k = 0
      · have d1 : decide ((0 : Int) < (k : Int)) = false := by simp; omega
        have d1' : decide (0 < k) = false := by simp; omega
        have d2 : decide ((1 : Int) < (k : Int)) = false := by simp; omega
        have d2' : decide (1 < k) = false := by simp; omega
        have HGd := hide (unhide HA1 ((unhide HG).2 ⟨rfl, fun h => by omega, fun _ => by omega⟩))
        clear hk0 hpv
        cases co with
        | false =>
          refine wp_region_grown (by kernel_rfl) (by kernel_rfl) ?_
          repeat (go_big_quiet_step (fail))
          go_big_quiet_want
          go_big_quiet_op
          go_big_quiet_call (exact calls_grown (unhide SB _))
          repeat (go_big_quiet_step (fail))
          refine wpQuiet_nil ?_
          intro w1 hw1
          obtain ⟨zq, hz⟩ := hw1
          have hb : Below V0.heap.size V0 w1 := hz ▸ zq.ok
          clear hz gsome
          replace HW1 := hide (Below.step (unhide HW1) hb)
          replace HBx := hide ((unhide HBx).step hb)
          clear hb
          clear r0 r1 r2 r3 r4 r5 SB QB
          have c1 := (unhide HBx).cell (i := 1) rfl
          go_wp2
          go_roundg (L.length - (k + 1))
          case measure => omega
          case rel => exact ⟨k + 1, by omega, rfl, by go_num, by rw [unhide HE1], Or.inr h20, unhide HGd, unhide HW1⟩
        | true =>
          refine wp_region_grown (by kernel_rfl) (by kernel_rfl) ?_
          repeat (go_big_quiet_step (fail))
          go_big_quiet_want
          go_big_quiet_op
          go_big_quiet_call (exact calls_grown (unhide SB _))
          repeat (go_big_quiet_step (fail))
          refine wpQuiet_nil ?_
          intro w1 hw1
          obtain ⟨zq, hz⟩ := hw1
          have hb : Below V0.heap.size V0 w1 := hz ▸ zq.ok
          clear hz gsome
          replace HW1 := hide (Below.step (unhide HW1) hb)
          replace HBx := hide ((unhide HBx).step hb)
          clear hb
          clear r0 r1 r2 r3 r4 r5 SB QB
          have c1 := (unhide HBx).cell (i := 1) rfl
          go_wp2
          go_roundg (L.length - (k + 1))
          case measure => omega
          case rel => exact ⟨k + 1, by omega, rfl, by go_num, by rw [unhide HE1], Or.inr h20, unhide HGd, unhide HW1⟩
      · obtain ⟨j, hj, hpv0⟩ := hpv hk0
        clear hpv
        obtain ⟨wp, ewp⟩ : ∃ z, z = wtO L (k - 1) := ⟨_, rfl⟩
        rw [← ewp] at HG hpv0
        have rp := fun X : Gr V0 => gr_cell hpv0 X
        have q2 : IntKind.i64.wrap ((k : Int) - 1) = (j : Int) := by rw [IntKind.wrap_i64]; omega
        have hjl : (j : Int) < L.length := by omega
        have d1 : decide ((0 : Int) < (k : Int)) = true := by simp; omega
        have d1' : decide (0 < k) = true := by simp; omega
        have hkp : 0 < k := by omega
        clear hj hk0 ewp hpv0
        by_cases hlt : wp < wt
        · have E := hide (unhide HBD (by rw [unhide HG]; intro h; have := h.2.1 hkp; omega))
          clear hkp
          refine wp_region_grown (by kernel_rfl) (by kernel_rfl) ?_
          repeat (go_big_quiet_step (fail))
          go_big_quiet_want
          go_big_quiet_op
          go_big_quiet_call (exact calls_grown (unhide SB _))
          repeat (go_big_quiet_step (fail))
          refine wpQuiet_nil ?_
          intro w1 hw1
          obtain ⟨zq, hz⟩ := hw1
          have hb : Below V0.heap.size V0 w1 := hz ▸ zq.ok
          clear hz gsome
          replace HW1 := hide (Below.step (unhide HW1) hb)
          replace HBx := hide ((unhide HBx).step hb)
          clear hb
          go_wp2
          go_ret
          exact ⟨by rw [unhide E]; rfl, unhide HW1⟩
        have d3 : decide (wp < wt) = false := by simp; omega
        cases co with
        | false =>
          have HGd := hide (unhide HA1 ((unhide HG).2 ⟨rfl, fun _ => by omega, fun h => by cases h⟩))
          clear hkp hlt
          refine wp_region_grown (by kernel_rfl) (by kernel_rfl) ?_
          repeat (go_big_quiet_step (fail))
          go_big_quiet_want
          go_big_quiet_op
          go_big_quiet_call (exact calls_grown (unhide SB _))
          repeat (go_big_quiet_step (fail))
          refine wpQuiet_nil ?_
          intro w1 hw1
          obtain ⟨zq, hz⟩ := hw1
          have hb : Below V0.heap.size V0 w1 := hz ▸ zq.ok
          clear hz gsome
          replace HW1 := hide (Below.step (unhide HW1) hb)
          replace HBx := hide ((unhide HBx).step hb)
          clear hb
          clear r0 r1 r2 r3 r4 r5 SB QB
          have c1 := (unhide HBx).cell (i := 1) rfl
          go_wp2
          go_roundg (L.length - (k + 1))
          case measure => omega
          case rel => exact ⟨k + 1, by omega, rfl, by go_num, by rw [unhide HE1], Or.inr h20, unhide HGd, unhide HW1⟩
        | true =>
          by_cases hk1 : 1 < k
          · have E := hide (unhide HBD (by rw [unhide HG]; intro h; have := h.2.2 rfl; omega))
            have d2 : decide ((1 : Int) < (k : Int)) = true := by simp; omega
            have d2' : decide (1 < k) = true := by simp; omega
            clear hkp hlt hk1
            refine wp_region_grown (by kernel_rfl) (by kernel_rfl) ?_
            repeat (go_big_quiet_step (fail))
            go_big_quiet_want
            go_big_quiet_op
            go_big_quiet_call (exact calls_grown (unhide SB _))
            repeat (go_big_quiet_step (fail))
            refine wpQuiet_nil ?_
            intro w1 hw1
            obtain ⟨zq, hz⟩ := hw1
            have hb : Below V0.heap.size V0 w1 := hz ▸ zq.ok
            clear hz gsome
            replace HW1 := hide (Below.step (unhide HW1) hb)
            replace HBx := hide ((unhide HBx).step hb)
            clear hb
            go_wp2
            go_ret
            exact ⟨by rw [unhide E]; rfl, unhide HW1⟩
          · have HGd := hide (unhide HA1 ((unhide HG).2 ⟨rfl, fun _ => by omega, fun _ => by omega⟩))
            have d2 : decide ((1 : Int) < (k : Int)) = false := by simp; omega
            have d2' : decide (1 < k) = false := by simp; omega
            clear hkp hlt hk1
            refine wp_region_grown (by kernel_rfl) (by kernel_rfl) ?_
            repeat (go_big_quiet_step (fail))
            go_big_quiet_want
            go_big_quiet_op
            go_big_quiet_call (exact calls_grown (unhide SB _))
            repeat (go_big_quiet_step (fail))
            refine wpQuiet_nil ?_
            intro w1 hw1
            obtain ⟨zq, hz⟩ := hw1
            have hb : Below V0.heap.size V0 w1 := hz ▸ zq.ok
            clear hz gsome
            replace HW1 := hide (Below.step (unhide HW1) hb)
            replace HBx := hide ((unhide HBx).step hb)
            clear hb
            clear r0 r1 r2 r3 r4 r5 SB QB
            have c1 := (unhide HBx).cell (i := 1) rfl
            go_wp2
            go_roundg (L.length - (k + 1))
            case measure => omega
            case rel => exact ⟨k + 1, by omega, rfl, by go_num, by rw [unhide HE1], Or.inr h20, unhide HGd, unhide HW1⟩
    · have hki : ¬ (k : Int) < L.length := by omega
      have hkk : k = L.length := by omega
      have h20 : L.length ≤ 20 := by have := unhide HL; omega
      have E := hide (unhide E2)
      rw [stk2_all h20 (by rw [← hkk]; exact unhide HA), ← hkk] at E
      clear hkk E2 E0
      generalize sumTo (wtO L) k = s0 at *
      cases hm1 : inB most 0 1000000 with
      | false =>
        rw [hm1] at Q1 E
        go_wp2_with fail
        refine (unhide Q1 _).mono ?_
        rintro e w1 ⟨rfl, rfl⟩
        go_wp2
        go_ret
        exact ⟨by rw [unhide E]; rfl, unhide HW⟩
      | true =>
        rw [hm1] at Q1 E
        go_wp2_with fail
        refine (unhide Q1 _).mono ?_
        rintro e w1 ⟨rfl, rfl⟩
        clear Q1
        by_cases hs : s0 ≤ most
        · go_wp2
          go_ret
          exact ⟨by rw [unhide E]; simp [hs], unhide HW⟩
        · go_wp2
          go_ret
          exact ⟨by rw [unhide E]; simp, unhide HW⟩

end Go.Proofs.Ytnfdokcpjcnknaa

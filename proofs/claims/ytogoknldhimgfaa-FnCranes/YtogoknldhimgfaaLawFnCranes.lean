/- FnCranes, walked: along drawn moves cranes stay in order. Written by wip/mkfcr.py. -/
import Derived.Test.YtogoknldhimgfaaCrN
import Derived.Test.YtogoknldhimgfaaCrH
import Derived.Test.YtogoknldhimgfaaAtFix
import Derived.Laws.StructEq
import Derived.Test.YtogoknldhimgfaaCrG
import Derived.Test.YtogoknldhimgfaaCrE
namespace Go.Proofs.Ytogoknldhimgfaa
open Go.RowKit

theorem Try.eqgCrane : Try.prog.eqGuardType Try.prog.depth 45 = false := by kernel_rfl
theorem Try.heldCrane : Try.prog.stoodInHeld 45 = false := by kernel_rfl
abbrev cg (x : CraneT) : Array Value := #[.int .i64 x.1, .int .i64 x.2.1, .int .i64 x.2.2]
theorem neq_crane (x y : CraneT) (w : World) : (binOp .neq 45 (.agg (cg x)) (.agg (cg y))).run Try.prog w = .ok (.bool (!(decide (x = y)))) w := by
  obtain ⟨x0, x1, x2⟩ := x
  obtain ⟨y0, y1, y2⟩ := y
  rw [run_neq_struct, run_equalIn_agg _ _ _ _ _ (by rw [Program.fieldsOf, Try.underlying45]) Try.heldCrane]
  simp [go_sem, Program.fieldsOf, Try.underlying45, Try.underlying3]
  by_cases h1 : x0 = y0 <;> by_cases h2 : x1 = y1 <;> by_cases h3 : x2 = y2 <;> simp [h1, h2, h3]
theorem crane_some {W : World} {ao : Option Addr} {m c : Nat} {L : List CraneT} (h : RCrane W (.slice ao m c) L) (h1 : 1 ≤ L.length) : m = L.length ∧ m ≤ c ∧ c ≤ 9223372036854775807 ∧ ∃ b o, ao = some ⟨b, o, none⟩ := by
  obtain ⟨ao', c', e, h2, h3, h4⟩ := h
  simp only [Value.slice.injEq] at e
  obtain ⟨rfl, rfl, rfl⟩ := e
  obtain ⟨b, o, e, _⟩ := h4 0 (by omega)
  unfold maxLen at h3
  exact ⟨rfl, h2, by omega, b, o, e⟩
theorem crane_cells {W : World} {b o m c k : Nat} {L : List CraneT} (h : RCrane W (.slice (some ⟨b, o, none⟩) m c) L) (hk : k < L.length) {x0 x1 x2 : Int} (e : cr L k = (x0, x1, x2)) : W.cell? ⟨b, o + k * 3, none⟩ = some (.int .i64 x0) ∧ W.cell? ⟨b, o + k * 3 + 1, none⟩ = some (.int .i64 x1) ∧ W.cell? ⟨b, o + k * 3 + 2, none⟩ = some (.int .i64 x2) := by
  obtain ⟨ao', c', e', h2, h3, h4⟩ := h
  simp only [Value.slice.injEq] at e'
  obtain ⟨rfl, rfl, rfl⟩ := e'
  obtain ⟨b', o', e2, hc⟩ := h4 k hk
  simp only [Option.some.injEq, Addr.mk.injEq, and_true] at e2
  obtain ⟨rfl, rfl⟩ := e2
  have e : L.getD k default = (x0, x1, x2) := e
  rw [e] at hc
  exact ⟨hc 0 (by omega), hc 1 (by omega), hc 2 (by omega)⟩
theorem move_some {W : World} {ao : Option Addr} {m c k : Nat} {M : List MoveT} (h : RMove W (.slice ao m c) M) (hk : k < M.length) : ∃ b o, ao = some ⟨b, o, none⟩ := by
  obtain ⟨ao', c', e, h2, h3, h4⟩ := h
  simp only [Value.slice.injEq] at e
  obtain ⟨rfl, rfl, rfl⟩ := e
  obtain ⟨b, o, e, _⟩ := h4 k hk
  exact ⟨b, o, e⟩
theorem move_len {W : World} {ao : Option Addr} {m c : Nat} {M : List MoveT} (h : RMove W (.slice ao m c) M) : m = M.length ∧ m ≤ c ∧ c ≤ 9223372036854775807 := by
  obtain ⟨ao', c', e, h2, h3, h4⟩ := h
  simp only [Value.slice.injEq] at e
  obtain ⟨rfl, rfl, rfl⟩ := e
  unfold maxLen at h3
  exact ⟨rfl, h2, by omega⟩
theorem move_cells {W : World} {b o m c k : Nat} {M : List MoveT} (h : RMove W (.slice (some ⟨b, o, none⟩) m c) M) (hk : k < M.length) {a t : Int} (e : mov M k = (a, t)) : W.cell? ⟨b, o + k * 2, none⟩ = some (.int .i64 a) ∧ W.cell? ⟨b, o + k * 2 + 1, none⟩ = some (.int .i64 t) := by
  obtain ⟨ao', c', e', h2, h3, h4⟩ := h
  simp only [Value.slice.injEq] at e'
  obtain ⟨rfl, rfl, rfl⟩ := e'
  obtain ⟨b', o', e2, hc⟩ := h4 k hk
  simp only [Option.some.injEq, Addr.mk.injEq, and_true] at e2
  obtain ⟨rfl, rfl⟩ := e2
  have e : M.getD k default = (a, t) := e
  rw [e] at hc
  exact ⟨hc 0 (by omega), hc 1 (by omega)⟩

set_option maxRecDepth 100000 in
set_option maxHeartbeats 16000000 in
theorem fnCranes_any (v : Value) (nb : Nat) (w : World) (h : BytesIn w.heap.size w v nb) :
    Calls Try.prog 4 #[v] w fun e w' => e = .returned (.bool true) ∧ Below w.heap.size w w' := by
  have HB := hide h
  obtain ⟨vao, vcap, rfl, hvl, hvm, _⟩ := h
  unfold maxLen at hvm
  have Q0 := hide fun W => big_any vao nb vcap W
  by_cases hbig : 1048576 < nb
  · have d0 : decide ((1048576 : Int) < (nb : Int)) = true := by simp; omega
    rw [d0] at Q0
    go_enter Try.func4, Try.ntmps4
    go_wp2_with fail
    refine (unhide Q0 _).mono ?_
    rintro e w' ⟨rfl, rfl⟩
    go_wp2
    go_ret
    exact ⟨rfl, Below.refl _ _⟩
  have d0 : decide ((1048576 : Int) < (nb : Int)) = false := by simp; omega
  rw [d0] at Q0
  have Q1 := hide fun W (hW : BytesIn W.heap.size W (.slice vao nb vcap) nb) => drawRail_any (.slice vao nb vcap) nb W hW (by omega)
  go_enter Try.func4, Try.ntmps4
  go_wp2_with fail
  refine (unhide Q0 _).mono ?_
  rintro e w' ⟨rfl, rfl⟩
  go_wp2_with fail
  refine (unhide Q1 _ (unhide HB)).mono ?_
  rintro e WD ⟨ao, m, cc, L, gap, lo, lk, ld, M, rfl, hL, hP, hM, hM20, hbw⟩
  have HBW := hide hbw
  have hn1 : 1 ≤ L.length ∧ L.length ≤ 8 := hP.1
  obtain ⟨rfl, hcc, hcc2, b0, o0, rfl⟩ := crane_some hL hn1.1
  obtain ⟨rfl, hld, hld2⟩ := move_len hM
  have HP := hide hP
  have HL := hide hL
  have HM := hide hM
  have HOK := hide fun k => rmL_ok (M := M) hP k
  have HLN := hide fun k => rmL_len L gap M k
  have HZ0 := hide (Below.refl WD.heap.size WD)
  clear hbw hL hP hM Q0 Q1 d0 hbig hvl hvm HB
  obtain ⟨n, en⟩ : ∃ n, n = L.length := ⟨_, rfl⟩
  rw [← en] at hn1 hcc HL ⊢
  have HEN := hide en
  clear en
  go_wp2
  go_loopg [6, 7] M.length (fun g nv iv wr => ∃ (i bn on nc : Nat), i ≤ M.length ∧ g = M.length - i ∧ iv = .int .i64 (i : Int) ∧ nv = .slice (some ⟨bn, on, none⟩) n nc ∧ n ≤ nc ∧ nc ≤ 9223372036854775807 ∧ Hid (RCrane wr (.slice (some ⟨bn, on, none⟩) n nc) (rmL L gap M i)) ∧ Hid (Below WD.heap.size WD wr))
  case atStart => exact ⟨0, b0, o0, cc, Nat.zero_le _, rfl, rfl, rfl, hcc, hcc2, unhide HL, HZ0⟩
  case round =>
    clear HZ0
    obtain ⟨i, bn, on, nc, hi, rfl, rfl, rfl, hnc, hnc2, HNW, HZ⟩ := hrel
    by_cases hin : i < M.length
    · have hii : (i : Int) < M.length := by omega
      have hok := unhide HOK i
      have hlen := unhide HLN i
      obtain ⟨⟨a, t⟩, em⟩ : ∃ q, q = mov M i := ⟨_, rfl⟩
      have em := em.symm
      have HRM : Hid (rmL L gap M (i + 1) = mvL (rmL L gap M i) gap a t) := by show _ = _; simp only [rmL]; rw [em]
      generalize rmL L gap M i = P at *
      have hPn : P.length = n := by have := unhide HEN; omega
      have HPN := hide hPn
      have HNE := hide fun k hk => mvL_ne (L := P) (gap := gap) (a := a) (t := t) (k := k) hk
      have HAT := hide fun h => mvL_at (L := P) (gap := gap) (a := a) (t := t) h
      have HPS := hide fun h => psV_mv (L := P) (gap := gap) (a := a) (t := t) h
      have HO1 := hide (crB_iff.2 (mvL_ok (a := a) (t := t) hok))
      have HO2 := hide (crB_iff.2 (psV_ok (a := a) (t := t) hok))
      have HL1 : Hid ((mvL P gap a t).length = n) := by show _ = _; rw [mvL_len]; exact hPn
      have HL2 : Hid ((psV P gap a t).1.length = n) := by show _ = _; rw [psV_len]; exact hPn
      have QD := hide fun W hv => implDoMove_any (.slice (some ⟨bn, on, none⟩) n nc) P gap a t W hv (by omega)
      have QP := hide fun W hv => implPushMove_any (.slice (some ⟨bn, on, none⟩) n nc) P gap a t W hv (by omega)
      have QC := hide fun W v K hv => implCranesOk_any v K gap W hv
      unfold MvAns at QD
      unfold PsAns at QP
      obtain ⟨bl, ol, rfl⟩ := move_some (unhide HM) hin
      have HCM : Hid (∀ W, Below WD.heap.size WD W → W.cell? ⟨bl, ol + i * 2, none⟩ = some (.int .i64 a) ∧ W.cell? ⟨bl, ol + i * 2 + 1, none⟩ = some (.int .i64 t)) := fun W hW => move_cells ((unhide HM).below hW) hin em
      generalize mvL P gap a t = K at *
      generalize mvC P gap a t = C at *
      generalize psV P gap a t = KP at *
      obtain ⟨KQ, KB⟩ := KP
      clear em hok hlen hPn
      unfold vMove at QD QP
      obtain ⟨c0, c1⟩ := unhide HCM _ (unhide HZ)
      go_wp2_with fail
      refine (unhide QD _ (unhide HNW)).mono ?_
      rintro e W1 ⟨xa, xn, xc, rfl, hr, hb⟩
      replace HNW := hide ((unhide HNW).below hb)
      replace HZ := hide (Below.step (unhide HZ) hb)
      have HNX := hide hr.intsIn
      obtain ⟨exn, hxc, hxc2, bx, ox, rfl⟩ := crane_some hr.intsIn (by rw [unhide HL1]; omega)
      rw [unhide HL1] at exn
      have exn := exn.symm
      subst exn
      clear hr hb QD c0 c1
      have QC1 := hide (unhide QC _ _ K (unhide HNX))
      rw [unhide HO1] at QC1
      go_wp2_with fail
      refine (unhide QC1).mono ?_
      rintro e W2 ⟨rfl, hb⟩
      replace HNW := hide ((unhide HNW).below hb)
      replace HNX := hide ((unhide HNX).below hb)
      replace HZ := hide (Below.step (unhide HZ) hb)
      clear hb QC1
      have dn : ((n : Int) != (n : Int)) = false := by simp
      generalize hw8 : W2 = w8 at *
      clear hw8
      go_wp2
      go_loopg [10] n (fun g kv wr => ∃ k : Nat, k ≤ n ∧ g = n - k ∧ kv = .int .i64 (k : Int) ∧ Hid (RCrane wr (.slice (some ⟨bn, on, none⟩) n nc) P) ∧ Hid (RCrane wr (.slice (some ⟨bx, ox, none⟩) n xc) K) ∧ Hid (Below WD.heap.size WD wr))
      case atStart => exact ⟨0, Nat.zero_le _, rfl, rfl, HNW, HNX, HZ⟩
      case round =>
        clear HNW HNX HZ
        obtain ⟨k, hk, rfl, rfl, HNW, HNX, HZ⟩ := hrel
        by_cases hkn : k < n
        · have hki : (k : Int) < n := by omega
          obtain ⟨⟨x0, x1, x2⟩, ex⟩ : ∃ x, x = cr K k := ⟨_, rfl⟩
          obtain ⟨⟨y0, y1, y2⟩, ey⟩ : ∃ x, x = cr P k := ⟨_, rfl⟩
          obtain ⟨f0, f1, f2⟩ := crane_cells (unhide HNX) (by rw [unhide HL1]; exact hkn) ex.symm
          obtain ⟨g0, g1, g2⟩ := crane_cells (unhide HNW) (by rw [unhide HPN]; exact hkn) ey.symm
          have gsome := gr_some wr
          have r0 := fun x : Gr wr => gr_cell f0 x
          have r1 := fun x : Gr wr => gr_cell f1 x
          have r2 := fun x : Gr wr => gr_cell f2 x
          have s0 := fun x : Gr wr => gr_cell g0 x
          have s1 := fun x : Gr wr => gr_cell g1 x
          have s2 := fun x : Gr wr => gr_cell g2 x
          have hGd := fun x y w => run_eqGuard_agg (P := Try.prog) w .neq 45 x y #[.int .i64 x0, .int .i64 x1, .int .i64 x2] #[.int .i64 y0, .int .i64 y1, .int .i64 y2] Try.eqgCrane
          have HNEk := hide (unhide HNE k)
          rw [← ex, ← ey] at HNEk
          clear f0 f1 f2 g0 g1 g2 ex ey
          by_cases hxy : (x0, x1, x2) = (y0, y1, y2)
          · have hNe : ∀ W, (binOp .neq 45 (.agg #[.int .i64 x0, .int .i64 x1, .int .i64 x2]) (.agg #[.int .i64 y0, .int .i64 y1, .int .i64 y2])).run Try.prog W = .ok (.bool false) W := fun W => by have h9 := neq_crane (x0, x1, x2) (y0, y1, y2) W; rw [decide_eq_true hxy] at h9; exact h9
            clear hxy HNEk
            go_wp2
            refine wp_region_grown (by kernel_rfl) (by kernel_rfl) ?_
            repeat (go_big_quiet_step (fail))
            refine wpQuiet_nil ?_
            intro w5 hw5
            obtain ⟨z', hz⟩ := hw5
            have hb1 : Below wr.heap.size wr w5 := hz ▸ z'.ok
            replace HNW := hide ((unhide HNW).below hb1)
            replace HNX := hide ((unhide HNX).below hb1)
            replace HZ := hide (Below.step (unhide HZ) hb1)
            clear hz hb1 z' gsome r0 r1 r2 s0 s1 s2 hGd hNe
            go_wp2
            go_roundg (n - (k + 1))
            case measure => omega
            case rel => exact ⟨k + 1, by omega, rfl, by go_num, HNW, HNX, HZ⟩
          · have hNe : ∀ W, (binOp .neq 45 (.agg #[.int .i64 x0, .int .i64 x1, .int .i64 x2]) (.agg #[.int .i64 y0, .int .i64 y1, .int .i64 y2])).run Try.prog W = .ok (.bool true) W := fun W => by have h9 := neq_crane (x0, x1, x2) (y0, y1, y2) W; rw [decide_eq_false hxy] at h9; exact h9
            obtain ⟨hC, hka, hxt⟩ := unhide HNEk hxy
            have hxt : x0 = t := hxt
            subst hC
            subst hka
            subst hxt
            have d2 : ((k : Int) != (k : Int)) = false := by simp
            have d3 : (x0 != x0) = false := by simp
            obtain ⟨c0, c1⟩ := unhide HCM _ (unhide HZ)
            have t0 := fun x : Gr wr => gr_cell c0 x
            have t1 := fun x : Gr wr => gr_cell c1 x
            clear hxy HNEk c0 c1
            go_wp2
            refine wp_region_grown (by kernel_rfl) (by kernel_rfl) ?_
            repeat (go_big_quiet_step (fail))
            refine wpQuiet_nil ?_
            intro w5 hw5
            obtain ⟨z', hz⟩ := hw5
            have hb1 : Below wr.heap.size wr w5 := hz ▸ z'.ok
            replace HNW := hide ((unhide HNW).below hb1)
            replace HNX := hide ((unhide HNX).below hb1)
            replace HZ := hide (Below.step (unhide HZ) hb1)
            clear hz hb1 z' gsome r0 r1 r2 s0 s1 s2 hGd hNe t0 t1
            go_wp2
            go_roundg (n - (k + 1))
            case measure => omega
            case rel => exact ⟨k + 1, by omega, rfl, by go_num, HNW, HNX, HZ⟩
        · obtain rfl : k = n := by omega
          clear hk hkn
          obtain ⟨c0, c1⟩ := unhide HCM _ (unhide HZ)
          go_wp2_with fail
          refine (unhide QP _ (unhide HNW)).mono ?_
          rintro e W3 ⟨pa, pn, pc, rfl, hr, hb⟩
          replace HNW := hide ((unhide HNW).below hb)
          replace HNX := hide ((unhide HNX).below hb)
          replace HZ := hide (Below.step (unhide HZ) hb)
          have HPU : Hid (RCrane W3 (.slice pa pn pc) KQ) := hr.intsIn
          obtain ⟨epn, hpc, hpc2, bp, op, rfl⟩ := crane_some (unhide HPU) (by have h9 : KQ.length = k := unhide HL2; omega)
          replace HL2 : Hid (KQ.length = k) := unhide HL2
          rw [unhide HL2] at epn
          have epn := epn.symm
          subst epn
          clear hr hb QP c0 c1
          have QC2 := hide fun x : Gr W3 => implCranesOk_any (.slice (some ⟨bp, op, none⟩) k pc) KQ gap x.val ((unhide HPU).below x.ok)
          replace HO2 : Hid (crB KQ gap = true) := unhide HO2
          rw [unhide HO2] at QC2
          dsimp only at *
          have gsome := gr_some W3
          have dn : ((k : Int) != (k : Int)) = false := by simp
          by_cases hC : C = 0
          · have d1 : (C == 0) = true := by simp [hC]
            obtain ⟨ha0, ha1, hat⟩ := unhide HAT hC
            have e9 := unhide HPS hC
            simp only [Prod.mk.injEq] at e9
            obtain ⟨eKQ, eKB⟩ := e9
            subst eKB
            obtain ⟨an, rfl⟩ : ∃ q : Nat, a = q := ⟨a.toNat, by omega⟩
            rw [Int.toNat_natCast] at hat
            have han : an < k := by have := unhide HPN; omega
            have hai : (an : Int) < (k : Int) := by omega
            obtain ⟨⟨x0, x1, x2⟩, ex⟩ : ∃ x, x = cr KQ an := ⟨_, rfl⟩
            obtain ⟨f0, -, -⟩ := crane_cells (unhide HPU) (by rw [unhide HL2]; exact han) ex.symm
            have hx0 : x0 = t := by rw [eKQ] at ex; rw [← ex] at hat; exact hat
            subst hx0
            have d3 : (x0 != x0) = false := by simp
            obtain ⟨c0, c1⟩ := unhide HCM _ (unhide HZ)
            have t0 := fun x : Gr W3 => gr_cell c0 x
            have t1 := fun x : Gr W3 => gr_cell c1 x
            have r0 := fun x : Gr W3 => gr_cell f0 x
            clear f0 ex c0 c1 hat ha0 ha1
            go_wp2
            refine wp_region_grown (by kernel_rfl) (by kernel_rfl) ?_
            repeat (go_big_quiet_step (fail))
            go_big_quiet_want
            go_big_quiet_op
            go_big_quiet_call (exact calls_grown (unhide QC2 _))
            repeat (go_big_quiet_step (fail))
            refine wpQuiet_nil ?_
            intro w5 hw5
            obtain ⟨z', hz⟩ := hw5
            have hb1 : Below W3.heap.size W3 w5 := hz ▸ z'.ok
            replace HNW := hide ((unhide HNW).below hb1)
            replace HNX := hide ((unhide HNX).below hb1)
            replace HPU := hide ((unhide HPU).below hb1)
            replace HZ := hide (Below.step (unhide HZ) hb1)
            clear hz hb1 z' gsome r0 t0 t1 QC2
            have HKK := hide eKQ
            clear eKQ
            generalize hw7 : w5 = w7 at *
            clear hw7
            have HCC := hide hC
            clear hC
            go_wp2
            go_loopg [13] k (fun g qv wr => ∃ q : Nat, q ≤ k ∧ g = k - q ∧ qv = .int .i64 (q : Int) ∧ Hid (RCrane wr (.slice (some ⟨bp, op, none⟩) k pc) KQ) ∧ Hid (RCrane wr (.slice (some ⟨bx, ox, none⟩) k xc) K) ∧ Hid (Below WD.heap.size WD wr))
            case atStart => exact ⟨0, Nat.zero_le _, rfl, rfl, HPU, HNX, HZ⟩
            case round =>
              clear HPU HNX HZ HNW
              obtain ⟨q, hq, rfl, rfl, HPU, HNX, HZ⟩ := hrel
              by_cases hqk : q < k
              · have hqi : (q : Int) < k := by omega
                obtain ⟨⟨x0, x1, x2⟩, ex⟩ : ∃ x, x = cr K q := ⟨_, rfl⟩
                obtain ⟨f0, f1, f2⟩ := crane_cells (unhide HNX) (by rw [unhide HL1]; exact hqk) ex.symm
                obtain ⟨g0, g1, g2⟩ := crane_cells (x0 := x0) (x1 := x1) (x2 := x2) (unhide HPU) (by rw [unhide HL2]; exact hqk) (by rw [unhide HKK]; exact ex.symm)
                have gsome := gr_some wr
                have r0 := fun x : Gr wr => gr_cell f0 x
                have r1 := fun x : Gr wr => gr_cell f1 x
                have r2 := fun x : Gr wr => gr_cell f2 x
                have s0 := fun x : Gr wr => gr_cell g0 x
                have s1 := fun x : Gr wr => gr_cell g1 x
                have s2 := fun x : Gr wr => gr_cell g2 x
                have hGd := fun x y w => run_eqGuard_agg (P := Try.prog) w .neq 45 x y #[.int .i64 x0, .int .i64 x1, .int .i64 x2] #[.int .i64 x0, .int .i64 x1, .int .i64 x2] Try.eqgCrane
                have hNe : ∀ W, (binOp .neq 45 (.agg #[.int .i64 x0, .int .i64 x1, .int .i64 x2]) (.agg #[.int .i64 x0, .int .i64 x1, .int .i64 x2])).run Try.prog W = .ok (.bool false) W := fun W => by have h9 := neq_crane (x0, x1, x2) (x0, x1, x2) W; rw [decide_eq_true rfl] at h9; exact h9
                clear f0 f1 f2 g0 g1 g2 ex
                go_wp2
                refine wp_region_grown (by kernel_rfl) (by kernel_rfl) ?_
                repeat (go_big_quiet_step (fail))
                refine wpQuiet_nil ?_
                intro w5 hw5
                obtain ⟨z', hz⟩ := hw5
                have hb1 : Below wr.heap.size wr w5 := hz ▸ z'.ok
                replace HPU := hide ((unhide HPU).below hb1)
                replace HNX := hide ((unhide HNX).below hb1)
                replace HZ := hide (Below.step (unhide HZ) hb1)
                clear hz hb1 z' gsome r0 r1 r2 s0 s1 s2 hGd hNe
                go_wp2
                go_roundg (k - (q + 1))
                case measure => omega
                case rel => exact ⟨q + 1, by omega, rfl, by go_num, HPU, HNX, HZ⟩
              · obtain rfl : q = k := by omega
                go_wp2
                go_roundg (M.length - (i + 1))
                case measure => omega
                case rel => exact ⟨i + 1, bx, ox, xc, by omega, rfl, by go_num, rfl, hxc, hxc2, by rw [unhide HRM]; exact HNX, HZ⟩
          · have d1 : (C == 0) = false := by simp [hC]
            clear hC
            go_wp2
            refine wp_region_grown (by kernel_rfl) (by kernel_rfl) ?_
            repeat (go_big_quiet_step (fail))
            go_big_quiet_want
            go_big_quiet_op
            go_big_quiet_call (exact calls_grown (unhide QC2 _))
            repeat (go_big_quiet_step (fail))
            refine wpQuiet_nil ?_
            intro w5 hw5
            obtain ⟨z', hz⟩ := hw5
            have hb1 : Below W3.heap.size W3 w5 := hz ▸ z'.ok
            replace HNW := hide ((unhide HNW).below hb1)
            replace HNX := hide ((unhide HNX).below hb1)
            replace HPU := hide ((unhide HPU).below hb1)
            replace HZ := hide (Below.step (unhide HZ) hb1)
            clear hz hb1 z' gsome QC2
            go_wp2
            go_loopg [13] 1 (fun g qv wr => g = 1 ∧ qv = .int .i64 0 ∧ Hid (RCrane wr (.slice (some ⟨bx, ox, none⟩) k xc) K) ∧ Hid (Below WD.heap.size WD wr))
            case atStart => exact ⟨rfl, rfl, HNX, HZ⟩
            case round =>
              clear HNX HZ
              obtain ⟨-, rfl, HNX, HZ⟩ := hrel
              go_wp2
              go_roundg (M.length - (i + 1))
              case measure => omega
              case rel => exact ⟨i + 1, bx, ox, xc, by omega, rfl, by go_num, rfl, hxc, hxc2, by rw [unhide HRM]; exact HNX, HZ⟩
    · obtain rfl : i = M.length := by omega
      have QR := hide (implRunMoves_any (.slice (some ⟨b0, o0, none⟩) n cc) (.slice lo M.length ld) L M gap wr ((unhide HL).below (unhide HZ)) ((unhide HM).below (unhide HZ)) (by have := unhide HEN; omega))
      have hrn : rmN M = M.length := by unfold rmN; rw [if_pos (by omega)]
      unfold RmAns at QR
      rw [hrn] at QR
      have HRL := hide (unhide HLN M.length)
      have HCL := hide (rmCs_len L gap M M.length)
      generalize rmL L gap M M.length = P at *
      generalize rmCs L gap M M.length = S at *
      go_wp2_with fail
      refine (unhide QR).mono ?_
      rintro e W4 ⟨X, ra, rn, rc, sa, sn, sc, rfl, -, -, hr, hs, hb⟩
      replace HNW := hide ((unhide HNW).below hb)
      replace HZ := hide (Below.step (unhide HZ) hb)
      have HOU := hide hr.inn
      obtain ⟨ern, hrc, hrc2, br, orr, rfl⟩ := crane_some hr.inn (by have := unhide HRL; have := unhide HEN; omega)
      have ern2 : rn = n := by have := unhide HRL; have := unhide HEN; omega
      subst ern2
      have esn : sn = M.length := by
        obtain ⟨_, _, e9, _⟩ := hs
        simp only [Value.slice.injEq] at e9
        rw [e9.2.1]
        exact unhide HCL
      subst esn
      clear hr hb hs QR ern
      have dn : ((rn : Int) != (rn : Int)) = false := by simp
      generalize hw7 : W4 = w7 at *
      clear hw7
      go_wp2
      go_loopg [16] rn (fun g qv wr => ∃ q : Nat, q ≤ rn ∧ g = rn - q ∧ qv = .int .i64 (q : Int) ∧ Hid (RCrane wr (.slice (some ⟨br, orr, none⟩) rn rc) P) ∧ Hid (RCrane wr (.slice (some ⟨bn, on, none⟩) rn nc) P) ∧ Hid (Below WD.heap.size WD wr))
      case atStart => exact ⟨0, Nat.zero_le _, rfl, rfl, HOU, HNW, HZ⟩
      case round =>
        clear HOU HNW HZ
        obtain ⟨q, hq, rfl, rfl, HOU, HNW, HZ⟩ := hrel
        by_cases hqk : q < rn
        · have hqi : (q : Int) < rn := by omega
          have hqP : q < P.length := by have := unhide HRL; have := unhide HEN; omega
          obtain ⟨⟨x0, x1, x2⟩, ex⟩ : ∃ x, x = cr P q := ⟨_, rfl⟩
          obtain ⟨f0, f1, f2⟩ := crane_cells (unhide HOU) hqP ex.symm
          obtain ⟨g0, g1, g2⟩ := crane_cells (unhide HNW) hqP ex.symm
          have gsome := gr_some wr
          have r0 := fun x : Gr wr => gr_cell f0 x
          have r1 := fun x : Gr wr => gr_cell f1 x
          have r2 := fun x : Gr wr => gr_cell f2 x
          have s0 := fun x : Gr wr => gr_cell g0 x
          have s1 := fun x : Gr wr => gr_cell g1 x
          have s2 := fun x : Gr wr => gr_cell g2 x
          have hGd := fun x y w => run_eqGuard_agg (P := Try.prog) w .neq 45 x y #[.int .i64 x0, .int .i64 x1, .int .i64 x2] #[.int .i64 x0, .int .i64 x1, .int .i64 x2] Try.eqgCrane
          have hNe : ∀ W, (binOp .neq 45 (.agg #[.int .i64 x0, .int .i64 x1, .int .i64 x2]) (.agg #[.int .i64 x0, .int .i64 x1, .int .i64 x2])).run Try.prog W = .ok (.bool false) W := fun W => by have h9 := neq_crane (x0, x1, x2) (x0, x1, x2) W; rw [decide_eq_true rfl] at h9; exact h9
          clear f0 f1 f2 g0 g1 g2 ex
          go_wp2
          refine wp_region_grown (by kernel_rfl) (by kernel_rfl) ?_
          repeat (go_big_quiet_step (fail))
          refine wpQuiet_nil ?_
          intro w5 hw5
          obtain ⟨z', hz⟩ := hw5
          have hb1 : Below wr.heap.size wr w5 := hz ▸ z'.ok
          replace HOU := hide ((unhide HOU).below hb1)
          replace HNW := hide ((unhide HNW).below hb1)
          replace HZ := hide (Below.step (unhide HZ) hb1)
          clear hz hb1 z' gsome r0 r1 r2 s0 s1 s2 hGd hNe
          go_wp2
          go_roundg (rn - (q + 1))
          case measure => omega
          case rel => exact ⟨q + 1, by omega, rfl, by go_num, HOU, HNW, HZ⟩
        · obtain rfl : q = rn := by omega
          go_wp2
          go_ret
          exact ⟨ret_bool (by simp), Below.step (unhide HBW) (unhide HZ)⟩

end Go.Proofs.Ytogoknldhimgfaa

/- FnHoists, walked: along drawn signals a drawn hoist stays between its ends, never goes up with too much, and behind a stop stands till it was reset and let go. Written by wip/mkfho.py. -/
import Derived.Test.YtgmhijbepkobkaaHsD
import Derived.Test.YtgmhijbepkobkaaHoH
import Derived.Test.YtgmhijbepkobkaaAtFix
import Derived.Laws.StructEq
import Derived.Deep.RegionHeld3
import Derived.Deep.DeepCutAuto
import Derived.Deep.Cut
namespace Go.Proofs.Ytgmhijbepkobkaa
open Go.RowKit

theorem Try.eqgHoist : Try.prog.eqGuardType Try.prog.depth 37 = false := by kernel_rfl
theorem Try.heldHoist : Try.prog.stoodInHeld 37 = false := by kernel_rfl
theorem neq_hoist (x0 x1 x2 x3 x4 x5 x6 : Int) (w : World) : (binOp .neq 37 (.agg #[.int .i64 x0, .int .i64 x1, .int .i64 x2, .int .i64 x3, .int .i64 x4, .int .i64 x5, .int .i64 x6]) (.agg #[.int .i64 x0, .int .i64 x1, .int .i64 x2, .int .i64 x3, .int .i64 x4, .int .i64 x5, .int .i64 x6])).run Try.prog w = .ok (.bool false) w := by
  rw [run_neq_struct, run_equalIn_agg _ _ _ _ _ (by rw [Program.fieldsOf, Try.underlying37]) Try.heldHoist]
  simp [go_sem, Program.fieldsOf, Try.underlying37, Try.underlying3]
/-- A stop, a start, a reset and a hold at any right hoist. -/
theorem four_told (h : Ho) (ho : hoB h = true) : rsC h [(4, 0), (1, 0), (5, 0), (3, 0)] = [true, false, true, true] ∧ (rsH h [(4, 0), (1, 0), (5, 0), (3, 0)]).q = 0 := by
  have hb := hoB_bd ho
  have e1 : sigH h 4 0 = ({ h with q := 3, rs := 0 }, true) := by
    unfold sigH
    rw [ho]
    rfl
  have o1 : hoB { h with q := 3, rs := 0 } = true := hoB_mk ⟨show (0 : Int) ≤ 3 by decide, show (3 : Int) ≤ 3 by decide, hb.2.2.1, hb.2.2.2.1, hb.2.2.2.2.1, hb.2.2.2.2.2.1, hb.2.2.2.2.2.2.1, hb.2.2.2.2.2.2.2.1, hb.2.2.2.2.2.2.2.2.1, hb.2.2.2.2.2.2.2.2.2.1, show (0 : Int) ≤ 0 by decide, show (0 : Int) ≤ 1 by decide⟩
  have e2 : sigH { h with q := 3, rs := 0 } 1 0 = ({ h with q := 3, rs := 0 }, false) := by
    unfold sigH
    rw [o1]
    rfl
  have e3 : sigH { h with q := 3, rs := 0 } 5 0 = ({ h with q := 3, rs := 1 }, true) := by
    unfold sigH
    rw [o1]
    rfl
  have o3 : hoB { h with q := 3, rs := 1 } = true := hoB_mk ⟨show (0 : Int) ≤ 3 by decide, show (3 : Int) ≤ 3 by decide, hb.2.2.1, hb.2.2.2.1, hb.2.2.2.2.1, hb.2.2.2.2.2.1, hb.2.2.2.2.2.2.1, hb.2.2.2.2.2.2.2.1, hb.2.2.2.2.2.2.2.2.1, hb.2.2.2.2.2.2.2.2.2.1, show (0 : Int) ≤ 1 by decide, show (1 : Int) ≤ 1 by decide⟩
  have e4 : sigH { h with q := 3, rs := 1 } 3 0 = ({ h with q := 0, rs := 0 }, true) := by
    unfold sigH
    rw [o3]
    rfl
  constructor
  · unfold rsC
    rw [if_pos (by decide)]
    simp only [cdS, e1, e2, e3, e4]
  · unfold rsH
    rw [if_pos (by decide)]
    simp only [stS, e1, e2, e3, e4]
theorem sg_some {W : World} {ao : Option Addr} {m c k : Nat} {M : List SignalT} (h : RSignal W (.slice ao m c) M) (hk : k < M.length) : ∃ b o x0 x1, ao = some ⟨b, o, none⟩ ∧ b < W.heap.size ∧ SgA W b (o + k * 2) x0 x1 := by
  obtain ⟨ao', c', e, h2, h3, h4⟩ := h
  simp only [Value.slice.injEq] at e
  obtain ⟨rfl, rfl, rfl⟩ := e
  obtain ⟨b, o, x0, x1, e, q0, q1, _⟩ := recSignalAt h4 hk
  exact ⟨b, o, x0, x1, e, lt_of_cell q0, q0, q1⟩
theorem sg_len {W : World} {ao : Option Addr} {m c : Nat} {M : List SignalT} (h : RSignal W (.slice ao m c) M) : m = M.length ∧ m ≤ c ∧ c ≤ 9223372036854775807 := by
  obtain ⟨ao', c', e, h2, h3, h4⟩ := h
  simp only [Value.slice.injEq] at e
  obtain ⟨rfl, rfl, rfl⟩ := e
  unfold maxLen at h3
  exact ⟨rfl, h2, by omega⟩
/-- What FnHoists asks of one signal, letter by letter. -/
theorem asks {y0 y1 y2 y3 y4 y5 y6 k m z0 z1 z2 z3 z4 z5 z6 : Int} {bb : Bool} (hg : goodH ⟨y0, y1, y2, y3, y4, y5, y6⟩ = true) (e : (⟨z0, z1, z2, z3, z4, z5, z6⟩, bb) = sigH ⟨y0, y1, y2, y3, y4, y5, y6⟩ k m) :
    goodH ⟨z0, z1, z2, z3, z4, z5, z6⟩ = true ∧ (bb = false → z0 = y0 ∧ z1 = y1 ∧ z2 = y2 ∧ z3 = y3 ∧ z4 = y4 ∧ z5 = y5 ∧ z6 = y6) ∧ (z2 ≠ y2 → k = 7 ∧ (y0 = 1 ∨ y0 = 2)) ∧ (y0 = 3 → z0 ≠ 3 → k = 3 ∧ y6 = 1) ∧ (k = 4 → z0 = 3) := by
  have h := sig_asks ⟨y0, y1, y2, y3, y4, y5, y6⟩ k m hg
  rw [← e] at h
  refine ⟨h.1, fun hb => ?_, h.2.2.1, h.2.2.2.1, h.2.2.2.2⟩
  have := h.2.1 hb
  simp only [Ho.mk.injEq] at this
  exact this
theorem good_bd {h : Ho} (hg : goodH h = true) : hoB h = true ∧ ¬ (h.q = 1 ∧ h.lm < h.ld) := by
  unfold goodH at hg
  simp only [Bool.and_eq_true] at hg
  refine ⟨hg.1, fun e => ?_⟩
  have h2 := hg.2
  rw [decide_eq_true e.1, decide_eq_true e.2] at h2
  cases h2

set_option maxRecDepth 100000 in
set_option maxHeartbeats 16000000 in
theorem fnHoists_any (v : Value) (nb : Nat) (w : World) (h : BytesIn w.heap.size w v nb) :
    Calls Try.prog 4 #[v] w fun e w' => e = .returned (.bool true) ∧ Below w.heap.size w w' := by
  have HBY := hide h
  obtain ⟨vao, vcap, rfl, hvl, hvm, _⟩ := h
  unfold maxLen at hvm
  have Q0 := hide fun W => big_any vao nb vcap W
  by_cases hbig : 1048576 < nb
  · have d0 : decide ((1048576 : Int) < (nb : Int)) = true := by simp; omega
    rw [d0] at Q0
    go_enter Try.func4, Try.ntmps4
    go_wp2_with fail
    refine (unhide Q0 _).mono ?_
    rintro e w' ⟨rfl, rfl⟩
    go_wp2
    go_ret
    exact ⟨rfl, Below.refl _ _⟩
  have d0 : decide ((1048576 : Int) < (nb : Int)) = false := by simp; omega
  rw [d0] at Q0
  have Q1 := hide fun W (hW : BytesIn W.heap.size W (.slice vao nb vcap) nb) => drawHoist_any (.slice vao nb vcap) nb W hW (by omega)
  go_enter Try.func4, Try.ntmps4
  go_wp2_with fail
  refine (unhide Q0 _).mono ?_
  rintro e w' ⟨rfl, rfl⟩
  go_wp2_with fail
  refine (unhide Q1 _ (unhide HBY)).mono ?_
  rintro e WD ⟨⟨v0, v1, v2, v3, v4, v5, v6⟩, ao, m, cc, M, rfl, hgd, hM, hM40, hbw⟩
  dsimp only
  unfold vHoist
  have HBW := hide hbw
  obtain ⟨rfl, hcc, hcc2⟩ := sg_len hM
  have HM := hide hM
  have HGD := hide hgd
  obtain ⟨gh, egh⟩ : ∃ g, g = WD.heap.size := ⟨_, rfl⟩
  obtain ⟨V0, eV0⟩ : ∃ V, V = WD.alloc (.cells #[.int .i64 v0, .int .i64 v1, .int .i64 v2, .int .i64 v3, .int .i64 v4, .int .i64 v5, .int .i64 v6] 37) := ⟨_, rfl⟩
  have HW : Hid (Below WD.heap.size WD V0) := by rw [eV0]; exact Below.alloc1 _ _
  have HB : Hid (OwnV V0 gh [.int .i64 v0, .int .i64 v1, .int .i64 v2, .int .i64 v3, .int .i64 v4, .int .i64 v5, .int .i64 v6]) := by show OwnV _ _ _; rw [eV0, egh]; exact ownV_alloc _ _ _
  have hgh : WD.heap.size ≤ gh := by omega
  clear hbw hM hgd Q0 Q1 d0 hbig hvl hvm HBY
  go_wp2_with fail
  rw [← eV0, ← egh]
  clear eV0 egh
  go_loopg [5] M.length (fun g iv wr => ∃ (i : Nat) (y0 y1 y2 y3 y4 y5 y6 : Int), i ≤ M.length ∧ g = M.length - i ∧ iv = .int .i64 (i : Int) ∧ Hid (goodH ⟨y0, y1, y2, y3, y4, y5, y6⟩ = true) ∧ Hid (Below WD.heap.size WD wr) ∧ Hid (OwnV wr gh [.int .i64 y0, .int .i64 y1, .int .i64 y2, .int .i64 y3, .int .i64 y4, .int .i64 y5, .int .i64 y6]))
  case atStart => exact ⟨0, v0, v1, v2, v3, v4, v5, v6, Nat.zero_le _, rfl, rfl, HGD, HW, HB⟩
  case round =>
    clear HGD HW HB
    obtain ⟨i, y0, y1, y2, y3, y4, y5, y6, hi, rfl, rfl, HGD, HW, HB⟩ := hrel
    by_cases hin : i < M.length
    · have hii : (i : Int) < M.length := by omega
      obtain ⟨bo, of, x0, x1, rfl, hbo, hsg⟩ := sg_some (unhide HM) hin
      have HCM : Hid (∀ W, Below WD.heap.size WD W → SgA W bo (of + i * 2) x0 x1) := fun W hW => hsg.step hW
      have HSg := hide (unhide HCM _ (unhide HW))
      obtain ⟨⟨⟨z0, z1, z2, z3, z4, z5, z6⟩, bb⟩, ez⟩ : ∃ r, r = sigH ⟨y0, y1, y2, y3, y4, y5, y6⟩ x0 x1 := ⟨_, rfl⟩
      have HAS := hide (asks (unhide HGD) ez)
      have QD : Hid (∀ W, Calls Try.prog 21 #[.agg #[.int .i64 y0, .int .i64 y1, .int .i64 y2, .int .i64 y3, .int .i64 y4, .int .i64 y5, .int .i64 y6], .agg #[.int .i64 x0, .int .i64 x1]] W fun e w' => e = .returned (.tuple #[.agg #[.int .i64 z0, .int .i64 z1, .int .i64 z2, .int .i64 z3, .int .i64 z4, .int .i64 z5, .int .i64 z6], .bool bb]) ∧ Below W.heap.size W w') := fun W => by
        have h9 := implDoSignal_any ⟨y0, y1, y2, y3, y4, y5, y6⟩ x0 x1 W
        rw [← ez] at h9
        exact h9
      have QK : Hid (∀ W, Calls Try.prog 22 #[.agg #[.int .i64 z0, .int .i64 z1, .int .i64 z2, .int .i64 z3, .int .i64 z4, .int .i64 z5, .int .i64 z6]] W fun e w' => e = .returned (.bool true) ∧ Below W.heap.size W w') := fun W => by
        have h9 := implHoistOk_any ⟨z0, z1, z2, z3, z4, z5, z6⟩ W
        rw [(good_bd (unhide HAS).1).1] at h9
        exact h9
      have hww := (unhide HW).size
      have hghl := (unhide HB).lt
      clear ez hsg
      go_upto_region 7 with (fail)
      go_cut [6, 7] (fun s6 s7 wx => ∃ (gn : Nat), s6 = .pointer (some ⟨gn, 0, none⟩) ∧ s7 = .bool bb ∧ gh < gn ∧ Hid (Below WD.heap.size WD wx) ∧ Hid (OwnV wx gh [.int .i64 y0, .int .i64 y1, .int .i64 y2, .int .i64 y3, .int .i64 y4, .int .i64 y5, .int .i64 y6]) ∧ Hid (OwnV wx gn [.int .i64 z0, .int .i64 z1, .int .i64 z2, .int .i64 z3, .int .i64 z4, .int .i64 z5, .int .i64 z6]))
      case first =>
        obtain ⟨wd, ewd⟩ : ∃ z, z = wr.drew := ⟨_, rfl⟩
        have hb : Below wr.heap.size wr wd := by rw [ewd]; exact (Below.refl _ _).drew
        replace HW := hide (Below.step (unhide HW) hb)
        replace HB := hide (OwnV.step (unhide HB) hb)
        replace HSg := hide ((unhide HSg).step hb)
        have hszd := hb.size
        clear hb
        refine wp_region_held_drew (S := fun w' => w'.cell? ⟨gh, 0, none⟩ = some (.int .i64 y0) ∧ w'.cell? ⟨gh, 1, none⟩ = some (.int .i64 y1) ∧ w'.cell? ⟨gh, 2, none⟩ = some (.int .i64 y2) ∧ w'.cell? ⟨gh, 3, none⟩ = some (.int .i64 y3) ∧ w'.cell? ⟨gh, 4, none⟩ = some (.int .i64 y4) ∧ w'.cell? ⟨gh, 5, none⟩ = some (.int .i64 y5) ∧ w'.cell? ⟨gh, 6, none⟩ = some (.int .i64 y6) ∧ w'.cell? ⟨bo, of + i * 2, none⟩ = some (.int .i64 x0) ∧ w'.cell? ⟨bo, of + i * 2 + 1, none⟩ = some (.int .i64 x1)) (by kernel_rfl) ⟨by rw [← ewd]; exact (unhide HB).cell (i := 0) rfl, by rw [← ewd]; exact (unhide HB).cell (i := 1) rfl, by rw [← ewd]; exact (unhide HB).cell (i := 2) rfl, by rw [← ewd]; exact (unhide HB).cell (i := 3) rfl, by rw [← ewd]; exact (unhide HB).cell (i := 4) rfl, by rw [← ewd]; exact (unhide HB).cell (i := 5) rfl, by rw [← ewd]; exact (unhide HB).cell (i := 6) rfl, by rw [← ewd]; exact (unhide HSg).1, by rw [← ewd]; exact (unhide HSg).2⟩ (fun hHeld => ?_)
        rw [← ewd] at hHeld ⊢
        clear ewd
        refine wpAnyH_take (i := 0) (v := ?_) rfl (by kernel_rfl) (by kernel_rfl) (by kernel_rfl) (fun _ _ _ h => h) (Or.inl ⟨by rfl, ?_⟩) (by assumption) ?_
        rotate_left
        · intro wy hSw
          obtain ⟨hS0, hS1, hS2, hS3, hS4, hS5, hS6, hS7, hS8⟩ := hSw
          go_simp
          try with_reducible rfl
        try simp only [Act.put, List.getElem_toArray, List.getElem_cons_zero, List.setIfInBounds_toArray, List.set_cons_zero, List.set_cons_succ]
        refine wpAnyH_take (i := 1) (v := ?_) rfl (by kernel_rfl) (by kernel_rfl) (by kernel_rfl) (fun _ _ _ h => h) (Or.inl ⟨by rfl, ?_⟩) (by assumption) ?_
        rotate_left
        · intro wy hSw
          obtain ⟨hS0, hS1, hS2, hS3, hS4, hS5, hS6, hS7, hS8⟩ := hSw
          go_simp
          try with_reducible rfl
        try simp only [Act.put, List.getElem_toArray, List.getElem_cons_succ, List.getElem_cons_zero, List.setIfInBounds_toArray, List.set_cons_zero, List.set_cons_succ]
        refine wpAnyH_take (i := 2) (v := ?_) rfl (by kernel_rfl) (by kernel_rfl) (by kernel_rfl) (fun _ _ _ h => h) (Or.inl ⟨by rfl, ?_⟩) (by assumption) ?_
        rotate_left
        · intro wy hSw
          obtain ⟨hS0, hS1, hS2, hS3, hS4, hS5, hS6, hS7, hS8⟩ := hSw
          go_simp
          try with_reducible rfl
        try simp only [Act.put, List.getElem_toArray, List.getElem_cons_succ, List.getElem_cons_zero, List.setIfInBounds_toArray, List.set_cons_zero, List.set_cons_succ]
        refine wpAnyH_take (i := 3) (v := ?_) rfl (by kernel_rfl) (by kernel_rfl) (by kernel_rfl) (fun _ _ _ h => h) (Or.inl ⟨by rfl, ?_⟩) (by assumption) ?_
        rotate_left
        · intro wy hSw
          obtain ⟨hS0, hS1, hS2, hS3, hS4, hS5, hS6, hS7, hS8⟩ := hSw
          go_simp
          try with_reducible rfl
        try simp only [Act.put, List.getElem_toArray, List.getElem_cons_succ, List.getElem_cons_zero, List.setIfInBounds_toArray, List.set_cons_zero, List.set_cons_succ]
        refine wpAnyH_take (i := 4) (v := ?_) rfl (by kernel_rfl) (by kernel_rfl) (by kernel_rfl) (fun _ _ _ h => h) (Or.inl ⟨by rfl, ?_⟩) (by assumption) ?_
        rotate_left
        · intro wy hSw
          obtain ⟨hS0, hS1, hS2, hS3, hS4, hS5, hS6, hS7, hS8⟩ := hSw
          go_simp
          try with_reducible rfl
        try simp only [Act.put, List.getElem_toArray, List.getElem_cons_succ, List.getElem_cons_zero, List.setIfInBounds_toArray, List.set_cons_zero, List.set_cons_succ]
        refine wpAnyH_ready (rs := [5, 9]) (by kernel_rfl) (by simp) ?_
        refine AllReadyH.cons rfl (fun K hK => ?_) (AllReadyH.cons rfl (fun K hK => ?_) AllReadyH.nil)
        · go_simp
          have HCQ := hide (unhide QD wd)
          refine (unhide HCQ).mono ?_
          rintro e wc0 ⟨rfl, hb⟩
          replace HW := hide (Below.step (unhide HW) hb)
          replace HB := hide (OwnV.step (unhide HB) hb)
          replace HSg := hide ((unhide HSg).step hb)
          have hswc0 := hb.size
          clear hb HCQ
          refine hK.out _ _ ⟨(unhide HB).cell (i := 0) rfl, (unhide HB).cell (i := 1) rfl, (unhide HB).cell (i := 2) rfl, (unhide HB).cell (i := 3) rfl, (unhide HB).cell (i := 4) rfl, (unhide HB).cell (i := 5) rfl, (unhide HB).cell (i := 6) rfl, (unhide HSg).1, (unhide HSg).2⟩ (fun hHeld => ?_)
          clear hK K
          try simp only [Act.put, List.setIfInBounds_toArray, List.set_cons_zero, List.set_cons_succ]
          refine wpAnyH_take (i := 6) (v := ?_) rfl (by kernel_rfl) (by kernel_rfl) (by kernel_rfl) (fun _ _ _ h => h) (Or.inl ⟨by rfl, ?_⟩) (by assumption) ?_
          rotate_left
          · intro wy hSw
            obtain ⟨hS0, hS1, hS2, hS3, hS4, hS5, hS6, hS7, hS8⟩ := hSw
            go_simp
            try with_reducible rfl
          try simp only [Act.put, List.getElem_toArray, List.getElem_cons_succ, List.getElem_cons_zero, List.setIfInBounds_toArray, List.set_cons_zero, List.set_cons_succ]
          refine wpAnyH_take (i := 7) (v := ?_) rfl (by kernel_rfl) (by kernel_rfl) (by kernel_rfl) (fun _ _ _ h => h) (Or.inl ⟨by rfl, ?_⟩) (by assumption) ?_
          rotate_left
          · intro wy hSw
            obtain ⟨hS0, hS1, hS2, hS3, hS4, hS5, hS6, hS7, hS8⟩ := hSw
            go_simp
            try with_reducible rfl
          try simp only [Act.put, List.getElem_toArray, List.getElem_cons_succ, List.getElem_cons_zero, List.setIfInBounds_toArray, List.set_cons_zero, List.set_cons_succ]
          refine wpAnyH_take (i := 8) (v := ?_) rfl (by kernel_rfl) (by kernel_rfl) (by kernel_rfl) (fun _ _ _ h => h) (Or.inl ⟨by rfl, ?_⟩) (by assumption) ?_
          rotate_left
          · intro wy hSw
            obtain ⟨hS0, hS1, hS2, hS3, hS4, hS5, hS6, hS7, hS8⟩ := hSw
            go_simp
            try with_reducible rfl
          try simp only [Act.put, List.getElem_toArray, List.getElem_cons_succ, List.getElem_cons_zero, List.setIfInBounds_toArray, List.set_cons_zero, List.set_cons_succ]
          refine wpAnyH_ready (rs := [9]) (by kernel_rfl) (by simp) ?_
          refine AllReadyH.cons rfl (fun K hK => ?_) AllReadyH.nil
          go_simp
          obtain ⟨gn, egn⟩ : ∃ z, z = wc0.heap.size := ⟨_, rfl⟩
          obtain ⟨wb1, ewb1⟩ : ∃ z, z = wc0.alloc (.cells #[.int .i64 0, .int .i64 0, .int .i64 0, .int .i64 0, .int .i64 0, .int .i64 0, .int .i64 0] 37) := ⟨_, rfl⟩
          have hb : Below wc0.heap.size wc0 wb1 := by rw [ewb1]; exact Below.alloc1 _ _
          have HN : Hid (OwnV wb1 gn [.int .i64 0, .int .i64 0, .int .i64 0, .int .i64 0, .int .i64 0, .int .i64 0, .int .i64 0]) := by rw [ewb1, egn]; exact ownV_alloc _ _ _
          rw [← ewb1, ← egn]
          replace HW := hide (Below.step (unhide HW) hb)
          replace HB := hide (OwnV.step (unhide HB) hb)
          replace HSg := hide ((unhide HSg).step hb)
          have hgn : gh < gn := by omega
          have hgw : WD.heap.size ≤ gn := by omega
          have hbn : bo < gn := by omega
          clear hb ewb1 egn
          refine hK.out _ _ ⟨(unhide HB).cell (i := 0) rfl, (unhide HB).cell (i := 1) rfl, (unhide HB).cell (i := 2) rfl, (unhide HB).cell (i := 3) rfl, (unhide HB).cell (i := 4) rfl, (unhide HB).cell (i := 5) rfl, (unhide HB).cell (i := 6) rfl, (unhide HSg).1, (unhide HSg).2⟩ (fun hHeld => ?_)
          clear hK K
          try simp only [Act.put, List.setIfInBounds_toArray, List.set_cons_zero, List.set_cons_succ]
          refine wpAnyH_ready (rs := [10]) (by kernel_rfl) (by simp) ?_
          refine AllReadyH.cons rfl (fun K hK => ?_) AllReadyH.nil
          have rf0 := (unhide HN).frozen 0
          have r0 := (unhide HN).cell (i := 0) rfl
          have rf1 := (unhide HN).frozen 1
          have r1 := (unhide HN).cell (i := 1) rfl
          have rf2 := (unhide HN).frozen 2
          have r2 := (unhide HN).cell (i := 2) rfl
          have rf3 := (unhide HN).frozen 3
          have r3 := (unhide HN).cell (i := 3) rfl
          have rf4 := (unhide HN).frozen 4
          have r4 := (unhide HN).cell (i := 4) rfl
          have rf5 := (unhide HN).frozen 5
          have r5 := (unhide HN).cell (i := 5) rfl
          have rf6 := (unhide HN).frozen 6
          have r6 := (unhide HN).cell (i := 6) rfl
          have HBN := hide ((((((((unhide HN).set 0 (.int .i64 z0) (by simp)).set 1 (.int .i64 z1) (by simp)).set 2 (.int .i64 z2) (by simp)).set 3 (.int .i64 z3) (by simp)).set 4 (.int .i64 z4) (by simp)).set 5 (.int .i64 z5) (by simp)).set 6 (.int .i64 z6) (by simp))
          have HKS : Hid (Kept (fun b => b = gn) wb1 (((((((wb1.setCell ⟨gn, 0, none⟩ (.int .i64 z0)).setCell ⟨gn, 1, none⟩ (.int .i64 z1)).setCell ⟨gn, 2, none⟩ (.int .i64 z2)).setCell ⟨gn, 3, none⟩ (.int .i64 z3)).setCell ⟨gn, 4, none⟩ (.int .i64 z4)).setCell ⟨gn, 5, none⟩ (.int .i64 z5)).setCell ⟨gn, 6, none⟩ (.int .i64 z6))) := ((((((((Kept.refl (fun b => b = gn) _).setCell (p := ⟨gn, 0, none⟩) rfl _).setCell (p := ⟨gn, 1, none⟩) rfl _).setCell (p := ⟨gn, 2, none⟩) rfl _).setCell (p := ⟨gn, 3, none⟩) rfl _).setCell (p := ⟨gn, 4, none⟩) rfl _).setCell (p := ⟨gn, 5, none⟩) rfl _).setCell (p := ⟨gn, 6, none⟩) rfl _)
          have hWB := unhide HW
          replace HW := hide (hWB.trans ((unhide HKS).below hWB.size (fun b e => by omega)))
          clear hWB
          replace HB := hide ((unhide HB).kept (unhide HKS) (fun e => by omega))
          replace HSg := hide ((unhide HSg).kept (unhide HKS) (fun e => by omega))
          go_simp
          clear rf0 r0 rf1 r1 rf2 r2 rf3 r3 rf4 r4 rf5 r5 rf6 r6
          refine hK.out _ _ ⟨(unhide HB).cell (i := 0) rfl, (unhide HB).cell (i := 1) rfl, (unhide HB).cell (i := 2) rfl, (unhide HB).cell (i := 3) rfl, (unhide HB).cell (i := 4) rfl, (unhide HB).cell (i := 5) rfl, (unhide HB).cell (i := 6) rfl, (unhide HSg).1, (unhide HSg).2⟩ (fun hHeld => ?_)
          clear hK K
          try simp only [Act.put, List.setIfInBounds_toArray, List.set_cons_zero, List.set_cons_succ]
          refine wpAnyH_take (i := 11) (v := ?_) rfl (by kernel_rfl) (by kernel_rfl) (by kernel_rfl) (fun _ _ _ h => h) (Or.inl ⟨by rfl, ?_⟩) (by assumption) ?_
          rotate_left
          · intro wy hSw
            obtain ⟨hS0, hS1, hS2, hS3, hS4, hS5, hS6, hS7, hS8⟩ := hSw
            go_simp
            try with_reducible rfl
          try simp only [Act.put, List.getElem_toArray, List.getElem_cons_succ, List.getElem_cons_zero, List.setIfInBounds_toArray, List.set_cons_zero, List.set_cons_succ]
          refine wpAnyH_done (by kernel_rfl) ?_ _
          go_wp2
          go_meet
          exact ⟨gn, by trivial, by trivial, hgn, HW, HB, HBN⟩
        · go_simp
          obtain ⟨gn, egn⟩ : ∃ z, z = wd.heap.size := ⟨_, rfl⟩
          obtain ⟨wb0, ewb0⟩ : ∃ z, z = wd.alloc (.cells #[.int .i64 0, .int .i64 0, .int .i64 0, .int .i64 0, .int .i64 0, .int .i64 0, .int .i64 0] 37) := ⟨_, rfl⟩
          have hb : Below wd.heap.size wd wb0 := by rw [ewb0]; exact Below.alloc1 _ _
          have HN : Hid (OwnV wb0 gn [.int .i64 0, .int .i64 0, .int .i64 0, .int .i64 0, .int .i64 0, .int .i64 0, .int .i64 0]) := by rw [ewb0, egn]; exact ownV_alloc _ _ _
          rw [← ewb0, ← egn]
          replace HW := hide (Below.step (unhide HW) hb)
          replace HB := hide (OwnV.step (unhide HB) hb)
          replace HSg := hide ((unhide HSg).step hb)
          have hgn : gh < gn := by omega
          have hgw : WD.heap.size ≤ gn := by omega
          have hbn : bo < gn := by omega
          clear hb ewb0 egn
          refine hK.out _ _ ⟨(unhide HB).cell (i := 0) rfl, (unhide HB).cell (i := 1) rfl, (unhide HB).cell (i := 2) rfl, (unhide HB).cell (i := 3) rfl, (unhide HB).cell (i := 4) rfl, (unhide HB).cell (i := 5) rfl, (unhide HB).cell (i := 6) rfl, (unhide HSg).1, (unhide HSg).2⟩ (fun hHeld => ?_)
          clear hK K
          try simp only [Act.put, List.setIfInBounds_toArray, List.set_cons_zero, List.set_cons_succ]
          refine wpAnyH_ready (rs := [5]) (by kernel_rfl) (by simp) ?_
          refine AllReadyH.cons rfl (fun K hK => ?_) AllReadyH.nil
          go_simp
          have HCQ := hide (unhide QD wb0)
          refine (unhide HCQ).mono ?_
          rintro e wc0a ⟨rfl, hb⟩
          replace HW := hide (Below.step (unhide HW) hb)
          replace HB := hide (OwnV.step (unhide HB) hb)
          replace HSg := hide ((unhide HSg).step hb)
          replace HN := hide (OwnV.step (unhide HN) hb)
          have hswc0a := hb.size
          clear hb HCQ
          refine hK.out _ _ ⟨(unhide HB).cell (i := 0) rfl, (unhide HB).cell (i := 1) rfl, (unhide HB).cell (i := 2) rfl, (unhide HB).cell (i := 3) rfl, (unhide HB).cell (i := 4) rfl, (unhide HB).cell (i := 5) rfl, (unhide HB).cell (i := 6) rfl, (unhide HSg).1, (unhide HSg).2⟩ (fun hHeld => ?_)
          clear hK K
          try simp only [Act.put, List.setIfInBounds_toArray, List.set_cons_zero, List.set_cons_succ]
          refine wpAnyH_take (i := 6) (v := ?_) rfl (by kernel_rfl) (by kernel_rfl) (by kernel_rfl) (fun _ _ _ h => h) (Or.inl ⟨by rfl, ?_⟩) (by assumption) ?_
          rotate_left
          · intro wy hSw
            obtain ⟨hS0, hS1, hS2, hS3, hS4, hS5, hS6, hS7, hS8⟩ := hSw
            go_simp
            try with_reducible rfl
          try simp only [Act.put, List.getElem_toArray, List.getElem_cons_succ, List.getElem_cons_zero, List.setIfInBounds_toArray, List.set_cons_zero, List.set_cons_succ]
          refine wpAnyH_take (i := 7) (v := ?_) rfl (by kernel_rfl) (by kernel_rfl) (by kernel_rfl) (fun _ _ _ h => h) (Or.inl ⟨by rfl, ?_⟩) (by assumption) ?_
          rotate_left
          · intro wy hSw
            obtain ⟨hS0, hS1, hS2, hS3, hS4, hS5, hS6, hS7, hS8⟩ := hSw
            go_simp
            try with_reducible rfl
          try simp only [Act.put, List.getElem_toArray, List.getElem_cons_succ, List.getElem_cons_zero, List.setIfInBounds_toArray, List.set_cons_zero, List.set_cons_succ]
          refine wpAnyH_take (i := 8) (v := ?_) rfl (by kernel_rfl) (by kernel_rfl) (by kernel_rfl) (fun _ _ _ h => h) (Or.inl ⟨by rfl, ?_⟩) (by assumption) ?_
          rotate_left
          · intro wy hSw
            obtain ⟨hS0, hS1, hS2, hS3, hS4, hS5, hS6, hS7, hS8⟩ := hSw
            go_simp
            try with_reducible rfl
          try simp only [Act.put, List.getElem_toArray, List.getElem_cons_succ, List.getElem_cons_zero, List.setIfInBounds_toArray, List.set_cons_zero, List.set_cons_succ]
          refine wpAnyH_ready (rs := [10]) (by kernel_rfl) (by simp) ?_
          refine AllReadyH.cons rfl (fun K hK => ?_) AllReadyH.nil
          have rf0 := (unhide HN).frozen 0
          have r0 := (unhide HN).cell (i := 0) rfl
          have rf1 := (unhide HN).frozen 1
          have r1 := (unhide HN).cell (i := 1) rfl
          have rf2 := (unhide HN).frozen 2
          have r2 := (unhide HN).cell (i := 2) rfl
          have rf3 := (unhide HN).frozen 3
          have r3 := (unhide HN).cell (i := 3) rfl
          have rf4 := (unhide HN).frozen 4
          have r4 := (unhide HN).cell (i := 4) rfl
          have rf5 := (unhide HN).frozen 5
          have r5 := (unhide HN).cell (i := 5) rfl
          have rf6 := (unhide HN).frozen 6
          have r6 := (unhide HN).cell (i := 6) rfl
          have HBN := hide ((((((((unhide HN).set 0 (.int .i64 z0) (by simp)).set 1 (.int .i64 z1) (by simp)).set 2 (.int .i64 z2) (by simp)).set 3 (.int .i64 z3) (by simp)).set 4 (.int .i64 z4) (by simp)).set 5 (.int .i64 z5) (by simp)).set 6 (.int .i64 z6) (by simp))
          have HKS : Hid (Kept (fun b => b = gn) wc0a (((((((wc0a.setCell ⟨gn, 0, none⟩ (.int .i64 z0)).setCell ⟨gn, 1, none⟩ (.int .i64 z1)).setCell ⟨gn, 2, none⟩ (.int .i64 z2)).setCell ⟨gn, 3, none⟩ (.int .i64 z3)).setCell ⟨gn, 4, none⟩ (.int .i64 z4)).setCell ⟨gn, 5, none⟩ (.int .i64 z5)).setCell ⟨gn, 6, none⟩ (.int .i64 z6))) := ((((((((Kept.refl (fun b => b = gn) _).setCell (p := ⟨gn, 0, none⟩) rfl _).setCell (p := ⟨gn, 1, none⟩) rfl _).setCell (p := ⟨gn, 2, none⟩) rfl _).setCell (p := ⟨gn, 3, none⟩) rfl _).setCell (p := ⟨gn, 4, none⟩) rfl _).setCell (p := ⟨gn, 5, none⟩) rfl _).setCell (p := ⟨gn, 6, none⟩) rfl _)
          have hWB := unhide HW
          replace HW := hide (hWB.trans ((unhide HKS).below hWB.size (fun b e => by omega)))
          clear hWB
          replace HB := hide ((unhide HB).kept (unhide HKS) (fun e => by omega))
          replace HSg := hide ((unhide HSg).kept (unhide HKS) (fun e => by omega))
          go_simp
          clear rf0 r0 rf1 r1 rf2 r2 rf3 r3 rf4 r4 rf5 r5 rf6 r6
          refine hK.out _ _ ⟨(unhide HB).cell (i := 0) rfl, (unhide HB).cell (i := 1) rfl, (unhide HB).cell (i := 2) rfl, (unhide HB).cell (i := 3) rfl, (unhide HB).cell (i := 4) rfl, (unhide HB).cell (i := 5) rfl, (unhide HB).cell (i := 6) rfl, (unhide HSg).1, (unhide HSg).2⟩ (fun hHeld => ?_)
          clear hK K
          try simp only [Act.put, List.setIfInBounds_toArray, List.set_cons_zero, List.set_cons_succ]
          refine wpAnyH_take (i := 11) (v := ?_) rfl (by kernel_rfl) (by kernel_rfl) (by kernel_rfl) (fun _ _ _ h => h) (Or.inl ⟨by rfl, ?_⟩) (by assumption) ?_
          rotate_left
          · intro wy hSw
            obtain ⟨hS0, hS1, hS2, hS3, hS4, hS5, hS6, hS7, hS8⟩ := hSw
            go_simp
            try with_reducible rfl
          try simp only [Act.put, List.getElem_toArray, List.getElem_cons_succ, List.getElem_cons_zero, List.setIfInBounds_toArray, List.set_cons_zero, List.set_cons_succ]
          refine wpAnyH_done (by kernel_rfl) ?_ _
          go_wp2
          go_meet
          exact ⟨gn, by trivial, by trivial, hgn, HW, HB, HBN⟩
      case rest =>
        obtain ⟨gn, rfl, rfl, hgn, HW2, HB2, HN⟩ := hcut
        clear HW HB HSg QD hww hghl
        have HW := HW2
        have HB := HB2
        clear HW2 HB2
        go_upto_region 8 with (fail)
        go_cut [55] (fun s55 wx => s55 = .bool false ∧ Hid (Below WD.heap.size WD wx) ∧ Hid (OwnV wx gh [.int .i64 y0, .int .i64 y1, .int .i64 y2, .int .i64 y3, .int .i64 y4, .int .i64 y5, .int .i64 y6]) ∧ Hid (OwnV wx gn [.int .i64 z0, .int .i64 z1, .int .i64 z2, .int .i64 z3, .int .i64 z4, .int .i64 z5, .int .i64 z6]))
        case first =>
          have n0 := (unhide HN).cell (i := 0) rfl
          have n1 := (unhide HN).cell (i := 1) rfl
          have n2 := (unhide HN).cell (i := 2) rfl
          have n3 := (unhide HN).cell (i := 3) rfl
          have n4 := (unhide HN).cell (i := 4) rfl
          have n5 := (unhide HN).cell (i := 5) rfl
          have n6 := (unhide HN).cell (i := 6) rfl
          have q0 := (unhide HB).cell (i := 0) rfl
          have q1 := (unhide HB).cell (i := 1) rfl
          have q2 := (unhide HB).cell (i := 2) rfl
          have q3 := (unhide HB).cell (i := 3) rfl
          have q4 := (unhide HB).cell (i := 4) rfl
          have q5 := (unhide HB).cell (i := 5) rfl
          have q6 := (unhide HB).cell (i := 6) rfl
          obtain ⟨g0c, g1c⟩ := unhide HCM _ (unhide HW)
          clear g0c g1c
          go_wp2_with fail
          refine (unhide QK _).mono ?_
          rintro e W5 ⟨rfl, hb⟩
          replace HW := hide (Below.step (unhide HW) hb)
          replace HB := hide ((unhide HB).step hb)
          replace HN := hide ((unhide HN).step hb)
          clear hb n0 n1 n2 n3 n4 n5 n6 q0 q1 q2 q3 q4 q5 q6
          have n0 := (unhide HN).cell (i := 0) rfl
          have n1 := (unhide HN).cell (i := 1) rfl
          have n2 := (unhide HN).cell (i := 2) rfl
          have n3 := (unhide HN).cell (i := 3) rfl
          have n4 := (unhide HN).cell (i := 4) rfl
          have n5 := (unhide HN).cell (i := 5) rfl
          have n6 := (unhide HN).cell (i := 6) rfl
          have q0 := (unhide HB).cell (i := 0) rfl
          have q1 := (unhide HB).cell (i := 1) rfl
          have q2 := (unhide HB).cell (i := 2) rfl
          have q3 := (unhide HB).cell (i := 3) rfl
          have q4 := (unhide HB).cell (i := 4) rfl
          have q5 := (unhide HB).cell (i := 5) rfl
          have q6 := (unhide HB).cell (i := 6) rfl
          obtain ⟨g0c, g1c⟩ := unhide HCM _ (unhide HW)
          clear g0c g1c
          have hno := (good_bd (unhide HAS).1).2
          dsimp only at hno
          have hGd := fun x y w => run_eqGuard_agg (P := Try.prog) w .neq 37 x y #[.int .i64 y0, .int .i64 y1, .int .i64 y2, .int .i64 y3, .int .i64 y4, .int .i64 y5, .int .i64 y6] #[.int .i64 y0, .int .i64 y1, .int .i64 y2, .int .i64 y3, .int .i64 y4, .int .i64 y5, .int .i64 y6] Try.eqgHoist
          have hNe : ∀ W, (binOp .neq 37 (.agg #[.int .i64 y0, .int .i64 y1, .int .i64 y2, .int .i64 y3, .int .i64 y4, .int .i64 y5, .int .i64 y6]) (.agg #[.int .i64 y0, .int .i64 y1, .int .i64 y2, .int .i64 y3, .int .i64 y4, .int .i64 y5, .int .i64 y6])).run Try.prog W = .ok (.bool false) W := fun W => neq_hoist y0 y1 y2 y3 y4 y5 y6 W
          by_cases hz : z0 = 1
          · have dz : (z0 == 1) = true := by simp [hz]
            have dl : decide (z5 < z1) = false := decide_eq_false (fun e => hno ⟨hz, e⟩)
            clear hz hno
            cases bb with
            | true =>
              clear hGd hNe
              go_wp2
              go_meet
              exact ⟨rfl, HW, HB, HN⟩
            | false =>
              obtain ⟨r0, r1, r2, r3, r4, r5, r6⟩ := (unhide HAS).2.1 rfl
              subst r0 r1 r2 r3 r4 r5 r6
              go_wp2
              go_meet
              exact ⟨rfl, HW, HB, HN⟩
          · have dz : (z0 == 1) = false := by simp [hz]
            clear hz hno
            cases bb with
            | true =>
              clear hGd hNe
              go_wp2
              go_meet
              exact ⟨rfl, HW, HB, HN⟩
            | false =>
              obtain ⟨r0, r1, r2, r3, r4, r5, r6⟩ := (unhide HAS).2.1 rfl
              subst r0 r1 r2 r3 r4 r5 r6
              go_wp2
              go_meet
              exact ⟨rfl, HW, HB, HN⟩
        case rest =>
          clear HW HB HN
          obtain ⟨rfl, HW, HB, HN⟩ := hcut
          go_upto_region 10 with (fail)
          go_cut [78] (fun s78 wx => s78 = .bool false ∧ Hid (Below WD.heap.size WD wx) ∧ Hid (OwnV wx gh [.int .i64 y0, .int .i64 y1, .int .i64 y2, .int .i64 y3, .int .i64 y4, .int .i64 y5, .int .i64 y6]) ∧ Hid (OwnV wx gn [.int .i64 z0, .int .i64 z1, .int .i64 z2, .int .i64 z3, .int .i64 z4, .int .i64 z5, .int .i64 z6]))
          case first =>
            have n0 := (unhide HN).cell (i := 0) rfl
            have n1 := (unhide HN).cell (i := 1) rfl
            have n2 := (unhide HN).cell (i := 2) rfl
            have n3 := (unhide HN).cell (i := 3) rfl
            have n4 := (unhide HN).cell (i := 4) rfl
            have n5 := (unhide HN).cell (i := 5) rfl
            have n6 := (unhide HN).cell (i := 6) rfl
            have q0 := (unhide HB).cell (i := 0) rfl
            have q1 := (unhide HB).cell (i := 1) rfl
            have q2 := (unhide HB).cell (i := 2) rfl
            have q3 := (unhide HB).cell (i := 3) rfl
            have q4 := (unhide HB).cell (i := 4) rfl
            have q5 := (unhide HB).cell (i := 5) rfl
            have q6 := (unhide HB).cell (i := 6) rfl
            obtain ⟨g0c, g1c⟩ := unhide HCM _ (unhide HW)
            by_cases hz : z2 = y2
            · subst hz
              go_wp2
              go_meet
              exact ⟨rfl, HW, HB, HN⟩
            · obtain ⟨hx, hy⟩ := (unhide HAS).2.2.1 hz
              have dz : (z2 != y2) = true := by simp [hz]
              clear hz
              subst hx
              rcases hy with hy | hy
              · subst hy
                go_wp2
                go_meet
                exact ⟨rfl, HW, HB, HN⟩
              · subst hy
                go_wp2
                go_meet
                exact ⟨rfl, HW, HB, HN⟩
          case rest =>
            clear HW HB HN
            obtain ⟨rfl, HW, HB, HN⟩ := hcut
            go_upto_region 12 with (fail)
            go_cut [99] (fun s99 wx => s99 = .bool false ∧ Hid (Below WD.heap.size WD wx) ∧ Hid (OwnV wx gh [.int .i64 y0, .int .i64 y1, .int .i64 y2, .int .i64 y3, .int .i64 y4, .int .i64 y5, .int .i64 y6]) ∧ Hid (OwnV wx gn [.int .i64 z0, .int .i64 z1, .int .i64 z2, .int .i64 z3, .int .i64 z4, .int .i64 z5, .int .i64 z6]))
            case first =>
              have n0 := (unhide HN).cell (i := 0) rfl
              have n1 := (unhide HN).cell (i := 1) rfl
              have n2 := (unhide HN).cell (i := 2) rfl
              have n3 := (unhide HN).cell (i := 3) rfl
              have n4 := (unhide HN).cell (i := 4) rfl
              have n5 := (unhide HN).cell (i := 5) rfl
              have n6 := (unhide HN).cell (i := 6) rfl
              have q0 := (unhide HB).cell (i := 0) rfl
              have q1 := (unhide HB).cell (i := 1) rfl
              have q2 := (unhide HB).cell (i := 2) rfl
              have q3 := (unhide HB).cell (i := 3) rfl
              have q4 := (unhide HB).cell (i := 4) rfl
              have q5 := (unhide HB).cell (i := 5) rfl
              have q6 := (unhide HB).cell (i := 6) rfl
              obtain ⟨g0c, g1c⟩ := unhide HCM _ (unhide HW)
              by_cases hy : y0 = 3
              · subst hy
                by_cases hz : z0 = 3
                · subst hz
                  go_wp2
                  go_meet
                  exact ⟨rfl, HW, HB, HN⟩
                · have dz : (z0 != 3) = true := by simp [hz]
                  obtain ⟨hx, hr⟩ := (unhide HAS).2.2.2.1 rfl hz
                  clear hz
                  subst hx
                  subst hr
                  go_wp2
                  go_meet
                  exact ⟨rfl, HW, HB, HN⟩
              · have dy : (y0 == 3) = false := by simp [hy]
                clear hy
                go_wp2
                go_meet
                exact ⟨rfl, HW, HB, HN⟩
            case rest =>
              clear HW HB HN
              obtain ⟨rfl, HW, HB, HN⟩ := hcut
              go_upto_region 14 with (fail)
              go_cut [110] (fun s110 wx => s110 = .bool false ∧ Hid (Below WD.heap.size WD wx) ∧ Hid (OwnV wx gh [.int .i64 y0, .int .i64 y1, .int .i64 y2, .int .i64 y3, .int .i64 y4, .int .i64 y5, .int .i64 y6]) ∧ Hid (OwnV wx gn [.int .i64 z0, .int .i64 z1, .int .i64 z2, .int .i64 z3, .int .i64 z4, .int .i64 z5, .int .i64 z6]))
              case first =>
                have n0 := (unhide HN).cell (i := 0) rfl
                have n1 := (unhide HN).cell (i := 1) rfl
                have n2 := (unhide HN).cell (i := 2) rfl
                have n3 := (unhide HN).cell (i := 3) rfl
                have n4 := (unhide HN).cell (i := 4) rfl
                have n5 := (unhide HN).cell (i := 5) rfl
                have n6 := (unhide HN).cell (i := 6) rfl
                have q0 := (unhide HB).cell (i := 0) rfl
                have q1 := (unhide HB).cell (i := 1) rfl
                have q2 := (unhide HB).cell (i := 2) rfl
                have q3 := (unhide HB).cell (i := 3) rfl
                have q4 := (unhide HB).cell (i := 4) rfl
                have q5 := (unhide HB).cell (i := 5) rfl
                have q6 := (unhide HB).cell (i := 6) rfl
                obtain ⟨g0c, g1c⟩ := unhide HCM _ (unhide HW)
                by_cases hx : x0 = 4
                · have hz := (unhide HAS).2.2.2.2 hx
                  subst hx
                  subst hz
                  go_wp2
                  go_meet
                  exact ⟨rfl, HW, HB, HN⟩
                · have dx : (x0 == 4) = false := by simp [hx]
                  clear hx
                  go_wp2
                  go_meet
                  exact ⟨rfl, HW, HB, HN⟩
              case rest =>
                clear HW HB HN
                obtain ⟨rfl, HW, HB, HN⟩ := hcut
                have n0 := (unhide HN).cell (i := 0) rfl
                have n1 := (unhide HN).cell (i := 1) rfl
                have n2 := (unhide HN).cell (i := 2) rfl
                have n3 := (unhide HN).cell (i := 3) rfl
                have n4 := (unhide HN).cell (i := 4) rfl
                have n5 := (unhide HN).cell (i := 5) rfl
                have n6 := (unhide HN).cell (i := 6) rfl
                have q0 := (unhide HB).cell (i := 0) rfl
                have q1 := (unhide HB).cell (i := 1) rfl
                have q2 := (unhide HB).cell (i := 2) rfl
                have q3 := (unhide HB).cell (i := 3) rfl
                have q4 := (unhide HB).cell (i := 4) rfl
                have q5 := (unhide HB).cell (i := 5) rfl
                have q6 := (unhide HB).cell (i := 6) rfl
                obtain ⟨g0c, g1c⟩ := unhide HCM _ (unhide HW)
                clear g0c g1c
                have f0 := (unhide HB).frozen 0
                have f1 := (unhide HB).frozen 1
                have f2 := (unhide HB).frozen 2
                have f3 := (unhide HB).frozen 3
                have f4 := (unhide HB).frozen 4
                have f5 := (unhide HB).frozen 5
                have f6 := (unhide HB).frozen 6
                have hng : ¬ gn = gh := by omega
                have hng2 : ¬ gh = gn := by omega
                go_upto_region 16 with (fail)
                obtain ⟨V5, eV5⟩ : ∃ V, V = ((((((wc.setCell ⟨gh, 0, none⟩ (.int .i64 z0)).setCell ⟨gh, 1, none⟩ (.int .i64 z1)).setCell ⟨gh, 2, none⟩ (.int .i64 z2)).setCell ⟨gh, 3, none⟩ (.int .i64 z3)).setCell ⟨gh, 4, none⟩ (.int .i64 z4)).setCell ⟨gh, 5, none⟩ (.int .i64 z5)).setCell ⟨gh, 6, none⟩ (.int .i64 z6) := ⟨_, rfl⟩
                have HS4 : Hid (OwnV V5 gh [.int .i64 z0, .int .i64 z1, .int .i64 z2, .int .i64 z3, .int .i64 z4, .int .i64 z5, .int .i64 z6]) := by show OwnV _ _ _; rw [eV5]; exact own7 (unhide HB) z0 z1 z2 z3 z4 z5 z6
                have hkp : Kept (fun b => b = gh) wc V5 := by rw [eV5]; exact kept7 _ _ z0 z1 z2 z3 z4 z5 z6
                have hwb := (unhide HW).size
                have HW4 := hide ((unhide HW).trans (hkp.below hwb fun b e => by have e : b = gh := e; omega))
                have HGD2 : Hid (goodH ⟨z0, z1, z2, z3, z4, z5, z6⟩ = true) := (unhide HAS).1
                clear hkp hwb
                go_wp2
                rw [← eV5]
                go_roundg (M.length - (i + 1))
                case measure => omega
                case rel => exact ⟨i + 1, z0, z1, z2, z3, z4, z5, z6, by omega, rfl, by go_num, HGD2, HW4, HS4⟩
    · obtain rfl : i = M.length := by omega
      have b0 := (unhide HB).cell (i := 0) rfl
      have b1 := (unhide HB).cell (i := 1) rfl
      have b2 := (unhide HB).cell (i := 2) rfl
      have b3 := (unhide HB).cell (i := 3) rfl
      have b4 := (unhide HB).cell (i := 4) rfl
      have b5 := (unhide HB).cell (i := 5) rfl
      have b6 := (unhide HB).cell (i := 6) rfl
      have hgo := unhide HGD
      obtain ⟨hf1, hf2⟩ := four_told ⟨y0, y1, y2, y3, y4, y5, y6⟩ (good_bd hgo).1
      have QR := hide fun W sv (hv : RSignal W sv [(4, 0), (1, 0), (5, 0), (3, 0)]) => implRunSignals_any ⟨y0, y1, y2, y3, y4, y5, y6⟩ sv [(4, 0), (1, 0), (5, 0), (3, 0)] W hv
      unfold SRA at QR
      rw [hf1] at QR
      obtain ⟨⟨r0, r1, r2, r3, r4, r5, r6⟩, er⟩ : ∃ r, r = rsH ⟨y0, y1, y2, y3, y4, y5, y6⟩ [(4, 0), (1, 0), (5, 0), (3, 0)] := ⟨_, rfl⟩
      rw [← er] at QR hf2
      dsimp only at hf2
      have hf2 : r0 = 0 := hf2
      subst hf2
      unfold Ho.v vHoist at QR
      dsimp only at QR
      have HG : Hid (RSignal (wr.alloc (.cells #[.int .i64 4, .int .i64 0, .int .i64 1, .int .i64 0, .int .i64 5, .int .i64 0, .int .i64 3, .int .i64 0] 44)) (.slice (some ⟨wr.heap.size, 0, none⟩) 4 4) [(4, 0), (1, 0), (5, 0), (3, 0)]) := by
        have h := ownV_alloc wr #[.int .i64 4, .int .i64 0, .int .i64 1, .int .i64 0, .int .i64 5, .int .i64 0, .int .i64 3, .int .i64 0] 44
        exact OwnV.recsIn (L := [(4, 0), (1, 0), (5, 0), (3, 0)]) h (Nat.le_refl _) (by unfold maxLen; omega)
      have hA := Below.alloc1 wr (.cells #[.int .i64 4, .int .i64 0, .int .i64 1, .int .i64 0, .int .i64 5, .int .i64 0, .int .i64 3, .int .i64 0] 44)
      replace HW := hide (Below.step (unhide HW) hA)
      have HRQ := hide (unhide QR _ _ (unhide HG))
      clear hA HG QR er hf1 hgo HGD
      go_wp2_with fail
      refine (unhide HRQ).mono ?_
      rintro e W6 ⟨ta, tn, tc, rfl, ho, hb⟩
      obtain ⟨ta', tc', et, h1, h2, h3⟩ := ho
      simp only [Value.slice.injEq] at et
      obtain ⟨rfl, rfl, rfl⟩ := et
      obtain ⟨gt, rfl, hgt, hto⟩ := h3 (by simp)
      have hto : OwnV W6 gt [.bool true, .bool false, .bool true, .bool true] := hto
      replace HW := hide (Below.step (unhide HW) hb)
      have hA := Below.alloc1 W6 (.cells #[.int .i64 0, .int .i64 r1, .int .i64 r2, .int .i64 r3, .int .i64 r4, .int .i64 r5, .int .i64 r6] 37)
      have HX := hide (ownV_alloc W6 #[.int .i64 0, .int .i64 r1, .int .i64 r2, .int .i64 r3, .int .i64 r4, .int .i64 r5, .int .i64 r6] 37)
      have HTO := hide (hto.step hA)
      replace HW := hide (Below.step (unhide HW) hA)
      obtain ⟨gx, egx⟩ : ∃ g, g = W6.heap.size := ⟨_, rfl⟩
      obtain ⟨V7, eV7⟩ : ∃ V, V = W6.alloc (.cells #[.int .i64 0, .int .i64 r1, .int .i64 r2, .int .i64 r3, .int .i64 r4, .int .i64 r5, .int .i64 r6] 37) := ⟨_, rfl⟩
      rw [← eV7] at HX HTO HW
      rw [← egx] at HX
      clear hb h3 hto hA HRQ b0 b1 b2 b3 b4 b5 b6 HB
      go_upto_region 18 with (fail)
      rw [← eV7, ← egx]
      clear eV7 egx
      have t0 := (unhide HTO).cell (i := 0) rfl
      have t1 := (unhide HTO).cell (i := 1) rfl
      have t2 := (unhide HTO).cell (i := 2) rfl
      have t3 := (unhide HTO).cell (i := 3) rfl
      have x0 := (unhide HX).cell (i := 0) rfl
      dsimp only [List.length_cons, List.length_nil] at *
      go_wp2
      go_ret
      exact ⟨rfl, Below.step (unhide HBW) (unhide HW)⟩

end Go.Proofs.Ytgmhijbepkobkaa

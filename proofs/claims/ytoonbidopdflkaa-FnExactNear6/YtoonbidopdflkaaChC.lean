/- Contract of the specification's ChartOk. -/
import Derived.Test.YtoonbidopdflkaaChB
import Derived.Test.YtoonbidopdflkaaSgA
namespace Go.Proofs.Ytoonbidopdflkaa
open Go.RowKit

theorem mul_le12 {x y : Int} (hx0 : 1 ≤ x) (hx1 : x ≤ 12) (hy0 : 1 ≤ y) (hy1 : y ≤ 12) : 1 ≤ x * y ∧ x * y ≤ 144 := by
  have h : x = 1 ∨ x = 2 ∨ x = 3 ∨ x = 4 ∨ x = 5 ∨ x = 6 ∨ x = 7 ∨ x = 8 ∨ x = 9 ∨ x = 10 ∨ x = 11 ∨ x = 12 := by omega
  rcases h with rfl | rfl | rfl | rfl | rfl | rfl | rfl | rfl | rfl | rfl | rfl | rfl <;> omega

set_option maxRecDepth 10000 in
set_option maxHeartbeats 8000000 in
theorem specChartOk_any (c : Ch) (dao : Option Addr) (dn dc : Nat) (fao : Option Addr) (fn fc : Nat) (w : World) (hD : IntsIn w (.slice dao dn dc) c.D) (hF : RFeature w (.slice fao fn fc) c.F) :
    Calls Try.prog 20 #[vChart c.wd c.hg (.slice dao dn dc) (.slice fao fn fc) c.ed] w fun e w' => e = .returned (.bool (chartB c)) ∧ Below w.heap.size w w' := by
  obtain ⟨wd, hg, D, F, ed⟩ := c
  dsimp only at hD hF ⊢
  have A := Below.alloc1 w (.cells #[.int .i64 wd, .int .i64 hg, .slice dao dn dc, .slice fao fn fc, .int .i64 ed] 27)
  have O := ownV_alloc w #[.int .i64 wd, .int .i64 hg, .slice dao dn dc, .slice fao fn fc, .int .i64 ed] 27
  obtain ⟨dao', dc', eD, hdl, hdm, hdc⟩ := hD
  obtain ⟨fao', fc', eF, hfl, hfm, hfc⟩ := hF
  simp only [Value.slice.injEq] at eD eF
  obtain ⟨rfl, rfl, rfl⟩ := eD
  obtain ⟨rfl, rfl, rfl⟩ := eF
  unfold maxLen at hdm hfm
  have HDC := hide hdc
  have HFC := hide hfc
  have HW := hide A
  have HO := hide O
  clear A O hdc hfc
  unfold vChart
  cases h1 : inB wd 1 12
  · have HN : Hid (chartB ⟨wd, hg, D, F, ed⟩ = false) := by show _ = _; unfold chartB headB; dsimp only; rw [h1]; simp
    go_enter Try.func20, Try.ntmps20
    go_wp2_with (go_at_call 63; refine (l1In_any _ _ _ _).mono ?_; rintro e w' ⟨rfl, h9⟩; have h8 := h9.symm; subst h8; clear h9)
    go_ret
    exact ⟨by rw [unhide HN]; rfl, unhide HW⟩
  cases h2 : inB hg 1 12
  · have HN : Hid (chartB ⟨wd, hg, D, F, ed⟩ = false) := by show _ = _; unfold chartB headB; dsimp only; rw [h2]; simp
    go_enter Try.func20, Try.ntmps20
    go_wp2_with (go_at_call 63; refine (l1In_any _ _ _ _).mono ?_; rintro e w' ⟨rfl, h9⟩; have h8 := h9.symm; subst h8; clear h9)
    go_ret
    exact ⟨by rw [unhide HN]; rfl, unhide HW⟩
  have hwd : 1 ≤ wd ∧ wd ≤ 12 := by simpa [inB] using h1
  have hhg : 1 ≤ hg ∧ hg ≤ 12 := by simpa [inB] using h2
  obtain ⟨hw0, hw1⟩ := hwd
  obtain ⟨hh0, hh1⟩ := hhg
  obtain ⟨p, ep⟩ : ∃ p, p = wd * hg := ⟨_, rfl⟩
  have hp : 1 ≤ p ∧ p ≤ 144 := by rw [ep]; exact mul_le12 hw0 hw1 hh0 hh1
  obtain ⟨hp0, hp1⟩ := hp
  have qp : IntKind.i64.wrap (wd * hg) = p := by rw [← ep, IntKind.wrap_i64]; omega
  have EP := hide ep
  clear ep
  by_cases h3 : (D.length : Int) = p
  case neg =>
    have HN : Hid (chartB ⟨wd, hg, D, F, ed⟩ = false) := by show _ = _; unfold chartB headB; dsimp only; rw [← unhide EP, decide_eq_false h3]; simp
    have d3 : ((D.length : Int) != p) = true := by simp; exact h3
    have d3' : ((D.length : Int) == p) = false := by simp; exact h3
    go_enter Try.func20, Try.ntmps20
    go_wp2_with (go_at_call 63; refine (l1In_any _ _ _ _).mono ?_; rintro e w' ⟨rfl, h9⟩; have h8 := h9.symm; subst h8; clear h9)
    go_ret
    exact ⟨by rw [unhide HN]; rfl, unhide HW⟩
  have d3 : ((D.length : Int) != p) = false := by simp; exact h3
  have d3' : ((D.length : Int) == p) = true := by simp; exact h3
  by_cases h4 : F.length ≤ 30
  case neg =>
    have HN : Hid (chartB ⟨wd, hg, D, F, ed⟩ = false) := by show _ = _; unfold chartB headB; dsimp only; rw [decide_eq_false h4]; simp
    have h4i : (30 : Int) < F.length := by omega
    go_enter Try.func20, Try.ntmps20
    go_wp2_with (go_at_call 63; refine (l1In_any _ _ _ _).mono ?_; rintro e w' ⟨rfl, h9⟩; have h8 := h9.symm; subst h8; clear h9)
    go_ret
    exact ⟨by rw [unhide HN]; rfl, unhide HW⟩
  have h4i : (F.length : Int) ≤ 30 := by omega
  cases h5 : inB ed 0 1000000
  · have HN : Hid (chartB ⟨wd, hg, D, F, ed⟩ = false) := by show _ = _; unfold chartB headB; dsimp only; rw [h5]; simp
    go_enter Try.func20, Try.ntmps20
    go_wp2_with (go_at_call 63; refine (l1In_any _ _ _ _).mono ?_; rintro e w' ⟨rfl, h9⟩; have h8 := h9.symm; subst h8; clear h9)
    go_ret
    exact ⟨by rw [unhide HN]; rfl, unhide HW⟩
  have HH : Hid (headB ⟨wd, hg, D, F, ed⟩ = true) := by show _ = _; unfold headB; dsimp only; rw [h1, h2, h5, ← unhide EP, decide_eq_true h3, decide_eq_true h4]; rfl
  go_enter Try.func20, Try.ntmps20
  go_wp2_with (go_at_call 63; refine (l1In_any _ _ _ _).mono ?_; rintro e w' ⟨rfl, h9⟩; have h8 := h9.symm; subst h8; clear h9)
  clear h1 h2 h5 d3 d3' h3 qp
  obtain ⟨W0, eW⟩ : ∃ z, z = w.alloc (.cells #[.int .i64 wd, .int .i64 hg, .slice dao D.length dc, .slice fao F.length fc, .int .i64 ed] 27) := ⟨_, rfl⟩
  rw [← eW] at HW HO ⊢
  clear eW
  go_loopg [3] D.length (fun g i wr => W0 = wr ∧ ∃ k : Nat, k ≤ D.length ∧ g = D.length - k ∧ i = .int .i64 k ∧ Hid (∀ r, r < k → inB (D.getD r 0) (-1000) 10000 = true))
  case atStart => exact ⟨rfl, 0, Nat.zero_le _, rfl, rfl, fun r hr => by omega⟩
  case round =>
    obtain ⟨rfl, k, hk, rfl, rfl, HDD⟩ := hrel
    have b2 := (unhide HO).cell (i := 2) rfl
    have b3 := (unhide HO).cell (i := 3) rfl
    by_cases hkn : k < D.length
    · obtain ⟨b, o, rfl, hcell⟩ := unhide HDC k hkn
      have g0 := ((unhide HW).cell (lt_of_cell hcell)).trans hcell
      have hki : (k : Int) < D.length := by omega
      have HL := hide fun V => l6Depth_any (D.getD k 0) V
      cases hin : inB (D.getD k 0) (-1000) 10000 with
      | true =>
        rw [hin] at HL
        have HD' : Hid (∀ r, r < k + 1 → inB (D.getD r 0) (-1000) 10000 = true) := fun r hr => by
          by_cases e : r = k
          · subst e; exact hin
          · exact (unhide HDD) r (by omega)
        clear HDD hcell hin
        generalize D.getD k 0 = x at *
        go_wp2_with (go_at_call 64; refine (unhide HL _).mono ?_; rintro e w' ⟨rfl, rfl⟩)
        go_roundg (D.length - (k + 1))
        case measure => omega
        case rel => exact ⟨rfl, k + 1, by omega, rfl, by go_num, HD'⟩
      | false =>
        rw [hin] at HL
        have HN : Hid (chartB ⟨wd, hg, D, F, ed⟩ = false) := by show _ = _; unfold chartB; dsimp only; rw [all_false (xs := D) hkn (d := 0) hin]; simp
        clear HDD hcell hin
        generalize D.getD k 0 = x at *
        go_wp2_with (go_at_call 64; refine (unhide HL _).mono ?_; rintro e w' ⟨rfl, rfl⟩)
        go_ret
        exact ⟨by rw [unhide HN]; rfl, unhide HW⟩
    · have HAD : Hid ((D.all fun d => inB d (-1000) 10000) = true) := all_true (d := 0) (fun r hr => (unhide HDD) r (by omega))
      have hki : ¬ (k : Int) < D.length := by omega
      clear HDD
      go_wp2
      clear b2 b3
      go_loopg [4] F.length (fun g i wq => Below W0.heap.size W0 wq ∧ ∃ k : Nat, k ≤ F.length ∧ g = F.length - k ∧ i = .int .i64 k ∧ Hid (∀ r, r < k → featsB ⟨wd, hg, D, F, ed⟩ r = true))
      case atStart => exact ⟨Below.refl _ _, 0, Nat.zero_le _, rfl, rfl, fun r hr => by omega⟩
      case round =>
        obtain ⟨hWq, k, hk, rfl, rfl, HFF⟩ := hrel
        generalize wr = wq at *
        have hO := OwnV.step (unhide HO) hWq
        have hA := Below.step (unhide HW) hWq
        have b0 := hO.cell (i := 0) rfl
        have b1 := hO.cell (i := 1) rfl
        have b2 := hO.cell (i := 2) rfl
        have b3 := hO.cell (i := 3) rfl
        have b4 := hO.cell (i := 4) rfl
        have HWq := hide hWq
        have HA := hide hA
        clear hWq hO
        by_cases hkn : k < F.length
        · obtain ⟨b, o, x0, x1, x2, x3, x4, rfl, hc0, hc1, hc2, hc3, hc4, EX⟩ := recFeatureAt (unhide HFC) hkn
          have q0 := fun x' : Gr wq => gr_cell (wcell3 hc0 hA) x'
          have q1 := fun x' : Gr wq => gr_cell (wcell3 hc1 hA) x'
          have q2 := fun x' : Gr wq => gr_cell (wcell3 hc2 hA) x'
          have q3 := fun x' : Gr wq => gr_cell (wcell3 hc3 hA) x'
          have q4 := fun x' : Gr wq => gr_cell (wcell3 hc4 hA) x'
          have p0 := fun x' : Gr wq => gr_cell b0 x'
          have p1 := fun x' : Gr wq => gr_cell b1 x'
          have p2 := fun x' : Gr wq => gr_cell b2 x'
          have p3 := fun x' : Gr wq => gr_cell b3 x'
          have p4 := fun x' : Gr wq => gr_cell b4 x'
          have S1 := hide fun x' : Gr wq => l6Feature_any wd hg ed (.slice dao D.length dc) (.slice (some ⟨b, o, none⟩) F.length fc) x0 x1 x2 x3 x4 x'.val hw0 hw1 hh0 hh1
          unfold vChart vFeature at S1
          have gsome := gr_some wq
          have hkF : (k : Int) < F.length := by omega
          have HNO : Hid (featsB ⟨wd, hg, D, F, ed⟩ k = false → chartB ⟨wd, hg, D, F, ed⟩ = false) := fun h => by
            unfold chartB
            dsimp only
            rw [all_false (xs := List.range F.length) (d := 0) (i := k) (by simpa using hkn) (by simpa [List.getD, hkn] using h)]
            simp
          have HYES : Hid (featsB ⟨wd, hg, D, F, ed⟩ k = true → ∀ r, r < k + 1 → featsB ⟨wd, hg, D, F, ed⟩ r = true) := fun h r hr => by
            by_cases e : r = k
            · rw [e]; exact h
            · exact (unhide HFF) r (by omega)
          by_cases hk0 : k = 0
          · have EW : Hid (featsB ⟨wd, hg, D, F, ed⟩ k = featB wd hg (x0, x1, x2, x3, x4)) := by show _ = _; unfold featsB; dsimp only; rw [unhide EX, decide_eq_true hk0]; simp
            have d0 : decide ((0 : Int) < (k : Int)) = false := by simp; omega
            have d0' : decide (0 < k) = false := by simp; omega
            clear hc0 hc1 hc2 hc3 hc4 EX hk0 hA b0 b1 b2 b4
            cases hf : featB wd hg (x0, x1, x2, x3, x4) with
            | true =>
              rw [hf] at S1 EW
              have HFF' := hide (unhide HYES (unhide EW))
              clear HFF HYES HNO
              go_wp2
              refine wp_region_grown (by kernel_rfl) (by kernel_rfl) ?_
              repeat (go_big_quiet_step (fail))
              go_big_quiet_want
              go_big_quiet_op
              go_big_quiet_call (exact calls_grown (unhide S1 _))
              repeat (go_big_quiet_step (fail))
              refine wpQuiet_nil ?_
              intro w1 hw1
              obtain ⟨z', hz⟩ := hw1
              have hb1 : Below wq.heap.size wq w1 := hz ▸ z'.ok
              clear hz gsome
              go_wp2
              go_roundg (F.length - (k + 1))
              case measure => omega
              case rel => exact ⟨Below.step (unhide HWq) hb1, k + 1, by omega, rfl, by go_num, HFF'⟩

            | false =>
              rw [hf] at S1 EW
              have HN := hide (unhide HNO (unhide EW))
              clear HFF HYES HNO
              go_wp2
              refine wp_region_grown (by kernel_rfl) (by kernel_rfl) ?_
              repeat (go_big_quiet_step (fail))
              go_big_quiet_want
              go_big_quiet_op
              go_big_quiet_call (exact calls_grown (unhide S1 _))
              repeat (go_big_quiet_step (fail))
              refine wpQuiet_nil ?_
              intro w1 hw1
              obtain ⟨z', hz⟩ := hw1
              have hb1 : Below wq.heap.size wq w1 := hz ▸ z'.ok
              clear hz gsome
              go_wp2
              go_ret
              exact ⟨by rw [unhide HN]; rfl, Below.step (unhide HW) (Below.step (unhide HWq) hb1)⟩

          · obtain ⟨pj, ep⟩ : ∃ p, p = k - 1 := ⟨_, rfl⟩
            obtain ⟨b', o', z0, z1, z2, z3, z4, e', hd0, _, _, _, _, EX'⟩ := recFeatureAt (unhide HFC) (show pj < F.length by omega)
            simp only [Option.some.injEq, Addr.mk.injEq, and_true] at e'
            obtain ⟨rfl, rfl⟩ := e'
            have q5 := fun x' : Gr wq => gr_cell (wcell3 hd0 hA) x'
            have EW : Hid (featsB ⟨wd, hg, D, F, ed⟩ k = (featB wd hg (x0, x1, x2, x3, x4) && decide (z0 < x0))) := by show _ = _; unfold featsB; dsimp only; rw [unhide EX, decide_eq_false hk0, ← ep, unhide EX']; simp
            have d0 : decide ((0 : Int) < (k : Int)) = true := by simp; omega
            have d0' : decide (0 < k) = true := by simp; omega
            have i1 : IntKind.i64.wrap ((k : Int) - 1) = (pj : Int) := by rw [IntKind.wrap_i64]; omega
            have i2 : (pj : Int) < F.length := by omega
            clear hc0 hc1 hc2 hc3 hc4 hd0 EX EX' hk0 hA b0 b1 b2 b4 ep
            cases hf : featB wd hg (x0, x1, x2, x3, x4) with
            | false =>
              rw [hf] at S1 EW
              have HN := hide (unhide HNO (by rw [unhide EW]; rfl))
              clear HFF HYES HNO
              go_wp2
              refine wp_region_grown (by kernel_rfl) (by kernel_rfl) ?_
              repeat (go_big_quiet_step (fail))
              go_big_quiet_want
              go_big_quiet_op
              go_big_quiet_call (exact calls_grown (unhide S1 _))
              repeat (go_big_quiet_step (fail))
              refine wpQuiet_nil ?_
              intro w1 hw1
              obtain ⟨z', hz⟩ := hw1
              have hb1 : Below wq.heap.size wq w1 := hz ▸ z'.ok
              clear hz gsome
              go_wp2
              go_ret
              exact ⟨by rw [unhide HN]; rfl, Below.step (unhide HW) (Below.step (unhide HWq) hb1)⟩
            | true =>
              rw [hf] at S1 EW
              by_cases hlt : z0 < x0
              · have dl : decide (x0 ≤ z0) = false := by simp; omega
                have HFF' := hide (unhide HYES (by rw [unhide EW, decide_eq_true hlt]; rfl))
                clear HFF HYES HNO
                go_wp2
                refine wp_region_grown (by kernel_rfl) (by kernel_rfl) ?_
                repeat (go_big_quiet_step (fail))
                go_big_quiet_want
                go_big_quiet_op
                go_big_quiet_call (exact calls_grown (unhide S1 _))
                repeat (go_big_quiet_step (fail))
                refine wpQuiet_nil ?_
                intro w1 hw1
                obtain ⟨z', hz⟩ := hw1
                have hb1 : Below wq.heap.size wq w1 := hz ▸ z'.ok
                clear hz gsome
                go_wp2
                go_roundg (F.length - (k + 1))
                case measure => omega
                case rel => exact ⟨Below.step (unhide HWq) hb1, k + 1, by omega, rfl, by go_num, HFF'⟩
              · have dl : decide (x0 ≤ z0) = true := by simp; omega
                have HN := hide (unhide HNO (by rw [unhide EW, decide_eq_false hlt]; rfl))
                clear HFF HYES HNO
                go_wp2
                refine wp_region_grown (by kernel_rfl) (by kernel_rfl) ?_
                repeat (go_big_quiet_step (fail))
                go_big_quiet_want
                go_big_quiet_op
                go_big_quiet_call (exact calls_grown (unhide S1 _))
                repeat (go_big_quiet_step (fail))
                refine wpQuiet_nil ?_
                intro w1 hw1
                obtain ⟨z', hz⟩ := hw1
                have hb1 : Below wq.heap.size wq w1 := hz ▸ z'.ok
                clear hz gsome
                go_wp2
                go_ret
                exact ⟨by rw [unhide HN]; rfl, Below.step (unhide HW) (Below.step (unhide HWq) hb1)⟩
        · have HAF : Hid (chartB ⟨wd, hg, D, F, ed⟩ = true) := by
            show _ = _
            unfold chartB
            dsimp only
            rw [unhide HH, unhide HAD, all_true (xs := List.range F.length) (d := 0) (fun r hr => by
              have hr' : r < F.length := by simpa using hr
              have := unhide HFF r (by omega)
              simpa [List.getD, hr'] using this)]
            rfl
          have hkF : ¬ (k : Int) < F.length := by omega
          go_wp2
          go_ret
          exact ⟨by rw [unhide HAF]; rfl, unhide HA⟩

end Go.Proofs.Ytoonbidopdflkaa

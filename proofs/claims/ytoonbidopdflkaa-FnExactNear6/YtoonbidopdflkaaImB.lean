/- Contracts of the program's depthsOk, featuresOk. -/
import Derived.Test.YtoonbidopdflkaaImA
namespace Go.Proofs.Ytoonbidopdflkaa
open Go.RowKit

set_option maxRecDepth 10000 in
set_option maxHeartbeats 4000000 in
theorem depthsOk_any (c : Ch) (dao : Option Addr) (dn dc : Nat) (fv : Value) (w : World) (hD : IntsIn w (.slice dao dn dc) c.D) (hw0 : 1 ≤ c.wd) (hw1 : c.wd ≤ 12) (hh0 : 1 ≤ c.hg) (hh1 : c.hg ≤ 12) :
    Calls Try.prog 58 #[vChart c.wd c.hg (.slice dao dn dc) fv c.ed] w fun e w' => e = .returned (.bool (decide ((c.D.length : Int) = c.wd * c.hg) && c.D.all (fun d => inB d (-1000) 10000))) ∧ Below w.heap.size w w' := by
  obtain ⟨wd, hg, D, F, ed⟩ := c
  dsimp only at hD hw0 hw1 hh0 hh1 ⊢
  have A := Below.alloc1 w (.cells #[.int .i64 wd, .int .i64 hg, .slice dao dn dc, fv, .int .i64 ed] 27)
  have O := ownV_alloc w #[.int .i64 wd, .int .i64 hg, .slice dao dn dc, fv, .int .i64 ed] 27
  obtain ⟨dao', dc', eD, hdl, hdm, hdc⟩ := hD
  simp only [Value.slice.injEq] at eD
  obtain ⟨rfl, rfl, rfl⟩ := eD
  unfold maxLen at hdm
  have HDC := hide hdc
  have HW := hide A
  have HO := hide O
  clear A O hdc
  obtain ⟨p, ep⟩ : ∃ p, p = wd * hg := ⟨_, rfl⟩
  have hp : 1 ≤ p ∧ p ≤ 144 := by rw [ep]; exact mul_le12 hw0 hw1 hh0 hh1
  obtain ⟨hp0, hp1⟩ := hp
  have qp : IntKind.i64.wrap (wd * hg) = p := by rw [← ep, IntKind.wrap_i64]; omega
  rw [← ep]
  clear ep
  unfold vChart
  by_cases h3 : (D.length : Int) = p
  case neg =>
    have d3 : ((D.length : Int) != p) = true := by simp; exact h3
    have d3' : ((D.length : Int) == p) = false := by simp; exact h3
    rw [decide_eq_false h3, Bool.false_and]
    go_enter Try.func58, Try.ntmps58
    go_wp2
    go_ret
    exact ⟨rfl, unhide HW⟩
  have d3 : ((D.length : Int) != p) = false := by simp; exact h3
  have d3' : ((D.length : Int) == p) = true := by simp; exact h3
  rw [decide_eq_true h3, Bool.true_and]
  go_enter Try.func58, Try.ntmps58
  go_wp2
  obtain ⟨W0, eW⟩ : ∃ z, z = w.alloc (.cells #[.int .i64 wd, .int .i64 hg, .slice dao D.length dc, fv, .int .i64 ed] 27) := ⟨_, rfl⟩
  rw [← eW] at HW HO ⊢
  clear eW d3 d3' qp
  go_loopg [17] D.length (fun g i wr => W0 = wr ∧ ∃ k : Nat, k ≤ D.length ∧ g = D.length - k ∧ i = .int .i64 k ∧ Hid (∀ r, r < k → inB (D.getD r 0) (-1000) 10000 = true))
  case atStart => exact ⟨rfl, 0, Nat.zero_le _, rfl, rfl, fun r hr => by omega⟩
  case round =>
    obtain ⟨rfl, k, hk, rfl, rfl, HDD⟩ := hrel
    by_cases hkn : k < D.length
    · obtain ⟨b, o, rfl, hcell⟩ := unhide HDC k hkn
      have g0 := ((unhide HW).cell (lt_of_cell hcell)).trans hcell
      have hki : (k : Int) < D.length := by omega
      have HL := hide fun V => depthOk_any (D.getD k 0) V
      cases hin : inB (D.getD k 0) (-1000) 10000 with
      | true =>
        rw [hin] at HL
        have HD' : Hid (∀ r, r < k + 1 → inB (D.getD r 0) (-1000) 10000 = true) := fun r hr => by
          by_cases e : r = k
          · subst e; exact hin
          · exact (unhide HDD) r (by omega)
        clear HDD hcell hin
        generalize D.getD k 0 = x at *
        go_wp2_with (go_at_call 97; refine (unhide HL _).mono ?_; rintro e w' ⟨rfl, rfl⟩)
        go_roundg (D.length - (k + 1))
        case measure => omega
        case rel => exact ⟨rfl, k + 1, by omega, rfl, by go_num, HD'⟩
      | false =>
        rw [hin] at HL
        have HN := hide (all_false (p := fun d => inB d (-1000) 10000) hkn hin)
        clear HDD hcell hin
        generalize D.getD k 0 = x at *
        go_wp2_with (go_at_call 97; refine (unhide HL _).mono ?_; rintro e w' ⟨rfl, rfl⟩)
        go_ret
        exact ⟨ret_bool (unhide HN).symm, unhide HW⟩
    · have HAD := hide (all_true (p := fun d => inB d (-1000) 10000) (xs := D) (d := 0) (fun r hr => (unhide HDD) r (by omega)))
      have hki : ¬ (k : Int) < D.length := by omega
      clear HDD
      go_wp2
      go_ret
      exact ⟨ret_bool (unhide HAD).symm, unhide HW⟩

set_option maxRecDepth 10000 in
set_option maxHeartbeats 8000000 in
theorem featuresOk_any (c : Ch) (dv : Value) (fao : Option Addr) (fn fc : Nat) (w : World) (hF : RFeature w (.slice fao fn fc) c.F) (hw0 : 1 ≤ c.wd) (hw1 : c.wd ≤ 12) (hh0 : 1 ≤ c.hg) (hh1 : c.hg ≤ 12) :
    Calls Try.prog 59 #[vChart c.wd c.hg dv (.slice fao fn fc) c.ed] w fun e w' => e = .returned (.bool (decide (c.F.length ≤ 30) && (List.range c.F.length).all (featsB c))) ∧ Below w.heap.size w w' := by
  obtain ⟨wd, hg, D, F, ed⟩ := c
  dsimp only at hF hw0 hw1 hh0 hh1 ⊢
  have A := Below.alloc1 w (.cells #[.int .i64 wd, .int .i64 hg, dv, .slice fao fn fc, .int .i64 ed] 27)
  have O := ownV_alloc w #[.int .i64 wd, .int .i64 hg, dv, .slice fao fn fc, .int .i64 ed] 27
  obtain ⟨fao', fc', eF, hfl, hfm, hfc⟩ := hF
  simp only [Value.slice.injEq] at eF
  obtain ⟨rfl, rfl, rfl⟩ := eF
  unfold maxLen at hfm
  have HFC := hide hfc
  have HW := hide A
  have HO := hide O
  clear A O hfc
  unfold vChart
  by_cases h4 : F.length ≤ 30
  case neg =>
    have h4i : (30 : Int) < F.length := by omega
    rw [decide_eq_false h4, Bool.false_and]
    go_enter Try.func59, Try.ntmps59
    go_wp2
    go_ret
    exact ⟨rfl, unhide HW⟩
  have h4i : (F.length : Int) ≤ 30 := by omega
  rw [decide_eq_true h4, Bool.true_and]
  go_enter Try.func59, Try.ntmps59
  go_wp2
  obtain ⟨W0, eW⟩ : ∃ z, z = w.alloc (.cells #[.int .i64 wd, .int .i64 hg, dv, .slice fao F.length fc, .int .i64 ed] 27) := ⟨_, rfl⟩
  rw [← eW] at HW HO ⊢
  clear eW
  go_loopg [12] F.length (fun g i wr => Below W0.heap.size W0 wr ∧ ∃ k : Nat, k ≤ F.length ∧ g = F.length - k ∧ i = .int .i64 k ∧ Hid (∀ r, r < k → featsB ⟨wd, hg, D, F, ed⟩ r = true))
  case atStart => exact ⟨Below.refl _ _, 0, Nat.zero_le _, rfl, rfl, fun r hr => by omega⟩
  case round =>
    obtain ⟨hWq, k, hk, rfl, rfl, HFF⟩ := hrel
    by_cases hkn : k < F.length
    · obtain ⟨b, o, x0, x1, x2, x3, x4, rfl, hc0, hc1, hc2, hc3, hc4, EX⟩ := recFeatureAt (unhide HFC) hkn
      have hA := Below.step (unhide HW) hWq
      have g0 := wcell3 hc0 hA
      have g1 := wcell3 hc1 hA
      have g2 := wcell3 hc2 hA
      have g3 := wcell3 hc3 hA
      have g4 := wcell3 hc4 hA
      have AL := Below.alloc1 wr (.cells #[.int .i64 x0, .int .i64 x1, .int .i64 x2, .int .i64 x3, .string x4] 95)
      have OF := ownV_alloc wr #[.int .i64 x0, .int .i64 x1, .int .i64 x2, .int .i64 x3, .string x4] 95
      have hO := OwnV.step (OwnV.step (unhide HO) hWq) AL
      have b0 := hO.cell (i := 0) rfl
      have b1 := hO.cell (i := 1) rfl
      have b2 := hO.cell (i := 2) rfl
      have b3 := hO.cell (i := 3) rfl
      have b4 := hO.cell (i := 4) rfl
      have HOc := hide hO
      have HOF := hide OF
      have HWA := hide (Below.step hWq AL)
      clear hc0 hc1 hc2 hc3 hc4 hWq hA AL OF hO
      have HNO : Hid (featsB ⟨wd, hg, D, F, ed⟩ k = false → (List.range F.length).all (featsB ⟨wd, hg, D, F, ed⟩) = false) := fun h => all_false (xs := List.range F.length) (d := 0) (i := k) (by simpa using hkn) (by simpa [List.getD, hkn] using h)
      have HYES : Hid (featsB ⟨wd, hg, D, F, ed⟩ k = true → ∀ r, r < k + 1 → featsB ⟨wd, hg, D, F, ed⟩ r = true) := fun h r hr => by
        by_cases e : r = k
        · rw [e]; exact h
        · exact (unhide HFF) r (by omega)
      go_wp2_with fail
      obtain ⟨V, eV⟩ : ∃ z, z = wr.alloc (.cells #[.int .i64 x0, .int .i64 x1, .int .i64 x2, .int .i64 x3, .string x4] 95) := ⟨_, rfl⟩
      rw [← eV] at HOc HOF HWA b0 b1 b2 b3 b4 ⊢
      have hblk : wr.heap.size < V.heap.size := (unhide HOF).lt
      clear eV g0 g1 g2 g3 g4
      generalize wr.heap.size = gf at *
      have p0 := fun x' : Gr V => gr_cell b0 x'
      have p1 := fun x' : Gr V => gr_cell b1 x'
      have p2 := fun x' : Gr V => gr_cell b2 x'
      have p3 := fun x' : Gr V => gr_cell b3 x'
      have p4 := fun x' : Gr V => gr_cell b4 x'
      have q0 := fun x' : Gr V => gr_cell ((unhide HOF).cell (i := 0) rfl) x'
      have q1 := fun x' : Gr V => gr_cell ((unhide HOF).cell (i := 1) rfl) x'
      have q2 := fun x' : Gr V => gr_cell ((unhide HOF).cell (i := 2) rfl) x'
      have q3 := fun x' : Gr V => gr_cell ((unhide HOF).cell (i := 3) rfl) x'
      have q4 := fun x' : Gr V => gr_cell ((unhide HOF).cell (i := 4) rfl) x'
      have S1 := hide fun x' : Gr V => featureOk_any wd hg ed dv (.slice (some ⟨b, o, none⟩) F.length fc) x0 x1 x2 x3 x4 x'.val hw0 hw1 hh0 hh1
      unfold vChart vFeature at S1
      have gsome := gr_some V
      have hkF : (k : Int) < F.length := by omega
      have hA := Below.step (unhide HW) (unhide HWA)
      clear b0 b1 b2 b3 b4
      by_cases hk0 : k = 0
      · have EW : Hid (featsB ⟨wd, hg, D, F, ed⟩ k = featB wd hg (x0, x1, x2, x3, x4)) := by show _ = _; unfold featsB; dsimp only; rw [unhide EX, decide_eq_true hk0]; simp
        have d0 : decide ((0 : Int) < (k : Int)) = false := by simp; omega
        have d0' : decide (0 < k) = false := by simp; omega
        clear EX hk0 hA
        cases hf : featB wd hg (x0, x1, x2, x3, x4) with
        | true =>
          rw [hf] at S1 EW
          have HFF' := hide (unhide HYES (unhide EW))
          clear HFF HYES HNO
          refine wp_region_grown (by kernel_rfl) (by kernel_rfl) ?_
          repeat (go_big_quiet_step (fail))
          go_big_quiet_want
          go_big_quiet_op
          go_big_quiet_call (exact calls_grown (unhide S1 _))
          repeat (go_big_quiet_step (fail))
          refine wpQuiet_nil ?_
          intro w1 hw1
          obtain ⟨z', hz⟩ := hw1
          have hb1 : Below V.heap.size V w1 := hz ▸ z'.ok
          clear hz gsome
          go_wp2
          go_roundg (F.length - (k + 1))
          case measure => omega
          case rel => exact ⟨Below.step (unhide HWA) hb1, k + 1, by omega, rfl, by go_num, HFF'⟩
        | false =>
          rw [hf] at S1 EW
          have HN := hide (unhide HNO (unhide EW))
          clear HFF HYES HNO
          refine wp_region_grown (by kernel_rfl) (by kernel_rfl) ?_
          repeat (go_big_quiet_step (fail))
          go_big_quiet_want
          go_big_quiet_op
          go_big_quiet_call (exact calls_grown (unhide S1 _))
          repeat (go_big_quiet_step (fail))
          refine wpQuiet_nil ?_
          intro w1 hw1
          obtain ⟨z', hz⟩ := hw1
          have hb1 : Below V.heap.size V w1 := hz ▸ z'.ok
          clear hz gsome
          go_wp2
          go_ret
          exact ⟨ret_bool (unhide HN).symm, Below.step (unhide HW) (Below.step (unhide HWA) hb1)⟩
      · obtain ⟨pj, ep⟩ : ∃ p, p = k - 1 := ⟨_, rfl⟩
        obtain ⟨b', o', z0, z1, z2, z3, z4, e', hd0, _, _, _, _, EX'⟩ := recFeatureAt (unhide HFC) (show pj < F.length by omega)
        simp only [Option.some.injEq, Addr.mk.injEq, and_true] at e'
        obtain ⟨rfl, rfl⟩ := e'
        have q5 := fun x' : Gr V => gr_cell (wcell3 hd0 hA) x'
        have EW : Hid (featsB ⟨wd, hg, D, F, ed⟩ k = (featB wd hg (x0, x1, x2, x3, x4) && decide (z0 < x0))) := by show _ = _; unfold featsB; dsimp only; rw [unhide EX, decide_eq_false hk0, ← ep, unhide EX']; simp
        have d0 : decide ((0 : Int) < (k : Int)) = true := by simp; omega
        have d0' : decide (0 < k) = true := by simp; omega
        have i1 : IntKind.i64.wrap ((k : Int) - 1) = (pj : Int) := by rw [IntKind.wrap_i64]; omega
        have i2 : (pj : Int) < F.length := by omega
        clear hd0 EX EX' hk0 hA ep
        cases hf : featB wd hg (x0, x1, x2, x3, x4) with
        | false =>
          rw [hf] at S1 EW
          have HN := hide (unhide HNO (by rw [unhide EW]; rfl))
          clear HFF HYES HNO
          refine wp_region_grown (by kernel_rfl) (by kernel_rfl) ?_
          repeat (go_big_quiet_step (fail))
          go_big_quiet_want
          go_big_quiet_op
          go_big_quiet_call (exact calls_grown (unhide S1 _))
          repeat (go_big_quiet_step (fail))
          refine wpQuiet_nil ?_
          intro w1 hw1
          obtain ⟨z', hz⟩ := hw1
          have hb1 : Below V.heap.size V w1 := hz ▸ z'.ok
          clear hz gsome
          go_wp2
          go_ret
          exact ⟨ret_bool (unhide HN).symm, Below.step (unhide HW) (Below.step (unhide HWA) hb1)⟩
        | true =>
          rw [hf] at S1 EW
          by_cases hlt : z0 < x0
          · have dl : decide (x0 ≤ z0) = false := by simp; omega
            have HFF' := hide (unhide HYES (by rw [unhide EW, decide_eq_true hlt]; rfl))
            clear HFF HYES HNO
            refine wp_region_grown (by kernel_rfl) (by kernel_rfl) ?_
            repeat (go_big_quiet_step (fail))
            go_big_quiet_want
            go_big_quiet_op
            go_big_quiet_call (exact calls_grown (unhide S1 _))
            repeat (go_big_quiet_step (fail))
            refine wpQuiet_nil ?_
            intro w1 hw1
            obtain ⟨z', hz⟩ := hw1
            have hb1 : Below V.heap.size V w1 := hz ▸ z'.ok
            clear hz gsome
            go_wp2
            go_roundg (F.length - (k + 1))
            case measure => omega
            case rel => exact ⟨Below.step (unhide HWA) hb1, k + 1, by omega, rfl, by go_num, HFF'⟩
          · have dl : decide (x0 ≤ z0) = true := by simp; omega
            have HN := hide (unhide HNO (by rw [unhide EW, decide_eq_false hlt]; rfl))
            clear HFF HYES HNO
            refine wp_region_grown (by kernel_rfl) (by kernel_rfl) ?_
            repeat (go_big_quiet_step (fail))
            go_big_quiet_want
            go_big_quiet_op
            go_big_quiet_call (exact calls_grown (unhide S1 _))
            repeat (go_big_quiet_step (fail))
            refine wpQuiet_nil ?_
            intro w1 hw1
            obtain ⟨z', hz⟩ := hw1
            have hb1 : Below V.heap.size V w1 := hz ▸ z'.ok
            clear hz gsome
            go_wp2
            go_ret
            exact ⟨ret_bool (unhide HN).symm, Below.step (unhide HW) (Below.step (unhide HWA) hb1)⟩
    · have HAF : Hid ((List.range F.length).all (featsB ⟨wd, hg, D, F, ed⟩) = true) := all_true (xs := List.range F.length) (d := 0) (fun r hr => by
        have hr' : r < F.length := by simpa using hr
        have := unhide HFF r (by omega)
        simpa [List.getD, hr'] using this)
      have hkF : ¬ (k : Int) < F.length := by omega
      have HA := hide (Below.step (unhide HW) hWq)
      clear HFF hWq
      go_wp2
      go_ret
      exact ⟨ret_bool (unhide HAF).symm, unhide HA⟩

end Go.Proofs.Ytoonbidopdflkaa

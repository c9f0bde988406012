/- Laid together out of: ChC, TwoR, AppK, ChD, ChE, ChP, ChG. -/
import Derived.Test.YtmpicamenjnkkaaPc
import Derived.Test.YtmpicamenjnkkaaPa
import Derived.Test.YtmpicamenjnkkaaPb
import Derived.Deep.AppendLies
import Derived.Deep.DeepMust

/- Contract of the specification's ChartOk. -/
namespace Go.Proofs.Ytmpicamenjnkkaa
open Go.RowKit

theorem mul_le12 {x y : Int} (hx0 : 1 ≤ x) (hx1 : x ≤ 12) (hy0 : 1 ≤ y) (hy1 : y ≤ 12) : 1 ≤ x * y ∧ x * y ≤ 144 := by
  have h : x = 1 ∨ x = 2 ∨ x = 3 ∨ x = 4 ∨ x = 5 ∨ x = 6 ∨ x = 7 ∨ x = 8 ∨ x = 9 ∨ x = 10 ∨ x = 11 ∨ x = 12 := by omega
  rcases h with rfl | rfl | rfl | rfl | rfl | rfl | rfl | rfl | rfl | rfl | rfl | rfl <;> omega

set_option maxRecDepth 10000 in
set_option maxHeartbeats 8000000 in
theorem specChartOk_any (c : Ch) (dao : Option Addr) (dn dc : Nat) (fao : Option Addr) (fn fc : Nat) (w : World) (hD : IntsIn w (.slice dao dn dc) c.D) (hF : RFeature w (.slice fao fn fc) c.F) :
    Calls Try.prog 16 #[vChart c.wd c.hg (.slice dao dn dc) (.slice fao fn fc) c.ed] w fun e w' => e = .returned (.bool (chartB c)) ∧ Below w.heap.size w w' := by
  obtain ⟨wd, hg, D, F, ed⟩ := c
  dsimp only at hD hF ⊢
  have A := Below.alloc1 w (.cells #[.int .i64 wd, .int .i64 hg, .slice dao dn dc, .slice fao fn fc, .int .i64 ed] 27)
  have O := ownV_alloc w #[.int .i64 wd, .int .i64 hg, .slice dao dn dc, .slice fao fn fc, .int .i64 ed] 27
  obtain ⟨dao', dc', eD, hdl, hdm, hdc⟩ := hD
  obtain ⟨fao', fc', eF, hfl, hfm, hfc⟩ := hF
  simp only [Value.slice.injEq] at eD eF
  obtain ⟨rfl, rfl, rfl⟩ := eD
  obtain ⟨rfl, rfl, rfl⟩ := eF
  unfold maxLen at hdm hfm
  have HDC := hide hdc
  have HFC := hide hfc
  have HW := hide A
  have HO := hide O
  clear A O hdc hfc
  unfold vChart
  cases h1 : inB wd 1 12
  · have HN : Hid (chartB ⟨wd, hg, D, F, ed⟩ = false) := by show _ = _; unfold chartB headB; dsimp only; rw [h1]; simp
    go_enter Try.func16, Try.ntmps16
    go_wp2_with (go_at_call 56; refine (l1In_any _ _ _ _).mono ?_; rintro e w' ⟨rfl, h9⟩; have h8 := h9.symm; subst h8; clear h9)
    go_ret
    exact ⟨by rw [unhide HN]; rfl, unhide HW⟩
  cases h2 : inB hg 1 12
  · have HN : Hid (chartB ⟨wd, hg, D, F, ed⟩ = false) := by show _ = _; unfold chartB headB; dsimp only; rw [h2]; simp
    go_enter Try.func16, Try.ntmps16
    go_wp2_with (go_at_call 56; refine (l1In_any _ _ _ _).mono ?_; rintro e w' ⟨rfl, h9⟩; have h8 := h9.symm; subst h8; clear h9)
    go_ret
    exact ⟨by rw [unhide HN]; rfl, unhide HW⟩
  have hwd : 1 ≤ wd ∧ wd ≤ 12 := by simpa [inB] using h1
  have hhg : 1 ≤ hg ∧ hg ≤ 12 := by simpa [inB] using h2
  obtain ⟨hw0, hw1⟩ := hwd
  obtain ⟨hh0, hh1⟩ := hhg
  obtain ⟨p, ep⟩ : ∃ p, p = wd * hg := ⟨_, rfl⟩
  have hp : 1 ≤ p ∧ p ≤ 144 := by rw [ep]; exact mul_le12 hw0 hw1 hh0 hh1
  obtain ⟨hp0, hp1⟩ := hp
  have qp : IntKind.i64.wrap (wd * hg) = p := by rw [← ep, IntKind.wrap_i64]; omega
  have EP := hide ep
  clear ep
  by_cases h3 : (D.length : Int) = p
  case neg =>
    have HN : Hid (chartB ⟨wd, hg, D, F, ed⟩ = false) := by show _ = _; unfold chartB headB; dsimp only; rw [← unhide EP, decide_eq_false h3]; simp
    have d3 : ((D.length : Int) != p) = true := by simp; exact h3
    have d3' : ((D.length : Int) == p) = false := by simp; exact h3
    go_enter Try.func16, Try.ntmps16
    go_wp2_with (go_at_call 56; refine (l1In_any _ _ _ _).mono ?_; rintro e w' ⟨rfl, h9⟩; have h8 := h9.symm; subst h8; clear h9)
    go_ret
    exact ⟨by rw [unhide HN]; rfl, unhide HW⟩
  have d3 : ((D.length : Int) != p) = false := by simp; exact h3
  have d3' : ((D.length : Int) == p) = true := by simp; exact h3
  by_cases h4 : F.length ≤ 30
  case neg =>
    have HN : Hid (chartB ⟨wd, hg, D, F, ed⟩ = false) := by show _ = _; unfold chartB headB; dsimp only; rw [decide_eq_false h4]; simp
    have h4i : (30 : Int) < F.length := by omega
    go_enter Try.func16, Try.ntmps16
    go_wp2_with (go_at_call 56; refine (l1In_any _ _ _ _).mono ?_; rintro e w' ⟨rfl, h9⟩; have h8 := h9.symm; subst h8; clear h9)
    go_ret
    exact ⟨by rw [unhide HN]; rfl, unhide HW⟩
  have h4i : (F.length : Int) ≤ 30 := by omega
  cases h5 : inB ed 0 1000000
  · have HN : Hid (chartB ⟨wd, hg, D, F, ed⟩ = false) := by show _ = _; unfold chartB headB; dsimp only; rw [h5]; simp
    go_enter Try.func16, Try.ntmps16
    go_wp2_with (go_at_call 56; refine (l1In_any _ _ _ _).mono ?_; rintro e w' ⟨rfl, h9⟩; have h8 := h9.symm; subst h8; clear h9)
    go_ret
    exact ⟨by rw [unhide HN]; rfl, unhide HW⟩
  have HH : Hid (headB ⟨wd, hg, D, F, ed⟩ = true) := by show _ = _; unfold headB; dsimp only; rw [h1, h2, h5, ← unhide EP, decide_eq_true h3, decide_eq_true h4]; rfl
  go_enter Try.func16, Try.ntmps16
  go_wp2_with (go_at_call 56; refine (l1In_any _ _ _ _).mono ?_; rintro e w' ⟨rfl, h9⟩; have h8 := h9.symm; subst h8; clear h9)
  clear h1 h2 h5 d3 d3' h3 qp
  obtain ⟨W0, eW⟩ : ∃ z, z = w.alloc (.cells #[.int .i64 wd, .int .i64 hg, .slice dao D.length dc, .slice fao F.length fc, .int .i64 ed] 27) := ⟨_, rfl⟩
  rw [← eW] at HW HO ⊢
  clear eW
  go_loopg [3] D.length (fun g i wr => W0 = wr ∧ ∃ k : Nat, k ≤ D.length ∧ g = D.length - k ∧ i = .int .i64 k ∧ Hid (∀ r, r < k → inB (D.getD r 0) (-1000) 10000 = true))
  case atStart => exact ⟨rfl, 0, Nat.zero_le _, rfl, rfl, fun r hr => by omega⟩
  case round =>
    obtain ⟨rfl, k, hk, rfl, rfl, HDD⟩ := hrel
    have b2 := (unhide HO).cell (i := 2) rfl
    have b3 := (unhide HO).cell (i := 3) rfl
    by_cases hkn : k < D.length
    · obtain ⟨b, o, rfl, hcell⟩ := unhide HDC k hkn
      have g0 := ((unhide HW).cell (lt_of_cell hcell)).trans hcell
      have hki : (k : Int) < D.length := by omega
      have HL := hide fun V => l6Depth_any (D.getD k 0) V
      cases hin : inB (D.getD k 0) (-1000) 10000 with
      | true =>
        rw [hin] at HL
        have HD' : Hid (∀ r, r < k + 1 → inB (D.getD r 0) (-1000) 10000 = true) := fun r hr => by
          by_cases e : r = k
          · subst e; exact hin
          · exact (unhide HDD) r (by omega)
        clear HDD hcell hin
        generalize D.getD k 0 = x at *
        go_wp2_with (go_at_call 57; refine (unhide HL _).mono ?_; rintro e w' ⟨rfl, rfl⟩)
        go_roundg (D.length - (k + 1))
        case measure => omega
        case rel => exact ⟨rfl, k + 1, by omega, rfl, by go_num, HD'⟩
      | false =>
        rw [hin] at HL
        have HN : Hid (chartB ⟨wd, hg, D, F, ed⟩ = false) := by show _ = _; unfold chartB; dsimp only; rw [all_false (xs := D) hkn (d := 0) hin]; simp
        clear HDD hcell hin
        generalize D.getD k 0 = x at *
        go_wp2_with (go_at_call 57; refine (unhide HL _).mono ?_; rintro e w' ⟨rfl, rfl⟩)
        go_ret
        exact ⟨by rw [unhide HN]; rfl, unhide HW⟩
    · have HAD : Hid ((D.all fun d => inB d (-1000) 10000) = true) := all_true (d := 0) (fun r hr => (unhide HDD) r (by omega))
      have hki : ¬ (k : Int) < D.length := by omega
      clear HDD
      go_wp2
      clear b2 b3
      go_loopg [4] F.length (fun g i wq => Below W0.heap.size W0 wq ∧ ∃ k : Nat, k ≤ F.length ∧ g = F.length - k ∧ i = .int .i64 k ∧ Hid (∀ r, r < k → featsB ⟨wd, hg, D, F, ed⟩ r = true))
      case atStart => exact ⟨Below.refl _ _, 0, Nat.zero_le _, rfl, rfl, fun r hr => by omega⟩
      case round =>
        obtain ⟨hWq, k, hk, rfl, rfl, HFF⟩ := hrel
        generalize wr = wq at *
        have hO := OwnV.step (unhide HO) hWq
        have hA := Below.step (unhide HW) hWq
        have b0 := hO.cell (i := 0) rfl
        have b1 := hO.cell (i := 1) rfl
        have b2 := hO.cell (i := 2) rfl
        have b3 := hO.cell (i := 3) rfl
        have b4 := hO.cell (i := 4) rfl
        have HWq := hide hWq
        have HA := hide hA
        clear hWq hO
        by_cases hkn : k < F.length
        · obtain ⟨b, o, x0, x1, x2, x3, x4, rfl, hc0, hc1, hc2, hc3, hc4, EX⟩ := recFeatureAt (unhide HFC) hkn
          have q0 := fun x' : Gr wq => gr_cell (wcell3 hc0 hA) x'
          have q1 := fun x' : Gr wq => gr_cell (wcell3 hc1 hA) x'
          have q2 := fun x' : Gr wq => gr_cell (wcell3 hc2 hA) x'
          have q3 := fun x' : Gr wq => gr_cell (wcell3 hc3 hA) x'
          have q4 := fun x' : Gr wq => gr_cell (wcell3 hc4 hA) x'
          have p0 := fun x' : Gr wq => gr_cell b0 x'
          have p1 := fun x' : Gr wq => gr_cell b1 x'
          have p2 := fun x' : Gr wq => gr_cell b2 x'
          have p3 := fun x' : Gr wq => gr_cell b3 x'
          have p4 := fun x' : Gr wq => gr_cell b4 x'
          have S1 := hide fun x' : Gr wq => l6Feature_any wd hg ed (.slice dao D.length dc) (.slice (some ⟨b, o, none⟩) F.length fc) x0 x1 x2 x3 x4 x'.val hw0 hw1 hh0 hh1
          unfold vChart vFeature at S1
          have gsome := gr_some wq
          have hkF : (k : Int) < F.length := by omega
          have HNO : Hid (featsB ⟨wd, hg, D, F, ed⟩ k = false → chartB ⟨wd, hg, D, F, ed⟩ = false) := fun h => by
            unfold chartB
            dsimp only
            rw [all_false (xs := List.range F.length) (d := 0) (i := k) (by simpa using hkn) (by simpa [List.getD, hkn] using h)]
            simp
          have HYES : Hid (featsB ⟨wd, hg, D, F, ed⟩ k = true → ∀ r, r < k + 1 → featsB ⟨wd, hg, D, F, ed⟩ r = true) := fun h r hr => by
            by_cases e : r = k
            · rw [e]; exact h
            · exact (unhide HFF) r (by omega)
          by_cases hk0 : k = 0
          · have EW : Hid (featsB ⟨wd, hg, D, F, ed⟩ k = featB wd hg (x0, x1, x2, x3, x4)) := by show _ = _; unfold featsB; dsimp only; rw [unhide EX, decide_eq_true hk0]; simp
            have d0 : decide ((0 : Int) < (k : Int)) = false := by simp; omega
            have d0' : decide (0 < k) = false := by simp; omega
            clear hc0 hc1 hc2 hc3 hc4 EX hk0 hA b0 b1 b2 b4
            cases hf : featB wd hg (x0, x1, x2, x3, x4) with
            | true =>
              rw [hf] at S1 EW
              have HFF' := hide (unhide HYES (unhide EW))
              clear HFF HYES HNO
              go_wp2
              refine wp_region_grown (by kernel_rfl) (by kernel_rfl) ?_
              repeat (go_big_quiet_step (fail))
              go_big_quiet_want
              go_big_quiet_op
              go_big_quiet_call (exact calls_grown (unhide S1 _))
              repeat (go_big_quiet_step (fail))
              refine wpQuiet_nil ?_
              intro w1 hw1
              obtain ⟨z', hz⟩ := hw1
              have hb1 : Below wq.heap.size wq w1 := hz ▸ z'.ok
              clear hz gsome
              go_wp2
              go_roundg (F.length - (k + 1))
              case measure => omega
              case rel => exact ⟨Below.step (unhide HWq) hb1, k + 1, by omega, rfl, by go_num, HFF'⟩

            | false =>
              rw [hf] at S1 EW
              have HN := hide (unhide HNO (unhide EW))
              clear HFF HYES HNO
              go_wp2
              refine wp_region_grown (by kernel_rfl) (by kernel_rfl) ?_
              repeat (go_big_quiet_step (fail))
              go_big_quiet_want
              go_big_quiet_op
              go_big_quiet_call (exact calls_grown (unhide S1 _))
              repeat (go_big_quiet_step (fail))
              refine wpQuiet_nil ?_
              intro w1 hw1
              obtain ⟨z', hz⟩ := hw1
              have hb1 : Below wq.heap.size wq w1 := hz ▸ z'.ok
              clear hz gsome
              go_wp2
              go_ret
              exact ⟨by rw [unhide HN]; rfl, Below.step (unhide HW) (Below.step (unhide HWq) hb1)⟩

          · obtain ⟨pj, ep⟩ : ∃ p, p = k - 1 := ⟨_, rfl⟩
            obtain ⟨b', o', z0, z1, z2, z3, z4, e', hd0, _, _, _, _, EX'⟩ := recFeatureAt (unhide HFC) (show pj < F.length by omega)
            simp only [Option.some.injEq, Addr.mk.injEq, and_true] at e'
            obtain ⟨rfl, rfl⟩ := e'
            have q5 := fun x' : Gr wq => gr_cell (wcell3 hd0 hA) x'
            have EW : Hid (featsB ⟨wd, hg, D, F, ed⟩ k = (featB wd hg (x0, x1, x2, x3, x4) && decide (z0 < x0))) := by show _ = _; unfold featsB; dsimp only; rw [unhide EX, decide_eq_false hk0, ← ep, unhide EX']; simp
            have d0 : decide ((0 : Int) < (k : Int)) = true := by simp; omega
            have d0' : decide (0 < k) = true := by simp; omega
            have i1 : IntKind.i64.wrap ((k : Int) - 1) = (pj : Int) := by rw [IntKind.wrap_i64]; omega
            have i2 : (pj : Int) < F.length := by omega
            clear hc0 hc1 hc2 hc3 hc4 hd0 EX EX' hk0 hA b0 b1 b2 b4 ep
            cases hf : featB wd hg (x0, x1, x2, x3, x4) with
            | false =>
              rw [hf] at S1 EW
              have HN := hide (unhide HNO (by rw [unhide EW]; rfl))
              clear HFF HYES HNO
              go_wp2
              refine wp_region_grown (by kernel_rfl) (by kernel_rfl) ?_
              repeat (go_big_quiet_step (fail))
              go_big_quiet_want
              go_big_quiet_op
              go_big_quiet_call (exact calls_grown (unhide S1 _))
              repeat (go_big_quiet_step (fail))
              refine wpQuiet_nil ?_
              intro w1 hw1
              obtain ⟨z', hz⟩ := hw1
              have hb1 : Below wq.heap.size wq w1 := hz ▸ z'.ok
              clear hz gsome
              go_wp2
              go_ret
              exact ⟨by rw [unhide HN]; rfl, Below.step (unhide HW) (Below.step (unhide HWq) hb1)⟩
            | true =>
              rw [hf] at S1 EW
              by_cases hlt : z0 < x0
              · have dl : decide (x0 ≤ z0) = false := by simp; omega
                have HFF' := hide (unhide HYES (by rw [unhide EW, decide_eq_true hlt]; rfl))
                clear HFF HYES HNO
                go_wp2
                refine wp_region_grown (by kernel_rfl) (by kernel_rfl) ?_
                repeat (go_big_quiet_step (fail))
                go_big_quiet_want
                go_big_quiet_op
                go_big_quiet_call (exact calls_grown (unhide S1 _))
                repeat (go_big_quiet_step (fail))
                refine wpQuiet_nil ?_
                intro w1 hw1
                obtain ⟨z', hz⟩ := hw1
                have hb1 : Below wq.heap.size wq w1 := hz ▸ z'.ok
                clear hz gsome
                go_wp2
                go_roundg (F.length - (k + 1))
                case measure => omega
                case rel => exact ⟨Below.step (unhide HWq) hb1, k + 1, by omega, rfl, by go_num, HFF'⟩
              · have dl : decide (x0 ≤ z0) = true := by simp; omega
                have HN := hide (unhide HNO (by rw [unhide EW, decide_eq_false hlt]; rfl))
                clear HFF HYES HNO
                go_wp2
                refine wp_region_grown (by kernel_rfl) (by kernel_rfl) ?_
                repeat (go_big_quiet_step (fail))
                go_big_quiet_want
                go_big_quiet_op
                go_big_quiet_call (exact calls_grown (unhide S1 _))
                repeat (go_big_quiet_step (fail))
                refine wpQuiet_nil ?_
                intro w1 hw1
                obtain ⟨z', hz⟩ := hw1
                have hb1 : Below wq.heap.size wq w1 := hz ▸ z'.ok
                clear hz gsome
                go_wp2
                go_ret
                exact ⟨by rw [unhide HN]; rfl, Below.step (unhide HW) (Below.step (unhide HWq) hb1)⟩
        · have HAF : Hid (chartB ⟨wd, hg, D, F, ed⟩ = true) := by
            show _ = _
            unfold chartB
            dsimp only
            rw [unhide HH, unhide HAD, all_true (xs := List.range F.length) (d := 0) (fun r hr => by
              have hr' : r < F.length := by simpa using hr
              have := unhide HFF r (by omega)
              simpa [List.getD, hr'] using this)]
            rfl
          have hkF : ¬ (k : Int) < F.length := by omega
          go_wp2
          go_ret
          exact ⟨by rw [unhide HAF]; rfl, unhide HA⟩

end Go.Proofs.Ytmpicamenjnkkaa

/- Two rows of one's own beside each other, each appended to; rows of records. -/
namespace Go.Proofs.Ytmpicamenjnkkaa
open Go.RowKit

/-- Two slices that own their rows, which are apart. -/
structure TwoR (N : Nat) (e : TypeId) (size : Nat) (A : World) (v v' : Value) (k k' : Nat) (xs ys : List Value) : Prop where
  a : A.ownsRow N e size v k xs
  b : A.ownsRow N e size v' k' ys
  ne : ∀ g, v.ownBlock = some g → v'.ownBlock ≠ some g

theorem TwoR.symm {N : Nat} {e : TypeId} {size : Nat} {A : World} {v v' : Value} {k k' : Nat} {xs ys : List Value} (h : TwoR N e size A v v' k k' xs ys) : TwoR N e size A v' v k' k ys xs := ⟨h.b, h.a, fun g h1 h2 => h.ne g h2 h1⟩

theorem TwoR.below {N : Nat} {e : TypeId} {size : Nat} {A B : World} {v v' : Value} {k k' : Nat} {xs ys : List Value} (h : TwoR N e size A v v' k k' xs ys) (hb : Below A.heap.size A B) : TwoR N e size B v v' k k' xs ys := ⟨ownsRow_below h.a hb, ownsRow_below h.b hb, h.ne⟩

/-- Behind an append to the first. -/
theorem TwoR.grown {N : Nat} {e : TypeId} {size : Nat} {A B : World} {v v' : Value} {k k' m cap g : Nat} {xs ys zs : List Value} (h : TwoR N e size A v v' k k' xs ys)
    (ho : B.ownsRow N e size (.slice (some ⟨g, 0, none⟩) m cap) m zs) (hg : A.grownBy B v.ownBlock) (hat : v.ownBlock = some g ∨ g = A.heap.size) : TwoR N e size B (.slice (some ⟨g, 0, none⟩) m cap) v' m k' zs ys := by
  refine ⟨ho, h.b.kept hg ?_, fun g' h1 h2 => ?_⟩
  · cases hv : v'.ownBlock with
    | none => exact .inl rfl
    | some b => exact .inr (fun e' => h.ne b e'.symm hv)
  · simp only [Value.ownBlock, Option.some.injEq] at h1
    subst h1
    rcases hat with h3 | h3
    · exact h.ne _ h3 h2
    · have := (h.b.lt _ h2).2; omega

theorem ownsRow_setOther {w : World} {base n size : Nat} {e : TypeId} {v : Value} {xs : List Value} (h : w.ownsRow base e size v n xs) {a : Addr} (hne : v.ownBlock ≠ some a.block) (x : Value) : (w.setCell a x).ownsRow base e size v n xs := by
  obtain ⟨h1, h2⟩ := h
  refine ⟨h1, ?_⟩
  rcases h2 with h2 | ⟨g, cap, cur, rfl, hg, hh, r⟩
  · exact Or.inl h2
  · exact Or.inr ⟨g, cap, cur, rfl, hg, (Below.heap_setCell _ _ _ _ (fun e' => hne (by simp [Value.ownBlock, e']))).trans hh, r⟩

theorem TwoR.setOther {N : Nat} {e : TypeId} {size : Nat} {A : World} {v v' : Value} {k k' : Nat} {xs ys : List Value} (h : TwoR N e size A v v' k k' xs ys) {a : Addr} (h1 : v.ownBlock ≠ some a.block) (h2 : v'.ownBlock ≠ some a.block) (x : Value) : TwoR N e size (A.setCell a x) v v' k k' xs ys := ⟨ownsRow_setOther h.a h1 x, ownsRow_setOther h.b h2 x, h.ne⟩

theorem recCells_snoc (L : List I3) (p : I3) : recCells 3 e3 (L ++ [p]) = recCells 3 e3 L ++ [.int .i64 p.1, .int .i64 p.2.1, .int .i64 p.2.2] := by
  have e : (L ++ [p]).length * 3 = L.length * 3 + 1 + 1 + 1 := by simp; omega
  unfold recCells
  rw [e, List.range_succ, List.range_succ, List.range_succ]
  simp only [List.map_append, List.map_cons, List.map_nil, List.append_assoc, List.cons_append, List.nil_append]
  congr 1
  · apply List.map_congr_left
    intro k hk
    have : k / 3 < L.length := by simp at hk; omega
    simp [List.getD, List.getElem?_append, this]
  · have h0 : L.length * 3 / 3 = L.length := by omega
    have h1 : (L.length * 3 + 1) / 3 = L.length := by omega
    have h2 : (L.length * 3 + 1 + 1) / 3 = L.length := by omega
    have m0 : L.length * 3 % 3 = 0 := by omega
    have m1 : (L.length * 3 + 1) % 3 = 1 := by omega
    have m2 : (L.length * 3 + 1 + 1) % 3 = 2 := by omega
    rw [h0, h1, h2, m0, m1, m2]
    simp [List.getD, e3]

/-- A slice that owns the cells of records reads as they. -/
theorem ownsRow_recs {w : World} {base : Nat} {e : TypeId} {v : Value} {k : Nat} {L : List I3} (h : w.ownsRow base e 3 v k (recCells 3 e3 L)) (hk : L.length = k) : R3 w v L := by
  obtain ⟨h1, h2⟩ := h
  rcases h2 with ⟨rfl, h0⟩ | ⟨g, cap, cur, rfl, hg, hh, hc, hm, hs, ht⟩
  · have : L = [] := List.length_eq_zero_iff.1 (by omega)
    subst this
    exact recsIn_nil
  · subst hk
    refine OwnV.recsIn ⟨cur, e, hh, fun i hi => ?_⟩ hc hm
    rw [recCells_length] at hi
    rw [← ht]
    simp [hi]

end Go.Proofs.Ytmpicamenjnkkaa

/- An append, also a guarded one, behind which the slice that was appended to still holds what it held. -/
namespace Go.Proofs.Ytmpicamenjnkkaa
open Go.RowKit

theorem run_append_keeps {P : Program} (w : World) (t ty : TypeId) (base : Nat) (e : TypeId) (i : TypeInfo) (z : Value) (size bytes : Nat) (ht : P.underlying t = some (.slice e)) (hi : P.info? e = some i) (hz : i.zero = some z)
    (hsize : i.size = size) (hby : i.bytes = bytes) (hzs : z.cells.size = size) (hsz : 0 < size)
    (g n cap : Nat) (xs : List Value) (hown : w.ownsRow base e size (.slice (some ⟨g, 0, none⟩) n cap) n xs)
    (ad : Addr) (m c : Nat) (news : List Value) (hl : news.length = m * size) (hnews : ∀ j u, news[j]? = some u → w.cell? (ad.add j) = some u) (h1 : ∀ u ∈ news, u.oneCell' = true)
    (hm : 0 < m) (h63 : n + m ≤ maxLen) (hbytes : (n + m) * bytes ≤ 140737488355328) (hbase : base ≤ w.heap.size) :
    ∃ g' cap' w', (Builtin.append_ #[t, t] ty #[.slice (some ⟨g, 0, none⟩) n cap, .slice (some ad) m c]).run P w = .ok (.slice (some ⟨g', 0, none⟩) (n + m) cap') w' ∧
      w'.ownsRow base e size (.slice (some ⟨g', 0, none⟩) (n + m) cap') (n + m) (xs ++ news) ∧ w.grownBy w' (some g) ∧ (some g = some g' ∨ g' = w.heap.size) ∧ w'.ownsRow base e size (.slice (some ⟨g, 0, none⟩) n cap) n xs := by
  obtain ⟨g', cap', w', hrun, h2, h3, h4, h5⟩ := run_append_lies (P := P) w t ty base e i z size bytes ht hi hz hsize hby hzs hsz _ n xs hown ad m c news hl hnews h1 hm h63 hbytes hbase _ rfl
  refine ⟨g', cap', w', hrun, h2, h3, h4, ?_⟩
  rcases hown.2 with ⟨hv, _⟩ | ⟨g2, cap2, cur, hv, hg, hh, hc, hmx, hs, htk⟩
  · cases hv
  simp only [Value.slice.injEq, Option.some.injEq, Addr.mk.injEq, and_true, true_and] at hv
  obtain ⟨rfl, rfl⟩ := hv
  refine ⟨hown.1, ?_⟩
  by_cases hroom : n + m ≤ cap
  · have hb : (n + m) * size ≤ cap * size := Nat.mul_le_mul_right _ hroom
    rw [Nat.add_mul] at hb
    have := run_append_room (P := P) w t ty e i ht hi g n cap cur hh ad m c news (by rw [hsize]; exact hl) hnews h1 hroom (by rw [hsize, hs, hl]; omega)
    rw [hrun] at this
    simp only [Result.ok.injEq] at this
    obtain ⟨_, rfl⟩ := this
    refine Or.inr ⟨g, cap, _, rfl, hg, setRow_heap w g cur _ e _ hh, hc, hmx, ?_, ?_⟩
    · simp only [List.size_toArray, List.length_append, List.length_take, List.length_drop, Array.length_toList, hsize, hs, hl]
      omega
    · rw [hsize, htk]
      simp only [List.append_assoc]
      rw [← hown.1]
      exact List.take_left
  · subst hsize
    have := run_append_grow (P := P) w t ty e i z ht hi hz ⟨g, 0, none⟩ n cap xs hown.1 (hown.cells (g := g) rfl) ad m c news hl hnews (by omega) (by unfold maxLen at h63; omega) (growslice_fits (by omega) (by rw [hby]; exact hbytes))
    rw [hrun] at this
    simp only [Result.ok.injEq] at this
    obtain ⟨_, rfl⟩ := this
    exact Or.inr ⟨g, cap, cur, rfl, hg, (heap_alloc_old w.drew _ (Array.getElem?_eq_some_iff.1 hh).1).trans hh, hc, hmx, hs, htk⟩

theorem wpList_append_keeps {P : Program} (w : World) {ops : Array Oper} {rest : List Oper} {o : Oper} {a : Act} {Q : Exit → Act → World → Prop} (hwt : Region.wanted o (yielded ops a.tmps) = true) (s x : Operand) (t : TypeId)
    (ho : o.op = .call { callee := .builtin .append, args := #[s, x], argTypes := #[t, t] })
    (base : Nat) (e : TypeId) (i : TypeInfo) (z : Value) (size bytes : Nat) (ht : P.underlying t = some (.slice e)) (hi : P.info? e = some i) (hz : i.zero = some z)
    (hsize : i.size = size) (hby : i.bytes = bytes) (hzs : z.cells.size = size) (hsz : 0 < size)
    (g n cap : Nat) (xs : List Value) (hs : a.eval s = .slice (some ⟨g, 0, none⟩) n cap) (hown : w.ownsRow base e size (.slice (some ⟨g, 0, none⟩) n cap) n xs)
    (ad : Addr) (m c : Nat) (news : List Value) (hx : a.eval x = .slice (some ad) m c) (hl : news.length = m * size) (hnews : ∀ j u, news[j]? = some u → w.cell? (ad.add j) = some u) (h1 : ∀ u ∈ news, u.oneCell' = true)
    (hm : 0 < m) (h63 : n + m ≤ maxLen) (hbytes : (n + m) * bytes ≤ 140737488355328) (hbase : base ≤ w.heap.size)
    (h : ∀ g' cap' w', w'.ownsRow base e size (.slice (some ⟨g', 0, none⟩) (n + m) cap') (n + m) (xs ++ news) → w.grownBy w' (some g) → (some g = some g' ∨ g' = w.heap.size) → w'.ownsRow base e size (.slice (some ⟨g, 0, none⟩) n cap) n xs →
      wpList P ops Q rest (a.put o.dst (.slice (some ⟨g', 0, none⟩) (n + m) cap')) w') : wpList P ops Q (o :: rest) a w := by
  refine wpList_step fun K hK => ?_
  rw [if_pos hwt]
  obtain ⟨g', cap', w', hr, h2, h3, h4, h5⟩ := run_append_keeps (P := P) w t o.type base e i z size bytes ht hi hz hsize hby hzs hsz g n cap xs hown ad m c news hl hnews h1 hm h63 hbytes hbase
  unfold Oper.wp execOp
  simp only [ho, resolve, invoke, builtin, Sem.run_bind, Sem.run_pure, Result.andThen_ok, List.map_toArray, List.map_cons, List.map_nil, hs, hx, hr]
  exact hK _ _ (h g' cap' w' h2 h3 h4 h5)

end Go.Proofs.Ytmpicamenjnkkaa

/- Contracts of the specification's DepthAt and Shoals. -/
namespace Go.Proofs.Ytmpicamenjnkkaa
open Go.RowKit

def depthAt (c : Ch) (x y : Int) : Int × Bool := if (chartB c && placeB c.wd c.hg x y) = true then (c.D.getD (y * c.wd + x).toNat 0, true) else (0, false)
theorem chartB_head {c : Ch} (h : chartB c = true) : 1 ≤ c.wd ∧ c.wd ≤ 12 ∧ 1 ≤ c.hg ∧ c.hg ≤ 12 ∧ (c.D.length : Int) = c.wd * c.hg ∧ c.F.length ≤ 30 ∧ 0 ≤ c.ed ∧ c.ed ≤ 1000000 := by
  simp only [chartB, headB, inB, Bool.and_eq_true, decide_eq_true_eq] at h
  obtain ⟨⟨⟨⟨⟨⟨⟨h1, h2⟩, h3, h4⟩, h5⟩, h6⟩, h7, h8⟩, _⟩, _⟩ := h
  exact ⟨h1, h2, h3, h4, h5, h6, h7, h8⟩
theorem place_bd {wd hg x y : Int} (h : placeB wd hg x y = true) : 0 ≤ x ∧ x ≤ wd - 1 ∧ 0 ≤ y ∧ y ≤ hg - 1 := by
  simp only [placeB, inB, Bool.and_eq_true, decide_eq_true_eq] at h
  exact ⟨h.1.1, h.1.2, h.2.1, h.2.2⟩
theorem place_lt {wd hg x y : Int} (hw0 : 1 ≤ wd) (hw1 : wd ≤ 12) (hh0 : 1 ≤ hg) (hh1 : hg ≤ 12) (hx0 : 0 ≤ x) (hx1 : x ≤ wd - 1) (hy0 : 0 ≤ y) (hy1 : y ≤ hg - 1) : 0 ≤ y * wd ∧ y * wd ≤ 144 ∧ y * wd + x < wd * hg := by
  have h : wd = 1 ∨ wd = 2 ∨ wd = 3 ∨ wd = 4 ∨ wd = 5 ∨ wd = 6 ∨ wd = 7 ∨ wd = 8 ∨ wd = 9 ∨ wd = 10 ∨ wd = 11 ∨ wd = 12 := by omega
  rcases h with rfl | rfl | rfl | rfl | rfl | rfl | rfl | rfl | rfl | rfl | rfl | rfl <;> omega

def shIs (D : List Int) (need : Int) (i : Nat) : Bool := decide (D.getD i 0 < need)
def shTo (D : List Int) (need : Int) (k : Nat) : List Int := ((List.range k).filter (shIs D need)).map (fun i : Nat => (i : Int))
def shoalsOf (c : Ch) (need : Int) : List Int := if chartB c = true then shTo c.D need c.D.length else []
theorem shTo_len (D : List Int) (need : Int) (k : Nat) : (shTo D need k).length ≤ k := by
  unfold shTo
  rw [List.length_map]
  exact Nat.le_trans (List.length_filter_le _ _) (by simp)
theorem shTo_succ (D : List Int) (need : Int) (k : Nat) : shTo D need (k + 1) = if D.getD k 0 < need then shTo D need k ++ [(k : Int)] else shTo D need k := by
  unfold shTo
  rw [List.range_succ, List.filter_append]
  by_cases h : D.getD k 0 < need
  · have hs : shIs D need k = true := decide_eq_true h
    rw [if_pos h]
    simp [hs]
  · have hs : shIs D need k = false := decide_eq_false h
    rw [if_neg h]
    simp [hs]
theorem own_told {A : World} {B : Nat} {ov : Value} {M N : List Int} (h : A.ownsRow (B + 1) 3 1 ov M.length (ints M)) (e : M = N) : ∃ a n cp, ov = .slice a n cp ∧ OwnSl B A (.slice a n cp) N := by
  subst e
  have ho := (ownsRow_ownSl h).1
  obtain ⟨a, cp, ev, h1, h2, h3⟩ := ho
  subst ev
  refine ⟨a, _, cp, rfl, a, cp, rfl, h1, h2, fun hne => ?_⟩
  obtain ⟨g, e1, hg, ho⟩ := h3 hne
  exact ⟨g, e1, by omega, ho⟩
theorem Try.infoInt6 : (Try.prog.info? 3).map (fun i => (i.zero, i.size, i.bytes)) = some (some (.int .i64 0), 1, 8) := by kernel_rfl

end Go.Proofs.Ytmpicamenjnkkaa

/- Contract of the specification's Near6. -/
namespace Go.Proofs.Ytmpicamenjnkkaa
open Go.RowKit

def nrAt (f : FeatureT) (x y : Int) : Int := ((f.2.2.1 - x).natAbs : Int) + ((f.2.2.2.1 - y).natAbs : Int)
def nearR (F : List FeatureT) (x y : Int) (d : Nat) : Nat → List Int
  | 0 => []
  | k + 1 => if nrAt (F.getD k default) x y = d then nearR F x y d k ++ [(F.getD k default).1] else nearR F x y d k
def nearD (F : List FeatureT) (x y : Int) : Nat → List Int
  | 0 => []
  | d + 1 => nearD F x y d ++ nearR F x y d F.length
def nearOk (c : Ch) (x y far : Int) : Bool := chartB c && placeB c.wd c.hg x y && inB far 0 100
def nearOf (c : Ch) (x y far : Int) : List Int := if nearOk c x y far = true then nearD c.F x y (far.toNat + 1) else []
theorem nearR_len (F : List FeatureT) (x y : Int) (d : Nat) : ∀ k, (nearR F x y d k).length ≤ k
  | 0 => Nat.le_refl _
  | k + 1 => by
    have := nearR_len F x y d k
    rw [nearR]
    split
    · simp; omega
    · omega
theorem nearD_len (F : List FeatureT) (x y : Int) (hF : F.length ≤ 30) : ∀ d, (nearD F x y d).length ≤ d * 30
  | 0 => Nat.le_refl _
  | d + 1 => by
    have := nearD_len F x y hF d
    have := nearR_len F x y d F.length
    rw [nearD, List.length_append]
    omega

theorem feat_bd {c : Ch} (h : chartB c = true) {i : Nat} (hi : i < c.F.length) : 0 ≤ (c.F.getD i default).2.2.1 ∧ (c.F.getD i default).2.2.1 ≤ 11 ∧ 0 ≤ (c.F.getD i default).2.2.2.1 ∧ (c.F.getD i default).2.2.2.1 ≤ 11 := by
  obtain ⟨_, hw1, _, hh1, _⟩ := chartB_head h
  simp only [chartB, Bool.and_eq_true] at h
  have hf := List.all_eq_true.1 h.2 i (by simpa using hi)
  simp only [featsB, featB, placeB, inB, Bool.and_eq_true, decide_eq_true_eq] at hf
  have := hf.1.1.2
  omega

theorem belowB_drewN (B : Nat) (V : World) (n : Nat) : Below B V (V.drewN n) := ⟨rfl, rfl, rfl, Nat.le_refl _, fun _ _ => rfl⟩
end Go.Proofs.Ytmpicamenjnkkaa

/- A chart of the call's own, between two marks of memory, for the laws whose answer is a chart. No statement about the program stands here. -/
namespace Go.Proofs.Ytmpicamenjnkkaa
open Go.RowKit

/-- A chart's two lists of the call's own: blocks apart, from B on and below U; the features' cells are fs. -/
def OwnCh (B U : Nat) (w : World) (da : Option Addr) (dk : Nat) (fa : Option Addr) (fk : Nat) (D : List Int) (F : List FeatureT) (fs : List Value) : Prop :=
  (D.length ≤ dk ∧ dk ≤ maxLen ∧ F.length ≤ fk ∧ fk ≤ maxLen) ∧ ∃ g1 g2, B ≤ g1 ∧ g1 < U ∧ B ≤ g2 ∧ g2 < U ∧ g1 ≠ g2 ∧ U ≤ w.heap.size ∧ (D ≠ [] → da = some ⟨g1, 0, none⟩ ∧ OwnV w g1 (ints D)) ∧ FeAt w fa g2 fs F

section
variable {B U : Nat} {w w' : World} {da fa : Option Addr} {dk fk : Nat} {D : List Int} {F : List FeatureT} {fs : List Value}

theorem OwnCh.below (h : OwnCh B U w da dk fa fk D F fs) (hb : Below w.heap.size w w') : OwnCh B U w' da dk fa fk D F fs := by
  obtain ⟨h0, g1, g2, a1, a2, a3, a4, a5, a6, a7, a8⟩ := h
  exact ⟨h0, g1, g2, a1, a2, a3, a4, a5, Nat.le_trans a6 hb.size, fun hne => ⟨(a7 hne).1, (a7 hne).2.step hb⟩, a8.step hb⟩
theorem OwnCh.kept {T : Nat → Prop} (h : OwnCh B U w da dk fa fk D F fs) (hk : Kept T w w') (hT : ∀ b, B ≤ b → b < U → ¬ T b) : OwnCh B U w' da dk fa fk D F fs := by
  obtain ⟨h0, g1, g2, a1, a2, a3, a4, a5, a6, a7, a8⟩ := h
  exact ⟨h0, g1, g2, a1, a2, a3, a4, a5, Nat.le_trans a6 hk.size, fun hne => ⟨(a7 hne).1, (a7 hne).2.kept hk (hT g1 a1 a2)⟩, a8.kept hk (hT g2 a3 a4)⟩
theorem OwnCh.ints (h : OwnCh B U w da dk fa fk D F fs) : IntsIn w (.slice da D.length dk) D := by
  obtain ⟨⟨h1, h2, _, _⟩, g1, g2, _, _, _, _, _, _, a7, _⟩ := h
  refine ⟨da, dk, rfl, h1, h2, fun i hi => ?_⟩
  obtain ⟨e, ho⟩ := a7 (fun e => by rw [e] at hi; simp at hi)
  exact ⟨g1, 0, e, by rw [Nat.zero_add]; exact ho.cell (ints_get D hi)⟩
theorem OwnCh.feats (h : OwnCh B U w da dk fa fk D F (recCells 5 eFeature F)) : RFeature w (.slice fa F.length fk) F := by
  obtain ⟨⟨_, _, h1, h2⟩, g1, g2, _, _, _, _, _, _, _, a8⟩ := h
  by_cases hne : F = []
  · subst hne
    exact ⟨fa, fk, rfl, h1, h2, fun i hi => by simp at hi⟩
  · obtain ⟨e, ho⟩ := a8 hne
    subst e
    exact OwnV.recsIn ho h1 h2
end

theorem markChart_v (B U : Nat) (wd hg ed : Int) (da : Option Addr) (dk : Nat) (fa : Option Addr) (fk : Nat) (D : List Int) (F : List FeatureT) (w : World) (h : OwnCh B U w da dk fa fk D F (recCells 5 eFeature F)) (hD : D.length ≤ 1048576) (hF : F.length ≤ 1048576) :
    Calls Try.prog 27 #[vChart wd hg (.slice da D.length dk) (.slice fa F.length fk) ed, .int .i64 1] w fun e w' => e = .returned (.int .i64 (1 + D.length + 5 * (F.length : Int))) ∧ Kept (fun b => B ≤ b ∧ b < U) w w' ∧ OwnCh B U w' da dk fa fk (marks 1 D.length) F (feMarks (1 + D.length) F.length) := by
  obtain ⟨⟨h0, h0', h0'', h0'''⟩, g1, g2, a1, a2, a3, a4, a5, a6, a7, a8⟩ := h
  refine (markChart_any wd hg ed da dk fa fk D F g1 g2 1 w a7 a8 a5 (by omega) hD hF (by omega) (by omega)).mono ?_
  rintro e w' ⟨rfl, hk, h1, h2⟩
  have hk' : Kept (fun b => B ≤ b ∧ b < U) w w' := hk.mono fun b _ hb => by rcases hb with rfl | rfl <;> omega
  refine ⟨rfl, hk', ⟨by rw [marks_len]; exact h0, h0', h0'', h0'''⟩, g1, g2, a1, a2, a3, a4, a5, Nat.le_trans a6 hk.size, fun hne => ?_, h2⟩
  have hd : D ≠ [] := fun e => hne (by rw [e]; rfl)
  exact ⟨(a7 hd).1, h1 hd⟩
theorem heldChart_v (B U : Nat) (wd hg ed : Int) (da : Option Addr) (dk : Nat) (fa : Option Addr) (fk : Nat) (D : List Int) (F : List FeatureT) (w : World) (h : OwnCh B U w da dk fa fk (marks 1 D.length) F (feMarks (1 + D.length) F.length)) (hD : D.length ≤ 1048576) (hF : F.length ≤ 1048576) :
    Calls Try.prog 29 #[vChart wd hg (.slice da D.length dk) (.slice fa F.length fk) ed, .int .i64 1] w fun e w' => e = .returned (.int .i64 (1 + D.length + 5 * (F.length : Int))) ∧ Below w.heap.size w w' := by
  have hi := h.ints
  rw [marks_len] at hi
  obtain ⟨_, g1, g2, _, _, _, _, _, _, _, a8⟩ := h
  exact heldChart_any wd hg ed da dk fa fk D F g2 1 w hi a8 hD hF (by omega) (by omega)

end Go.Proofs.Ytmpicamenjnkkaa

/- Contract of the specification's l6Find. -/
namespace Go.Proofs.Ytmpicamenjnkkaa
open Go.RowKit

/-- The place of an Id, from k on among n. -/
def findGo (F : List FeatureT) (id : Int) : Nat → Nat → Int
  | 0, _ => -1
  | n + 1, k => if (F.getD k default).1 = id then (k : Int) else findGo F id n (k + 1)
def findOf (F : List FeatureT) (id : Int) : Int := findGo F id F.length 0

set_option maxRecDepth 10000 in
set_option maxHeartbeats 1600000 in
theorem l6Find_any (wd hg ed : Int) (dv : Value) (fao : Option Addr) (fn fc : Nat) (F : List FeatureT) (id : Int) (w : World) (hF : RFeature w (.slice fao fn fc) F) :
    Calls Try.prog 97 #[vChart wd hg dv (.slice fao fn fc) ed, .int .i64 id] w fun e w' => e = .returned (.int .i64 (findOf F id)) ∧ Below w.heap.size w w' := by
  obtain ⟨fao', fc', eF, hfl, hfm, hfc⟩ := hF
  simp only [Value.slice.injEq] at eF
  obtain ⟨rfl, rfl, rfl⟩ := eF
  unfold maxLen at hfm
  have HFC := hide hfc
  have HW := hide (Below.alloc1 w (.cells #[.int .i64 wd, .int .i64 hg, dv, .slice fao F.length fc, .int .i64 ed] 27))
  have HO := hide (ownV_alloc w #[.int .i64 wd, .int .i64 hg, dv, .slice fao F.length fc, .int .i64 ed] 27)
  obtain ⟨R, eR⟩ : ∃ R, R = findOf F id := ⟨_, rfl⟩
  rw [← eR]
  have ER : Hid (R = findGo F id F.length 0) := eR
  clear hfc eR
  unfold vChart
  go_enter Try.func97, Try.ntmps97
  go_wp2
  obtain ⟨W0, eW⟩ : ∃ z, z = w.alloc (.cells #[.int .i64 wd, .int .i64 hg, dv, .slice fao F.length fc, .int .i64 ed] 27) := ⟨_, rfl⟩
  rw [← eW] at HW HO ⊢
  clear eW
  go_loopg [5] F.length (fun g i wr => W0 = wr ∧ ∃ k : Nat, k ≤ F.length ∧ g = F.length - k ∧ i = .int .i64 k ∧ Hid (R = findGo F id (F.length - k) k))
  case atStart => exact ⟨rfl, 0, Nat.zero_le _, rfl, rfl, ER⟩
  case round =>
    clear ER
    obtain ⟨rfl, k, hk, rfl, rfl, ER⟩ := hrel
    have b3 := (unhide HO).cell (i := 3) rfl
    by_cases hkn : k < F.length
    · obtain ⟨b, o, x0, x1, x2, x3, x4, rfl, hc0, _, _, _, _, EF⟩ := recFeatureAt (unhide HFC) hkn
      have g0 := wcell3 hc0 (unhide HW)
      have hki : (k : Int) < F.length := by omega
      have EX : Hid (R = if x0 = id then (k : Int) else findGo F id (F.length - (k + 1)) (k + 1)) := by
        show _ = _
        rw [unhide ER, show F.length - k = (F.length - (k + 1)) + 1 by omega, findGo, unhide EF]
      clear hc0 EF ER
      by_cases he : x0 = id
      · have EN : Hid (R = (k : Int)) := by show _ = _; rw [unhide EX, if_pos he]
        have d1 : (x0 == id) = true := by simp; exact he
        clear EX he
        go_wp2
        go_ret
        exact ⟨by rw [unhide EN]; rfl, unhide HW⟩
      · have EN : Hid (R = findGo F id (F.length - (k + 1)) (k + 1)) := by show _ = _; rw [unhide EX, if_neg he]
        have d1 : (x0 == id) = false := by simp; exact he
        clear EX he
        go_wp2
        go_roundg (F.length - (k + 1))
        case measure => omega
        case rel => exact ⟨rfl, k + 1, by omega, rfl, by go_num, EN⟩
    · have hkk : k = F.length := by omega
      have hki : ¬ (k : Int) < F.length := by omega
      have EN : Hid (R = -1) := by show _ = _; rw [unhide ER, hkk, Nat.sub_self]; rfl
      clear ER hkk
      go_wp2
      go_ret
      exact ⟨by rw [unhide EN]; rfl, unhide HW⟩

end Go.Proofs.Ytmpicamenjnkkaa

/- Contract of the specification's DoSignal. Written by wip/mk20b.py. -/
import Derived.Test.YtgmhijbepkobkaaHoB
import Derived.Deep.DeepCutAuto
namespace Go.Proofs.Ytgmhijbepkobkaa
open Go.RowKit

set_option maxRecDepth 100000 in
set_option maxHeartbeats 16000000 in
theorem specDo1_any (q ld he lw hg lm rs m : Int) (w : World) (hok : hoB ⟨q, ld, he, lw, hg, lm, rs⟩ = true) :
    Calls Try.prog 36 #[vHoist q ld he lw hg lm rs, vSignal 1 m] w fun e w' => e = .returned (.tuple #[(sigH ⟨q, ld, he, lw, hg, lm, rs⟩ 1 m).1.v, .bool (sigH ⟨q, ld, he, lw, hg, lm, rs⟩ 1 m).2]) ∧ Below w.heap.size w w' := by
  have HOK := hide fun W => specHoistOk_any ⟨q, ld, he, lw, hg, lm, rs⟩ W
  unfold Ho.v vHoist at HOK ⊢
  unfold vSignal
  dsimp only at HOK ⊢
  go_enter Try.func36, Try.ntmps36
  go_upto_region 1 with (fail)
  obtain ⟨g0, eg0⟩ : ∃ z, z = w.heap.size := ⟨_, rfl⟩
  obtain ⟨W0, eW⟩ : ∃ z, z = ((w.alloc (.cells #[.int .i64 q, .int .i64 ld, .int .i64 he, .int .i64 lw, .int .i64 hg, .int .i64 lm, .int .i64 rs] 37)).alloc (.cells #[.int .i64 1, .int .i64 m] 44)).alloc (.cells #[.int .i64 0, .int .i64 0, .int .i64 0, .int .i64 0, .int .i64 0, .int .i64 0, .int .i64 0] 37) := ⟨_, rfl⟩
  have HB := hide (((bk_two w #[.int .i64 q, .int .i64 ld, .int .i64 he, .int .i64 lw, .int .i64 hg, .int .i64 lm, .int .i64 rs] #[.int .i64 1, .int .i64 m] 37 44).made 2 #[.int .i64 0, .int .i64 0, .int .i64 0, .int .i64 0, .int .i64 0, .int .i64 0, .int .i64 0] 37))
  rw [← eW] at HB ⊢
  have HW : Hid (Below w.heap.size w W0) := (unhide HB).below
  have HH : Hid (OwnV W0 g0 [.int .i64 q, .int .i64 ld, .int .i64 he, .int .i64 lw, .int .i64 hg, .int .i64 lm, .int .i64 rs]) := by rw [eg0]; exact (unhide HB).ownV (k := 0) rfl
  have HS : Hid (OwnV W0 (g0 + 1) [.int .i64 1, .int .i64 m]) := by rw [eg0]; exact (unhide HB).ownV (k := 1) rfl
  have HR : Hid (OwnV W0 (g0 + 1 + 1) [.int .i64 0, .int .i64 0, .int .i64 0, .int .i64 0, .int .i64 0, .int .i64 0, .int .i64 0]) := by
    have := ownV_alloc ((w.alloc (.cells #[.int .i64 q, .int .i64 ld, .int .i64 he, .int .i64 lw, .int .i64 hg, .int .i64 lm, .int .i64 rs] 37)).alloc (.cells #[.int .i64 1, .int .i64 m] 44)) #[.int .i64 0, .int .i64 0, .int .i64 0, .int .i64 0, .int .i64 0, .int .i64 0, .int .i64 0] 37
    simp only [World.size_alloc] at this
    rw [eW, eg0]
    exact this
  rw [← eg0]
  have hg0 : w.heap.size ≤ g0 := by omega
  clear HB eW eg0
  obtain ⟨g1, eg1⟩ : ∃ z, z = g0 + 1 := ⟨_, rfl⟩
  rw [← eg1] at HS HR ⊢
  obtain ⟨g2, eg2⟩ : ∃ z, z = g1 + 1 := ⟨_, rfl⟩
  rw [← eg2] at HR ⊢
  have hg1 : g0 < g1 := by omega
  have hg2 : g1 < g2 := by omega
  clear eg1 eg2
  have c0 := (unhide HH).cell (i := 0) rfl
  have c1 := (unhide HH).cell (i := 1) rfl
  have c2 := (unhide HH).cell (i := 2) rfl
  have c3 := (unhide HH).cell (i := 3) rfl
  have c4 := (unhide HH).cell (i := 4) rfl
  have c5 := (unhide HH).cell (i := 5) rfl
  have c6 := (unhide HH).cell (i := 6) rfl
  go_wp2_with fail
  refine (unhide HOK _).mono ?_
  rintro e V1 ⟨rfl, hb⟩
  replace HW := hide (Below.step (unhide HW) hb)
  replace HH := hide (OwnV.step (unhide HH) hb)
  replace HS := hide (OwnV.step (unhide HS) hb)
  replace HR := hide (OwnV.step (unhide HR) hb)
  clear hb c0 c1 c2 c3 c4 c5 c6
  have hg3 : g2 < V1.heap.size := (unhide HR).lt
  have HHO : Hid (∀ b, b = hoB ⟨q, ld, he, lw, hg, lm, rs⟩ → sigH ⟨q, ld, he, lw, hg, lm, rs⟩ 1 m = bif b && inB 1 1 7 then sigR ⟨q, ld, he, lw, hg, lm, rs⟩ 1 m else (⟨q, ld, he, lw, hg, lm, rs⟩, false)) := by
    show ∀ b, _
    rintro b rfl
    rfl
  have HBD : Hid (hoB ⟨q, ld, he, lw, hg, lm, rs⟩ = true → 0 ≤ q ∧ q ≤ 3 ∧ 0 ≤ rs ∧ rs ≤ 1 ∧ 0 ≤ lw ∧ lw ≤ he ∧ he ≤ hg ∧ hg ≤ 10000) := by
    show _ → _
    intro h
    have := hoB_bd h
    dsimp only at this
    omega
  have c0 := (unhide HH).cell (i := 0) rfl
  have c1 := (unhide HH).cell (i := 1) rfl
  have c2 := (unhide HH).cell (i := 2) rfl
  have c3 := (unhide HH).cell (i := 3) rfl
  have c4 := (unhide HH).cell (i := 4) rfl
  have c5 := (unhide HH).cell (i := 5) rfl
  have c6 := (unhide HH).cell (i := 6) rfl
  have s0 := (unhide HS).cell (i := 0) rfl
  have s1 := (unhide HS).cell (i := 1) rfl
  have n0 := (unhide HR).cell (i := 0) rfl
  have n1 := (unhide HR).cell (i := 1) rfl
  have n2 := (unhide HR).cell (i := 2) rfl
  have n3 := (unhide HR).cell (i := 3) rfl
  have n4 := (unhide HR).cell (i := 4) rfl
  have n5 := (unhide HR).cell (i := 5) rfl
  have n6 := (unhide HR).cell (i := 6) rfl
  have nf0 := (unhide HR).frozen 0
  have nf1 := (unhide HR).frozen 1
  have nf2 := (unhide HR).frozen 2
  have nf3 := (unhide HR).frozen 3
  have nf4 := (unhide HR).frozen 4
  have nf5 := (unhide HR).frozen 5
  have nf6 := (unhide HR).frozen 6
  have n20 : g2 ≠ g0 := by omega
  have n21 : g2 ≠ g1 := by omega
  have hk : inB 1 1 7 = true := by decide
  rw [hok]
  have HN := hide (unhide HHO true hok.symm)
  rw [hk] at HN
  obtain ⟨q0, q1, r0, r1, l0, l1, l2, l3⟩ := unhide HBD hok
  obtain ⟨k0, k1⟩ := inB_true hk
  clear hok HHO HBD HOK
  go_upto_region 4 with (first | (go_at_call 57; refine (l1In_any _ _ _ _).mono ?_; rintro e w' ⟨rfl, h9⟩; have h8 := h9.symm; subst h8; clear h9) | fail)
  obtain ⟨V2, eV⟩ : ∃ z, z = V1.alloc (.cells #[.int .i64 q, .int .i64 ld, .int .i64 he, .int .i64 lw, .int .i64 hg, .int .i64 lm, .int .i64 rs] 37) := ⟨_, rfl⟩
  have hb := Below.alloc1 V1 (.cells #[.int .i64 q, .int .i64 ld, .int .i64 he, .int .i64 lw, .int .i64 hg, .int .i64 lm, .int .i64 rs] 37)
  have HX := hide (ownV_alloc V1 #[.int .i64 q, .int .i64 ld, .int .i64 he, .int .i64 lw, .int .i64 hg, .int .i64 lm, .int .i64 rs] 37)
  rw [← eV] at hb HX ⊢
  obtain ⟨g3, eg3⟩ : ∃ z, z = V1.heap.size := ⟨_, rfl⟩
  rw [← eg3] at HX ⊢
  replace HW := hide (Below.step (unhide HW) hb)
  replace HH := hide (OwnV.step (unhide HH) hb)
  replace HS := hide (OwnV.step (unhide HS) hb)
  replace HR := hide (OwnV.step (unhide HR) hb)
  have hg23 : g2 < g3 := by omega
  clear hb eV eg3 hg3 c0 n0 nf0 c1 n1 nf1 c2 n2 nf2 c3 n3 nf3 c4 n4 nf4 c5 n5 nf5 c6 n6 nf6 s0 s1
  have c0 := (unhide HH).cell (i := 0) rfl
  have c1 := (unhide HH).cell (i := 1) rfl
  have c2 := (unhide HH).cell (i := 2) rfl
  have c3 := (unhide HH).cell (i := 3) rfl
  have c4 := (unhide HH).cell (i := 4) rfl
  have c5 := (unhide HH).cell (i := 5) rfl
  have c6 := (unhide HH).cell (i := 6) rfl
  have s0 := (unhide HS).cell (i := 0) rfl
  have s1 := (unhide HS).cell (i := 1) rfl
  have n0 := (unhide HR).cell (i := 0) rfl
  have n1 := (unhide HR).cell (i := 1) rfl
  have n2 := (unhide HR).cell (i := 2) rfl
  have n3 := (unhide HR).cell (i := 3) rfl
  have n4 := (unhide HR).cell (i := 4) rfl
  have n5 := (unhide HR).cell (i := 5) rfl
  have n6 := (unhide HR).cell (i := 6) rfl
  have nf0 := (unhide HR).frozen 0
  have nf1 := (unhide HR).frozen 1
  have nf2 := (unhide HR).frozen 2
  have nf3 := (unhide HR).frozen 3
  have nf4 := (unhide HR).frozen 4
  have nf5 := (unhide HR).frozen 5
  have nf6 := (unhide HR).frozen 6
  have e0 := (unhide HX).cell (i := 0) rfl
  have e1 := (unhide HX).cell (i := 1) rfl
  have e2 := (unhide HX).cell (i := 2) rfl
  have e3 := (unhide HX).cell (i := 3) rfl
  have e4 := (unhide HX).cell (i := 4) rfl
  have e5 := (unhide HX).cell (i := 5) rfl
  have e6 := (unhide HX).cell (i := 6) rfl
  have ef0 := (unhide HX).frozen 0
  have ef1 := (unhide HX).frozen 1
  have ef2 := (unhide HX).frozen 2
  have ef3 := (unhide HX).frozen 3
  have ef4 := (unhide HX).frozen 4
  have ef5 := (unhide HX).frozen 5
  have ef6 := (unhide HX).frozen 6
  have n30 : g3 ≠ g0 := by omega
  have n31 : g3 ≠ g1 := by omega
  have n32 : g3 ≠ g2 := by omega
  have n23 : g2 ≠ g3 := by omega
  have hqq : q = 0 ∨ q = 1 ∨ q = 2 ∨ q = 3 := by omega
  have hrr : rs = 0 ∨ rs = 1 := by omega
  clear q0 q1 r0 r1 hk k0 k1
  by_cases e3 : q = 3
  · subst e3
    have HF : Hid (sigH ⟨3, ld, he, lw, hg, lm, rs⟩ 1 m = (⟨3, ld, he, lw, hg, lm, rs⟩, false)) := (unhide HN).trans (by simp [sigR])
    clear HN
    go_wp2_with (first | (go_at_call 57; refine (l1In_any _ _ _ _).mono ?_; rintro e w' ⟨rfl, h9⟩; have h8 := h9.symm; subst h8; clear h9) | fail)
    refine bodyPost_ret (v := .tuple #[vHoist 3 ld he lw hg lm rs, .bool false]) (by simp [results, Try.results36, go_sem, vHoist, n0, n1, n2, n3, n4, n5, n6]) rfl ⟨?_, ?_⟩
    · rw [unhide HF]
      rfl
    · repeat (refine Below.setCell ?_ (by dsimp only; omega) _)
      exact unhide HW
  by_cases a1 : ld ≤ lm
  · by_cases a2 : he < hg
    · by_cases e2 : q = 2
      · subst e2
        have HF : Hid (sigH ⟨2, ld, he, lw, hg, lm, rs⟩ 1 m = (⟨2, ld, he, lw, hg, lm, rs⟩, false)) := (unhide HN).trans (by simp [sigR, a1, a2])
        clear HN
        have HI := hide fun W => l20If_any (Ho.mk 2 ld he lw hg lm rs) (Ho.mk 1 ld he lw hg lm rs) false W
        unfold Ho.v vHoist at HI
        dsimp only [cond_true, cond_false] at HI
        go_upto_region 30 with (fail)
        obtain ⟨V3, eV⟩ : ∃ z, z = V2.setCell ⟨g3, 0, none⟩ (.int .i64 1) := ⟨_, rfl⟩
        have hW3 : Hid (Below w.heap.size w V3) := by rw [eV]; exact (unhide HW).setCell (by dsimp only; omega) _
        have hR3 : Hid (OwnV V3 g2 [.int .i64 0, .int .i64 0, .int .i64 0, .int .i64 0, .int .i64 0, .int .i64 0, .int .i64 0]) := by rw [eV]; exact (unhide HR).other (by dsimp only; omega) _
        have hH3 : Hid (OwnV V3 g0 [.int .i64 2, .int .i64 ld, .int .i64 he, .int .i64 lw, .int .i64 hg, .int .i64 lm, .int .i64 rs]) := by rw [eV]; exact (unhide HH).other (by dsimp only; omega) _
        have hX3 : Hid (OwnV V3 g3 [.int .i64 1, .int .i64 ld, .int .i64 he, .int .i64 lw, .int .i64 hg, .int .i64 lm, .int .i64 rs]) := by rw [eV]; exact (unhide HX).set 0 _ (by simp)
        rw [← eV]
        clear eV HW HR HH HS HX c0 n0 nf0 e0 ef0 c1 n1 nf1 e1 ef1 c2 n2 nf2 e2 ef2 c3 n3 nf3 e3 ef3 c4 n4 nf4 e4 ef4 c5 n5 nf5 e5 ef5 c6 n6 nf6 e6 ef6 s0 s1
        have c0 := (unhide hH3).cell (i := 0) rfl
        have c1 := (unhide hH3).cell (i := 1) rfl
        have c2 := (unhide hH3).cell (i := 2) rfl
        have c3 := (unhide hH3).cell (i := 3) rfl
        have c4 := (unhide hH3).cell (i := 4) rfl
        have c5 := (unhide hH3).cell (i := 5) rfl
        have c6 := (unhide hH3).cell (i := 6) rfl
        have e0 := (unhide hX3).cell (i := 0) rfl
        have e1 := (unhide hX3).cell (i := 1) rfl
        have e2 := (unhide hX3).cell (i := 2) rfl
        have e3 := (unhide hX3).cell (i := 3) rfl
        have e4 := (unhide hX3).cell (i := 4) rfl
        have e5 := (unhide hX3).cell (i := 5) rfl
        have e6 := (unhide hX3).cell (i := 6) rfl
        go_wp2_with fail
        refine (unhide HI _).mono ?_
        rintro e V4 ⟨rfl, hb⟩
        have HW := hide (Below.step (unhide hW3) hb)
        have HR := hide (OwnV.step (unhide hR3) hb)
        clear hb hW3 hR3 hH3 hX3 HI c0 e0 c1 e1 c2 e2 c3 e3 c4 e4 c5 e5 c6 e6
        have n0 := (unhide HR).cell (i := 0) rfl
        have n1 := (unhide HR).cell (i := 1) rfl
        have n2 := (unhide HR).cell (i := 2) rfl
        have n3 := (unhide HR).cell (i := 3) rfl
        have n4 := (unhide HR).cell (i := 4) rfl
        have n5 := (unhide HR).cell (i := 5) rfl
        have n6 := (unhide HR).cell (i := 6) rfl
        have nf0 := (unhide HR).frozen 0
        have nf1 := (unhide HR).frozen 1
        have nf2 := (unhide HR).frozen 2
        have nf3 := (unhide HR).frozen 3
        have nf4 := (unhide HR).frozen 4
        have nf5 := (unhide HR).frozen 5
        have nf6 := (unhide HR).frozen 6
        go_wp2_with (first | (go_at_call 57; refine (l1In_any _ _ _ _).mono ?_; rintro e w' ⟨rfl, h9⟩; have h8 := h9.symm; subst h8; clear h9) | fail)
        refine bodyPost_ret (v := .tuple #[vHoist 2 ld he lw hg lm rs, .bool false]) (by simp [results, Try.results36, go_sem, vHoist, n0, n1, n2, n3, n4, n5, n6]) rfl ⟨?_, ?_⟩
        · rw [unhide HF]
          rfl
        · repeat (refine Below.setCell ?_ (by dsimp only; omega) _)
          exact unhide HW
      have hq3 : ¬ q = 3 := by omega
      have b3 : (q == 3) = false := by simp; omega
      have hq2 : ¬ q = 2 := by omega
      have b2 : (q == 2) = false := by simp; omega
      have m2 : (q != 2) = true := by simp; omega
      have HF : Hid (sigH ⟨q, ld, he, lw, hg, lm, rs⟩ 1 m = (⟨1, ld, he, lw, hg, lm, rs⟩, true)) := (unhide HN).trans (by simp [sigR, a1, a2, hq3, hq2])
      clear HN
      have HI := hide fun W => l20If_any (Ho.mk q ld he lw hg lm rs) (Ho.mk 1 ld he lw hg lm rs) true W
      unfold Ho.v vHoist at HI
      dsimp only [cond_true, cond_false] at HI
      go_upto_region 30 with (fail)
      obtain ⟨V3, eV⟩ : ∃ z, z = V2.setCell ⟨g3, 0, none⟩ (.int .i64 1) := ⟨_, rfl⟩
      have hW3 : Hid (Below w.heap.size w V3) := by rw [eV]; exact (unhide HW).setCell (by dsimp only; omega) _
      have hR3 : Hid (OwnV V3 g2 [.int .i64 0, .int .i64 0, .int .i64 0, .int .i64 0, .int .i64 0, .int .i64 0, .int .i64 0]) := by rw [eV]; exact (unhide HR).other (by dsimp only; omega) _
      have hH3 : Hid (OwnV V3 g0 [.int .i64 q, .int .i64 ld, .int .i64 he, .int .i64 lw, .int .i64 hg, .int .i64 lm, .int .i64 rs]) := by rw [eV]; exact (unhide HH).other (by dsimp only; omega) _
      have hX3 : Hid (OwnV V3 g3 [.int .i64 1, .int .i64 ld, .int .i64 he, .int .i64 lw, .int .i64 hg, .int .i64 lm, .int .i64 rs]) := by rw [eV]; exact (unhide HX).set 0 _ (by simp)
      rw [← eV]
      clear eV HW HR HH HS HX c0 n0 nf0 e0 ef0 c1 n1 nf1 e1 ef1 c2 n2 nf2 e2 ef2 c3 n3 nf3 e3 ef3 c4 n4 nf4 e4 ef4 c5 n5 nf5 e5 ef5 c6 n6 nf6 e6 ef6 s0 s1
      have c0 := (unhide hH3).cell (i := 0) rfl
      have c1 := (unhide hH3).cell (i := 1) rfl
      have c2 := (unhide hH3).cell (i := 2) rfl
      have c3 := (unhide hH3).cell (i := 3) rfl
      have c4 := (unhide hH3).cell (i := 4) rfl
      have c5 := (unhide hH3).cell (i := 5) rfl
      have c6 := (unhide hH3).cell (i := 6) rfl
      have e0 := (unhide hX3).cell (i := 0) rfl
      have e1 := (unhide hX3).cell (i := 1) rfl
      have e2 := (unhide hX3).cell (i := 2) rfl
      have e3 := (unhide hX3).cell (i := 3) rfl
      have e4 := (unhide hX3).cell (i := 4) rfl
      have e5 := (unhide hX3).cell (i := 5) rfl
      have e6 := (unhide hX3).cell (i := 6) rfl
      go_wp2_with fail
      refine (unhide HI _).mono ?_
      rintro e V4 ⟨rfl, hb⟩
      have HW := hide (Below.step (unhide hW3) hb)
      have HR := hide (OwnV.step (unhide hR3) hb)
      clear hb hW3 hR3 hH3 hX3 HI c0 e0 c1 e1 c2 e2 c3 e3 c4 e4 c5 e5 c6 e6
      have n0 := (unhide HR).cell (i := 0) rfl
      have n1 := (unhide HR).cell (i := 1) rfl
      have n2 := (unhide HR).cell (i := 2) rfl
      have n3 := (unhide HR).cell (i := 3) rfl
      have n4 := (unhide HR).cell (i := 4) rfl
      have n5 := (unhide HR).cell (i := 5) rfl
      have n6 := (unhide HR).cell (i := 6) rfl
      have nf0 := (unhide HR).frozen 0
      have nf1 := (unhide HR).frozen 1
      have nf2 := (unhide HR).frozen 2
      have nf3 := (unhide HR).frozen 3
      have nf4 := (unhide HR).frozen 4
      have nf5 := (unhide HR).frozen 5
      have nf6 := (unhide HR).frozen 6
      go_wp2_with (first | (go_at_call 57; refine (l1In_any _ _ _ _).mono ?_; rintro e w' ⟨rfl, h9⟩; have h8 := h9.symm; subst h8; clear h9) | fail)
      refine bodyPost_ret (v := .tuple #[vHoist 1 ld he lw hg lm rs, .bool true]) (by simp [results, Try.results36, go_sem, vHoist, n0, n1, n2, n3, n4, n5, n6]) rfl ⟨?_, ?_⟩
      · rw [unhide HF]
        rfl
      · repeat (refine Below.setCell ?_ (by dsimp only; omega) _)
        exact unhide HW
    have hq3 : ¬ q = 3 := by omega
    have b3 : (q == 3) = false := by simp; omega
    have d2 : decide (he < hg) = false := decide_eq_false a2
    have HF : Hid (sigH ⟨q, ld, he, lw, hg, lm, rs⟩ 1 m = (⟨q, ld, he, lw, hg, lm, rs⟩, false)) := (unhide HN).trans (by simp [sigR, a2, e3])
    clear HN
    have HI := hide fun W => l20If_any (Ho.mk q ld he lw hg lm rs) (Ho.mk 1 ld he lw hg lm rs) false W
    unfold Ho.v vHoist at HI
    dsimp only [cond_true, cond_false] at HI
    go_upto_region 30 with (fail)
    obtain ⟨V3, eV⟩ : ∃ z, z = V2.setCell ⟨g3, 0, none⟩ (.int .i64 1) := ⟨_, rfl⟩
    have hW3 : Hid (Below w.heap.size w V3) := by rw [eV]; exact (unhide HW).setCell (by dsimp only; omega) _
    have hR3 : Hid (OwnV V3 g2 [.int .i64 0, .int .i64 0, .int .i64 0, .int .i64 0, .int .i64 0, .int .i64 0, .int .i64 0]) := by rw [eV]; exact (unhide HR).other (by dsimp only; omega) _
    have hH3 : Hid (OwnV V3 g0 [.int .i64 q, .int .i64 ld, .int .i64 he, .int .i64 lw, .int .i64 hg, .int .i64 lm, .int .i64 rs]) := by rw [eV]; exact (unhide HH).other (by dsimp only; omega) _
    have hX3 : Hid (OwnV V3 g3 [.int .i64 1, .int .i64 ld, .int .i64 he, .int .i64 lw, .int .i64 hg, .int .i64 lm, .int .i64 rs]) := by rw [eV]; exact (unhide HX).set 0 _ (by simp)
    rw [← eV]
    clear eV HW HR HH HS HX c0 n0 nf0 e0 ef0 c1 n1 nf1 e1 ef1 c2 n2 nf2 e2 ef2 c3 n3 nf3 e3 ef3 c4 n4 nf4 e4 ef4 c5 n5 nf5 e5 ef5 c6 n6 nf6 e6 ef6 s0 s1
    have c0 := (unhide hH3).cell (i := 0) rfl
    have c1 := (unhide hH3).cell (i := 1) rfl
    have c2 := (unhide hH3).cell (i := 2) rfl
    have c3 := (unhide hH3).cell (i := 3) rfl
    have c4 := (unhide hH3).cell (i := 4) rfl
    have c5 := (unhide hH3).cell (i := 5) rfl
    have c6 := (unhide hH3).cell (i := 6) rfl
    have e0 := (unhide hX3).cell (i := 0) rfl
    have e1 := (unhide hX3).cell (i := 1) rfl
    have e2 := (unhide hX3).cell (i := 2) rfl
    have e3 := (unhide hX3).cell (i := 3) rfl
    have e4 := (unhide hX3).cell (i := 4) rfl
    have e5 := (unhide hX3).cell (i := 5) rfl
    have e6 := (unhide hX3).cell (i := 6) rfl
    go_wp2_with fail
    refine (unhide HI _).mono ?_
    rintro e V4 ⟨rfl, hb⟩
    have HW := hide (Below.step (unhide hW3) hb)
    have HR := hide (OwnV.step (unhide hR3) hb)
    clear hb hW3 hR3 hH3 hX3 HI c0 e0 c1 e1 c2 e2 c3 e3 c4 e4 c5 e5 c6 e6
    have n0 := (unhide HR).cell (i := 0) rfl
    have n1 := (unhide HR).cell (i := 1) rfl
    have n2 := (unhide HR).cell (i := 2) rfl
    have n3 := (unhide HR).cell (i := 3) rfl
    have n4 := (unhide HR).cell (i := 4) rfl
    have n5 := (unhide HR).cell (i := 5) rfl
    have n6 := (unhide HR).cell (i := 6) rfl
    have nf0 := (unhide HR).frozen 0
    have nf1 := (unhide HR).frozen 1
    have nf2 := (unhide HR).frozen 2
    have nf3 := (unhide HR).frozen 3
    have nf4 := (unhide HR).frozen 4
    have nf5 := (unhide HR).frozen 5
    have nf6 := (unhide HR).frozen 6
    go_wp2_with (first | (go_at_call 57; refine (l1In_any _ _ _ _).mono ?_; rintro e w' ⟨rfl, h9⟩; have h8 := h9.symm; subst h8; clear h9) | fail)
    refine bodyPost_ret (v := .tuple #[vHoist q ld he lw hg lm rs, .bool false]) (by simp [results, Try.results36, go_sem, vHoist, n0, n1, n2, n3, n4, n5, n6]) rfl ⟨?_, ?_⟩
    · rw [unhide HF]
      rfl
    · repeat (refine Below.setCell ?_ (by dsimp only; omega) _)
      exact unhide HW
  have hq3 : ¬ q = 3 := by omega
  have b3 : (q == 3) = false := by simp; omega
  have d1 : decide (ld ≤ lm) = false := decide_eq_false a1
  have HF : Hid (sigH ⟨q, ld, he, lw, hg, lm, rs⟩ 1 m = (⟨q, ld, he, lw, hg, lm, rs⟩, false)) := (unhide HN).trans (by simp [sigR, a1, e3])
  clear HN
  have HI := hide fun W => l20If_any (Ho.mk q ld he lw hg lm rs) (Ho.mk 1 ld he lw hg lm rs) false W
  unfold Ho.v vHoist at HI
  dsimp only [cond_true, cond_false] at HI
  go_upto_region 30 with (fail)
  obtain ⟨V3, eV⟩ : ∃ z, z = V2.setCell ⟨g3, 0, none⟩ (.int .i64 1) := ⟨_, rfl⟩
  have hW3 : Hid (Below w.heap.size w V3) := by rw [eV]; exact (unhide HW).setCell (by dsimp only; omega) _
  have hR3 : Hid (OwnV V3 g2 [.int .i64 0, .int .i64 0, .int .i64 0, .int .i64 0, .int .i64 0, .int .i64 0, .int .i64 0]) := by rw [eV]; exact (unhide HR).other (by dsimp only; omega) _
  have hH3 : Hid (OwnV V3 g0 [.int .i64 q, .int .i64 ld, .int .i64 he, .int .i64 lw, .int .i64 hg, .int .i64 lm, .int .i64 rs]) := by rw [eV]; exact (unhide HH).other (by dsimp only; omega) _
  have hX3 : Hid (OwnV V3 g3 [.int .i64 1, .int .i64 ld, .int .i64 he, .int .i64 lw, .int .i64 hg, .int .i64 lm, .int .i64 rs]) := by rw [eV]; exact (unhide HX).set 0 _ (by simp)
  rw [← eV]
  clear eV HW HR HH HS HX c0 n0 nf0 e0 ef0 c1 n1 nf1 e1 ef1 c2 n2 nf2 e2 ef2 c3 n3 nf3 e3 ef3 c4 n4 nf4 e4 ef4 c5 n5 nf5 e5 ef5 c6 n6 nf6 e6 ef6 s0 s1
  have c0 := (unhide hH3).cell (i := 0) rfl
  have c1 := (unhide hH3).cell (i := 1) rfl
  have c2 := (unhide hH3).cell (i := 2) rfl
  have c3 := (unhide hH3).cell (i := 3) rfl
  have c4 := (unhide hH3).cell (i := 4) rfl
  have c5 := (unhide hH3).cell (i := 5) rfl
  have c6 := (unhide hH3).cell (i := 6) rfl
  have e0 := (unhide hX3).cell (i := 0) rfl
  have e1 := (unhide hX3).cell (i := 1) rfl
  have e2 := (unhide hX3).cell (i := 2) rfl
  have e3 := (unhide hX3).cell (i := 3) rfl
  have e4 := (unhide hX3).cell (i := 4) rfl
  have e5 := (unhide hX3).cell (i := 5) rfl
  have e6 := (unhide hX3).cell (i := 6) rfl
  go_wp2_with fail
  refine (unhide HI _).mono ?_
  rintro e V4 ⟨rfl, hb⟩
  have HW := hide (Below.step (unhide hW3) hb)
  have HR := hide (OwnV.step (unhide hR3) hb)
  clear hb hW3 hR3 hH3 hX3 HI c0 e0 c1 e1 c2 e2 c3 e3 c4 e4 c5 e5 c6 e6
  have n0 := (unhide HR).cell (i := 0) rfl
  have n1 := (unhide HR).cell (i := 1) rfl
  have n2 := (unhide HR).cell (i := 2) rfl
  have n3 := (unhide HR).cell (i := 3) rfl
  have n4 := (unhide HR).cell (i := 4) rfl
  have n5 := (unhide HR).cell (i := 5) rfl
  have n6 := (unhide HR).cell (i := 6) rfl
  have nf0 := (unhide HR).frozen 0
  have nf1 := (unhide HR).frozen 1
  have nf2 := (unhide HR).frozen 2
  have nf3 := (unhide HR).frozen 3
  have nf4 := (unhide HR).frozen 4
  have nf5 := (unhide HR).frozen 5
  have nf6 := (unhide HR).frozen 6
  go_wp2_with (first | (go_at_call 57; refine (l1In_any _ _ _ _).mono ?_; rintro e w' ⟨rfl, h9⟩; have h8 := h9.symm; subst h8; clear h9) | fail)
  refine bodyPost_ret (v := .tuple #[vHoist q ld he lw hg lm rs, .bool false]) (by simp [results, Try.results36, go_sem, vHoist, n0, n1, n2, n3, n4, n5, n6]) rfl ⟨?_, ?_⟩
  · rw [unhide HF]
    rfl
  · repeat (refine Below.setCell ?_ (by dsimp only; omega) _)
    exact unhide HW

end Go.Proofs.Ytgmhijbepkobkaa

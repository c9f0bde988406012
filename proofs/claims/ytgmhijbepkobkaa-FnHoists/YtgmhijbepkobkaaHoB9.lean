/- Contract of the specification's DoSignal. Written by wip/mk20b.py. -/
import Derived.Test.YtgmhijbepkobkaaHoB1
import Derived.Test.YtgmhijbepkobkaaHoB2
import Derived.Test.YtgmhijbepkobkaaHoB3
import Derived.Test.YtgmhijbepkobkaaHoB7
import Derived.Deep.DeepCutAuto
namespace Go.Proofs.Ytgmhijbepkobkaa
open Go.RowKit

set_option maxRecDepth 100000 in
set_option maxHeartbeats 16000000 in
theorem specDoSignal_any (h : Ho) (k m : Int) (w : World) :
    Calls Try.prog 36 #[h.v, vSignal k m] w fun e w' => e = .returned (.tuple #[(sigH h k m).1.v, .bool (sigH h k m).2]) ∧ Below w.heap.size w w' := by
  obtain ⟨q, ld, he, lw, hg, lm, rs⟩ := h
  by_cases hgood : hoB ⟨q, ld, he, lw, hg, lm, rs⟩ = true ∧ inB k 1 7 = true
  · obtain ⟨hok, hk⟩ := hgood
    obtain ⟨k0, k1⟩ := inB_true hk
    have hkk : k = 1 ∨ k = 2 ∨ k = 3 ∨ k = 4 ∨ k = 5 ∨ k = 6 ∨ k = 7 := by omega
    rcases hkk with rfl | rfl | rfl | rfl | rfl | rfl | rfl
    · exact specDo1_any q ld he lw hg lm rs m w hok
    · exact specDo2_any q ld he lw hg lm rs m w hok
    · exact specDo3_any q ld he lw hg lm rs m w hok
    · exact specDo4_any q ld he lw hg lm rs m w hok
    · exact specDo5_any q ld he lw hg lm rs m w hok
    · exact specDo6_any q ld he lw hg lm rs m w hok
    · exact specDo7_any q ld he lw hg lm rs m w hok
  have HOK := hide fun W => specHoistOk_any ⟨q, ld, he, lw, hg, lm, rs⟩ W
  unfold Ho.v vHoist at HOK ⊢
  unfold vSignal
  dsimp only at HOK ⊢
  go_enter Try.func36, Try.ntmps36
  go_upto_region 1 with (fail)
  obtain ⟨g0, eg0⟩ : ∃ z, z = w.heap.size := ⟨_, rfl⟩
  obtain ⟨W0, eW⟩ : ∃ z, z = ((w.alloc (.cells #[.int .i64 q, .int .i64 ld, .int .i64 he, .int .i64 lw, .int .i64 hg, .int .i64 lm, .int .i64 rs] 37)).alloc (.cells #[.int .i64 k, .int .i64 m] 44)).alloc (.cells #[.int .i64 0, .int .i64 0, .int .i64 0, .int .i64 0, .int .i64 0, .int .i64 0, .int .i64 0] 37) := ⟨_, rfl⟩
  have HB := hide (((bk_two w #[.int .i64 q, .int .i64 ld, .int .i64 he, .int .i64 lw, .int .i64 hg, .int .i64 lm, .int .i64 rs] #[.int .i64 k, .int .i64 m] 37 44).made 2 #[.int .i64 0, .int .i64 0, .int .i64 0, .int .i64 0, .int .i64 0, .int .i64 0, .int .i64 0] 37))
  rw [← eW] at HB ⊢
  have HW : Hid (Below w.heap.size w W0) := (unhide HB).below
  have HH : Hid (OwnV W0 g0 [.int .i64 q, .int .i64 ld, .int .i64 he, .int .i64 lw, .int .i64 hg, .int .i64 lm, .int .i64 rs]) := by rw [eg0]; exact (unhide HB).ownV (k := 0) rfl
  have HS : Hid (OwnV W0 (g0 + 1) [.int .i64 k, .int .i64 m]) := by rw [eg0]; exact (unhide HB).ownV (k := 1) rfl
  have HR : Hid (OwnV W0 (g0 + 1 + 1) [.int .i64 0, .int .i64 0, .int .i64 0, .int .i64 0, .int .i64 0, .int .i64 0, .int .i64 0]) := by
    have := ownV_alloc ((w.alloc (.cells #[.int .i64 q, .int .i64 ld, .int .i64 he, .int .i64 lw, .int .i64 hg, .int .i64 lm, .int .i64 rs] 37)).alloc (.cells #[.int .i64 k, .int .i64 m] 44)) #[.int .i64 0, .int .i64 0, .int .i64 0, .int .i64 0, .int .i64 0, .int .i64 0, .int .i64 0] 37
    simp only [World.size_alloc] at this
    rw [eW, eg0]
    exact this
  rw [← eg0]
  have hg0 : w.heap.size ≤ g0 := by omega
  clear HB eW eg0
  obtain ⟨g1, eg1⟩ : ∃ z, z = g0 + 1 := ⟨_, rfl⟩
  rw [← eg1] at HS HR ⊢
  obtain ⟨g2, eg2⟩ : ∃ z, z = g1 + 1 := ⟨_, rfl⟩
  rw [← eg2] at HR ⊢
  have hg1 : g0 < g1 := by omega
  have hg2 : g1 < g2 := by omega
  clear eg1 eg2
  have c0 := (unhide HH).cell (i := 0) rfl
  have c1 := (unhide HH).cell (i := 1) rfl
  have c2 := (unhide HH).cell (i := 2) rfl
  have c3 := (unhide HH).cell (i := 3) rfl
  have c4 := (unhide HH).cell (i := 4) rfl
  have c5 := (unhide HH).cell (i := 5) rfl
  have c6 := (unhide HH).cell (i := 6) rfl
  go_wp2_with fail
  refine (unhide HOK _).mono ?_
  rintro e V1 ⟨rfl, hb⟩
  replace HW := hide (Below.step (unhide HW) hb)
  replace HH := hide (OwnV.step (unhide HH) hb)
  replace HS := hide (OwnV.step (unhide HS) hb)
  replace HR := hide (OwnV.step (unhide HR) hb)
  clear hb c0 c1 c2 c3 c4 c5 c6
  have hg3 : g2 < V1.heap.size := (unhide HR).lt
  have HHO : Hid (∀ b, b = hoB ⟨q, ld, he, lw, hg, lm, rs⟩ → sigH ⟨q, ld, he, lw, hg, lm, rs⟩ k m = bif b && inB k 1 7 then sigR ⟨q, ld, he, lw, hg, lm, rs⟩ k m else (⟨q, ld, he, lw, hg, lm, rs⟩, false)) := by
    show ∀ b, _
    rintro b rfl
    rfl
  have HBD : Hid (hoB ⟨q, ld, he, lw, hg, lm, rs⟩ = true → 0 ≤ q ∧ q ≤ 3 ∧ 0 ≤ rs ∧ rs ≤ 1 ∧ 0 ≤ lw ∧ lw ≤ he ∧ he ≤ hg ∧ hg ≤ 10000) := by
    show _ → _
    intro h
    have := hoB_bd h
    dsimp only at this
    omega
  have c0 := (unhide HH).cell (i := 0) rfl
  have c1 := (unhide HH).cell (i := 1) rfl
  have c2 := (unhide HH).cell (i := 2) rfl
  have c3 := (unhide HH).cell (i := 3) rfl
  have c4 := (unhide HH).cell (i := 4) rfl
  have c5 := (unhide HH).cell (i := 5) rfl
  have c6 := (unhide HH).cell (i := 6) rfl
  have s0 := (unhide HS).cell (i := 0) rfl
  have s1 := (unhide HS).cell (i := 1) rfl
  have n0 := (unhide HR).cell (i := 0) rfl
  have n1 := (unhide HR).cell (i := 1) rfl
  have n2 := (unhide HR).cell (i := 2) rfl
  have n3 := (unhide HR).cell (i := 3) rfl
  have n4 := (unhide HR).cell (i := 4) rfl
  have n5 := (unhide HR).cell (i := 5) rfl
  have n6 := (unhide HR).cell (i := 6) rfl
  have nf0 := (unhide HR).frozen 0
  have nf1 := (unhide HR).frozen 1
  have nf2 := (unhide HR).frozen 2
  have nf3 := (unhide HR).frozen 3
  have nf4 := (unhide HR).frozen 4
  have nf5 := (unhide HR).frozen 5
  have nf6 := (unhide HR).frozen 6
  have n20 : g2 ≠ g0 := by omega
  have n21 : g2 ≠ g1 := by omega
  cases hok : hoB ⟨q, ld, he, lw, hg, lm, rs⟩
  · have HN := hide (unhide HHO false hok.symm)
    clear hok HHO HBD
    go_wp2_with (first | (go_at_call 57; refine (l1In_any _ _ _ _).mono ?_; rintro e w' ⟨rfl, h9⟩; have h8 := h9.symm; subst h8; clear h9) | fail)
    refine bodyPost_ret (v := .tuple #[vHoist q ld he lw hg lm rs, .bool false]) (by simp [results, Try.results36, go_sem, vHoist, n0, n1, n2, n3, n4, n5, n6]) rfl ⟨?_, ?_⟩
    · rw [unhide HN]
      rfl
    · repeat (refine Below.setCell ?_ (by dsimp only; omega) _)
      exact unhide HW
  cases hk : inB k 1 7
  · have HN := hide (unhide HHO true hok.symm)
    rw [hk] at HN
    clear hok HHO HBD
    go_wp2_with (first | (go_at_call 57; refine (l1In_any _ _ _ _).mono ?_; rintro e w' ⟨rfl, h9⟩; have h8 := h9.symm; subst h8; clear h9) | fail)
    refine bodyPost_ret (v := .tuple #[vHoist q ld he lw hg lm rs, .bool false]) (by simp [results, Try.results36, go_sem, vHoist, n0, n1, n2, n3, n4, n5, n6]) rfl ⟨?_, ?_⟩
    · rw [unhide HN]
      rfl
    · repeat (refine Below.setCell ?_ (by dsimp only; omega) _)
      exact unhide HW
  exact absurd ⟨hok, hk⟩ hgood

end Go.Proofs.Ytgmhijbepkobkaa

/- FnExactAlike: at every argument the program's Alike answers as the specification's. Written by wip/mkexact4.py. -/
import Derived.Test.YteohkabenbaaaaaFlI3
import Derived.Test.YteohkabenbaaaaaFlJ
import Derived.Deep.RegionHeld3
import Derived.Deep.DeepCutAuto
namespace Go.Proofs.Yteohkabenbaaaaa
open Go.RowKit

attribute [local go_sem] run_store_float run_store_complex

set_option maxHeartbeats 8000000 in
theorem lawAlike_any (x0 y0 x1 y1 : Nat) (w : World) :
    Calls Try.prog 13 #[vW x0 y0, vW x1 y1] w fun e w' => e = .returned (.bool true) ∧ Below w.heap.size w w' := by
  have HT := hide (two_new w (.float .f64 x0) (.float .f64 y0) (.float .f64 x1) (.float .f64 y1) 55 55)
  have Hspec := hide fun V => specAlike_any x0 y0 x1 y1 V
  have Himpl := hide fun V => implAlike_any x0 y0 x1 y1 V
  obtain ⟨ok, eok⟩ : ∃ b, b = alikeB x0 y0 x1 y1 := ⟨_, rfl⟩
  rw [← eok] at Hspec Himpl
  clear eok
  have HTO := hide fun x y V => toWave_any x y V
  simp only [vW] at Hspec Himpl HTO ⊢
  go_enter Try.func13, Try.ntmps13
  go_wp2
  obtain ⟨W0, e0⟩ : ∃ x, x = (w.alloc (.cells #[.float .f64 x0, .float .f64 y0] 55)).alloc (.cells #[.float .f64 x1, .float .f64 y1] 55) := ⟨_, rfl⟩
  rw [← e0] at HT ⊢
  clear e0
  have c0 := (unhide HT).o1.cell (i := 0) rfl
  have c1 := (unhide HT).o1.cell (i := 1) rfl
  have c2 := (unhide HT).o2.cell (i := 0) rfl
  have c3 := (unhide HT).o2.cell (i := 1) rfl
  go_cut [5] (fun sl wx => sl = .bool ok ∧ Hid (Two w wx (.float .f64 x0) (.float .f64 y0) (.float .f64 x1) (.float .f64 y1)))
  case first =>
    go_region_held3 (fun w' => w'.cell? ⟨w.heap.size, 0, none⟩ = some (.float .f64 x0) ∧ w'.cell? ⟨w.heap.size, 1, none⟩ = some (.float .f64 y0) ∧ w'.cell? ⟨w.heap.size + 1, 0, none⟩ = some (.float .f64 x1) ∧ w'.cell? ⟨w.heap.size + 1, 1, none⟩ = some (.float .f64 y1)) (go_keep) (first | (go_at_call 39; refine (unhide HTO _ _ _).mono ?_; rintro e wt ⟨rfl, hb⟩; have hgq := (unhide HT).o2.lt; (first | (have HT' := hide ((unhide HT).step hb)) | (have HT' := hide ((unhide HT).step (below_undrew' hb))) | (have HT' := hide ((unhide HT).step (Below.step (Below.alloc1 _ _) hb)); have HN := hide (OwnV.step (ownV_alloc _ _ _) hb); have hgN := hgq; obtain ⟨⟨m1, m2⟩, m3, m4⟩ := two_apart hgq) | (have HT' := hide ((unhide HT).step (Below.step (Below.alloc1 _ _) (below_undrew' hb))); have HN := hide (OwnV.step (OwnV.drew (ownV_alloc _ _ _)) hb); have hgN := hgq; obtain ⟨⟨m1, m2⟩, m3, m4⟩ := two_apart hgq)); replace HT := HT'; clear HT' hgq; (try replace HN := hide (OwnV.step (unhide HN) hb)); (try (have n0 := (unhide HN).cell (i := 0) rfl; have n1 := (unhide HN).cell (i := 1) rfl; have nf := (unhide HN).frozen)); have f0 := (unhide HT).o1.cell (i := 0) rfl; have f1 := (unhide HT).o1.cell (i := 1) rfl; have f2 := (unhide HT).o2.cell (i := 0) rfl; have f3 := (unhide HT).o2.cell (i := 1) rfl; clear hb) | (go_at_call 48; refine (unhide Hspec _).mono ?_; rintro e wr ⟨rfl, hb⟩; have hgq := (unhide HT).o2.lt; (first | (have HT' := hide ((unhide HT).step hb)) | (have HT' := hide ((unhide HT).step (below_undrew' hb))) | (have HT' := hide ((unhide HT).step (Below.step (Below.alloc1 _ _) hb)); have HN := hide (OwnV.step (ownV_alloc _ _ _) hb); have hgN := hgq; obtain ⟨⟨m1, m2⟩, m3, m4⟩ := two_apart hgq) | (have HT' := hide ((unhide HT).step (Below.step (Below.alloc1 _ _) (below_undrew' hb))); have HN := hide (OwnV.step (OwnV.drew (ownV_alloc _ _ _)) hb); have hgN := hgq; obtain ⟨⟨m1, m2⟩, m3, m4⟩ := two_apart hgq)); replace HT := HT'; clear HT' hgq; (try replace HN := hide (OwnV.step (unhide HN) hb)); (try (have n0 := (unhide HN).cell (i := 0) rfl; have n1 := (unhide HN).cell (i := 1) rfl; have nf := (unhide HN).frozen)); have f0 := (unhide HT).o1.cell (i := 0) rfl; have f1 := (unhide HT).o1.cell (i := 1) rfl; have f2 := (unhide HT).o2.cell (i := 0) rfl; have f3 := (unhide HT).o2.cell (i := 1) rfl; clear hb))
    all_goals
      go_wp2_with fail
      go_meet
      exact ⟨rfl, HT⟩
  case rest =>
  obtain ⟨rfl, HT⟩ := hcut
  clear c0 c1 c2 c3 Hspec
  go_wp2
  have c0 := (unhide HT).o1.cell (i := 0) rfl
  have c1 := (unhide HT).o1.cell (i := 1) rfl
  have c2 := (unhide HT).o2.cell (i := 0) rfl
  have c3 := (unhide HT).o2.cell (i := 1) rfl
  go_cut [6] (fun sl wx => sl = .bool ok ∧ Hid (Two w wx (.float .f64 x0) (.float .f64 y0) (.float .f64 x1) (.float .f64 y1)))
  case first =>
    go_region_held3 (fun w' => w'.cell? ⟨w.heap.size, 0, none⟩ = some (.float .f64 x0) ∧ w'.cell? ⟨w.heap.size, 1, none⟩ = some (.float .f64 y0) ∧ w'.cell? ⟨w.heap.size + 1, 0, none⟩ = some (.float .f64 x1) ∧ w'.cell? ⟨w.heap.size + 1, 1, none⟩ = some (.float .f64 y1)) (go_keep) (first | (go_at_call 39; refine (unhide HTO _ _ _).mono ?_; rintro e wt ⟨rfl, hb⟩; have hgq := (unhide HT).o2.lt; (first | (have HT' := hide ((unhide HT).step hb)) | (have HT' := hide ((unhide HT).step (below_undrew' hb))) | (have HT' := hide ((unhide HT).step (Below.step (Below.alloc1 _ _) hb)); have HN := hide (OwnV.step (ownV_alloc _ _ _) hb); have hgN := hgq; obtain ⟨⟨m1, m2⟩, m3, m4⟩ := two_apart hgq) | (have HT' := hide ((unhide HT).step (Below.step (Below.alloc1 _ _) (below_undrew' hb))); have HN := hide (OwnV.step (OwnV.drew (ownV_alloc _ _ _)) hb); have hgN := hgq; obtain ⟨⟨m1, m2⟩, m3, m4⟩ := two_apart hgq)); replace HT := HT'; clear HT' hgq; (try replace HN := hide (OwnV.step (unhide HN) hb)); (try (have n0 := (unhide HN).cell (i := 0) rfl; have n1 := (unhide HN).cell (i := 1) rfl; have nf := (unhide HN).frozen)); have f0 := (unhide HT).o1.cell (i := 0) rfl; have f1 := (unhide HT).o1.cell (i := 1) rfl; have f2 := (unhide HT).o2.cell (i := 0) rfl; have f3 := (unhide HT).o2.cell (i := 1) rfl; clear hb) | (go_at_call 30; refine (unhide Himpl _).mono ?_; rintro e wr ⟨rfl, hb⟩; have hgq := (unhide HT).o2.lt; (first | (have HT' := hide ((unhide HT).step hb)) | (have HT' := hide ((unhide HT).step (below_undrew' hb))) | (have HT' := hide ((unhide HT).step (Below.step (Below.alloc1 _ _) hb)); have HN := hide (OwnV.step (ownV_alloc _ _ _) hb); have hgN := hgq; obtain ⟨⟨m1, m2⟩, m3, m4⟩ := two_apart hgq) | (have HT' := hide ((unhide HT).step (Below.step (Below.alloc1 _ _) (below_undrew' hb))); have HN := hide (OwnV.step (OwnV.drew (ownV_alloc _ _ _)) hb); have hgN := hgq; obtain ⟨⟨m1, m2⟩, m3, m4⟩ := two_apart hgq)); replace HT := HT'; clear HT' hgq; (try replace HN := hide (OwnV.step (unhide HN) hb)); (try (have n0 := (unhide HN).cell (i := 0) rfl; have n1 := (unhide HN).cell (i := 1) rfl; have nf := (unhide HN).frozen)); have f0 := (unhide HT).o1.cell (i := 0) rfl; have f1 := (unhide HT).o1.cell (i := 1) rfl; have f2 := (unhide HT).o2.cell (i := 0) rfl; have f3 := (unhide HT).o2.cell (i := 1) rfl; clear hb))
    all_goals
      go_wp2_with fail
      go_meet
      exact ⟨rfl, HT⟩
  case rest =>
  obtain ⟨rfl, HT⟩ := hcut
  clear c0 c1 c2 c3 Himpl
  have HW := hide (unhide HT).below
  go_wp2
  go_ret
  exact ⟨rfl, unhide HW⟩

end Go.Proofs.Yteohkabenbaaaaa

/- FnExactOver: at every argument the program's Over answers as the specification's. Written by wip/mkexact4.py. -/
import Derived.Test.YteohkabenbaaaaaFlI4
import Derived.Test.YteohkabenbaaaaaFlJ
import Derived.Deep.RegionHeld3
import Derived.Deep.DeepCutAuto
namespace Go.Proofs.Yteohkabenbaaaaa
open Go.RowKit

attribute [local go_sem] run_store_float run_store_complex

set_option maxHeartbeats 8000000 in
theorem lawOver_any (x0 y0 x1 y1 : Nat) (gx0 : x0 < 18446744073709551616) (gy0 : y0 < 18446744073709551616) (gx1 : x1 < 18446744073709551616) (gy1 : y1 < 18446744073709551616) (w : World) :
    Calls Try.prog 12 #[vW x0 y0, vW x1 y1] w fun e w' => e = .returned (.bool true) ∧ Below w.heap.size w w' := by
  have HT := hide (two_new w (.float .f64 x0) (.float .f64 y0) (.float .f64 x1) (.float .f64 y1) 55 55)
  have Hspec := hide fun V => specOver_any x0 y0 x1 y1 V
  have Himpl := hide fun V => implOver_any x0 y0 x1 y1 gx0 gy0 gx1 gy1 V
  clear gx0 gy0 gx1 gy1
  obtain ⟨ok, eok⟩ : ∃ b, b = overOk x0 y0 x1 y1 := ⟨_, rfl⟩
  rw [← eok] at Hspec Himpl
  clear eok
  have HTO := hide fun x y V => toWave_any x y V
  simp only [vW] at Hspec Himpl HTO ⊢
  go_enter Try.func12, Try.ntmps12
  go_wp2
  obtain ⟨W0, e0⟩ : ∃ x, x = (w.alloc (.cells #[.float .f64 x0, .float .f64 y0] 55)).alloc (.cells #[.float .f64 x1, .float .f64 y1] 55) := ⟨_, rfl⟩
  rw [← e0] at HT ⊢
  clear e0
  have c0 := (unhide HT).o1.cell (i := 0) rfl
  have c1 := (unhide HT).o1.cell (i := 1) rfl
  have c2 := (unhide HT).o2.cell (i := 0) rfl
  have c3 := (unhide HT).o2.cell (i := 1) rfl
  go_cut [5, 6] (fun sl sb wx => ∃ g r s, sl = .pointer (some ⟨g, 0, none⟩) ∧ fsame .f64 r (overRe x0 y0 x1 y1) ∧ fsame .f64 s (overIm x0 y0 x1 y1) ∧ w.heap.size + 1 < g ∧ Hid (OwnV wx g [.float .f64 r, .float .f64 s]) ∧ Hid (Two w wx (.float .f64 x0) (.float .f64 y0) (.float .f64 x1) (.float .f64 y1)) ∧ sb = .bool ok)
  case first =>
    go_region_held3 (fun w' => w'.cell? ⟨w.heap.size, 0, none⟩ = some (.float .f64 x0) ∧ w'.cell? ⟨w.heap.size, 1, none⟩ = some (.float .f64 y0) ∧ w'.cell? ⟨w.heap.size + 1, 0, none⟩ = some (.float .f64 x1) ∧ w'.cell? ⟨w.heap.size + 1, 1, none⟩ = some (.float .f64 y1)) (go_keep) (first | (go_at_call 39; refine (unhide HTO _ _ _).mono ?_; rintro e wt ⟨rfl, hb⟩; have hgq := (unhide HT).o2.lt; (first | (have HT' := hide ((unhide HT).step hb)) | (have HT' := hide ((unhide HT).step (below_undrew' hb))) | (have HT' := hide ((unhide HT).step (Below.step (Below.alloc1 _ _) hb)); have HN := hide (OwnV.step (ownV_alloc _ _ _) hb); have hgN := hgq; obtain ⟨⟨m1, m2⟩, m3, m4⟩ := two_apart hgq) | (have HT' := hide ((unhide HT).step (Below.step (Below.alloc1 _ _) (below_undrew' hb))); have HN := hide (OwnV.step (OwnV.drew (ownV_alloc _ _ _)) hb); have hgN := hgq; obtain ⟨⟨m1, m2⟩, m3, m4⟩ := two_apart hgq)); replace HT := HT'; clear HT' hgq; (try replace HN := hide (OwnV.step (unhide HN) hb)); (try (have n0 := (unhide HN).cell (i := 0) rfl; have n1 := (unhide HN).cell (i := 1) rfl; have nf := (unhide HN).frozen)); have f0 := (unhide HT).o1.cell (i := 0) rfl; have f1 := (unhide HT).o1.cell (i := 1) rfl; have f2 := (unhide HT).o2.cell (i := 0) rfl; have f3 := (unhide HT).o2.cell (i := 1) rfl; clear hb) | (go_at_call 47; refine (unhide Hspec _).mono ?_; rintro e wr ⟨r, s, rfl, hr, hs, hb⟩; have hgq := (unhide HT).o2.lt; (first | (have HT' := hide ((unhide HT).step hb)) | (have HT' := hide ((unhide HT).step (below_undrew' hb))) | (have HT' := hide ((unhide HT).step (Below.step (Below.alloc1 _ _) hb)); have HN := hide (OwnV.step (ownV_alloc _ _ _) hb); have hgN := hgq; obtain ⟨⟨m1, m2⟩, m3, m4⟩ := two_apart hgq) | (have HT' := hide ((unhide HT).step (Below.step (Below.alloc1 _ _) (below_undrew' hb))); have HN := hide (OwnV.step (OwnV.drew (ownV_alloc _ _ _)) hb); have hgN := hgq; obtain ⟨⟨m1, m2⟩, m3, m4⟩ := two_apart hgq)); replace HT := HT'; clear HT' hgq; (try replace HN := hide (OwnV.step (unhide HN) hb)); (try (have n0 := (unhide HN).cell (i := 0) rfl; have n1 := (unhide HN).cell (i := 1) rfl; have nf := (unhide HN).frozen)); have f0 := (unhide HT).o1.cell (i := 0) rfl; have f1 := (unhide HT).o1.cell (i := 1) rfl; have f2 := (unhide HT).o2.cell (i := 0) rfl; have f3 := (unhide HT).o2.cell (i := 1) rfl; clear hb))
    all_goals
      go_wp2_with fail
      go_meet
      first
        | exact ⟨_, _, _, rfl, hr, hs, (unhide HT).o2.lt, ownV_alloc _ _ _, (unhide HT).step (Below.alloc1 _ _), rfl⟩
        | exact ⟨_, _, _, rfl, hr, hs, hgN, (OwnV.set (unhide HN) 0 _ (by simp)).set 1 _ (by simp), ((unhide HT).put hgN 0 _).put hgN 1 _, rfl⟩
  case rest =>
  obtain ⟨gspec, rspec, sspec, rfl, hrspec, hsspec, hlspec, HGspec, HT, rfl⟩ := hcut
  clear c0 c1 c2 c3 Hspec
  go_wp2
  have c0 := (unhide HT).o1.cell (i := 0) rfl
  have c1 := (unhide HT).o1.cell (i := 1) rfl
  have c2 := (unhide HT).o2.cell (i := 0) rfl
  have c3 := (unhide HT).o2.cell (i := 1) rfl
  go_cut [7, 8] (fun sl sb wx => ∃ g r s, sl = .pointer (some ⟨g, 0, none⟩) ∧ fsame .f64 r (overRe x0 y0 x1 y1) ∧ fsame .f64 s (overIm x0 y0 x1 y1) ∧ w.heap.size + 1 < g ∧ ¬ g = gspec ∧ Hid (OwnV wx g [.float .f64 r, .float .f64 s]) ∧ Hid (Two w wx (.float .f64 x0) (.float .f64 y0) (.float .f64 x1) (.float .f64 y1)) ∧ Hid (OwnV wx gspec [.float .f64 rspec, .float .f64 sspec]) ∧ sb = .bool ok)
  case first =>
    go_region_held3 (fun w' => w'.cell? ⟨w.heap.size, 0, none⟩ = some (.float .f64 x0) ∧ w'.cell? ⟨w.heap.size, 1, none⟩ = some (.float .f64 y0) ∧ w'.cell? ⟨w.heap.size + 1, 0, none⟩ = some (.float .f64 x1) ∧ w'.cell? ⟨w.heap.size + 1, 1, none⟩ = some (.float .f64 y1)) (go_keep) (first | (go_at_call 39; refine (unhide HTO _ _ _).mono ?_; rintro e wt ⟨rfl, hb⟩; have hgq := (unhide HT).o2.lt; (first | (have HT' := hide ((unhide HT).step hb); have HGspec' := hide (OwnV.step (unhide HGspec) hb)) | (have HT' := hide ((unhide HT).step (below_undrew' hb)); have HGspec' := hide (OwnV.step (unhide HGspec) (below_undrew' hb))) | (have HT' := hide ((unhide HT).step (Below.step (Below.alloc1 _ _) hb)); have HGspec' := hide (OwnV.step (unhide HGspec) (Below.step (Below.alloc1 _ _) hb)); have HN := hide (OwnV.step (ownV_alloc _ _ _) hb); have hgN := hgq; obtain ⟨⟨m1, m2⟩, m3, m4⟩ := two_apart hgq; have lHGspec := (unhide HGspec).lt) | (have HT' := hide ((unhide HT).step (Below.step (Below.alloc1 _ _) (below_undrew' hb))); have HGspec' := hide (OwnV.step (unhide HGspec) (Below.step (Below.alloc1 _ _) (below_undrew' hb))); have HN := hide (OwnV.step (OwnV.drew (ownV_alloc _ _ _)) hb); have hgN := hgq; obtain ⟨⟨m1, m2⟩, m3, m4⟩ := two_apart hgq; have lHGspec := (unhide HGspec).lt)); replace HT := HT'; clear HT' hgq; replace HGspec := HGspec'; clear HGspec'; (try replace HN := hide (OwnV.step (unhide HN) hb)); (try (have n0 := (unhide HN).cell (i := 0) rfl; have n1 := (unhide HN).cell (i := 1) rfl; have nf := (unhide HN).frozen)); have f0 := (unhide HT).o1.cell (i := 0) rfl; have f1 := (unhide HT).o1.cell (i := 1) rfl; have f2 := (unhide HT).o2.cell (i := 0) rfl; have f3 := (unhide HT).o2.cell (i := 1) rfl; clear hb) | (go_at_call 29; refine (unhide Himpl _).mono ?_; rintro e wr ⟨r, s, rfl, hr, hs, hb⟩; have hgq := (unhide HT).o2.lt; (first | (have HT' := hide ((unhide HT).step hb); have HGspec' := hide (OwnV.step (unhide HGspec) hb)) | (have HT' := hide ((unhide HT).step (below_undrew' hb)); have HGspec' := hide (OwnV.step (unhide HGspec) (below_undrew' hb))) | (have HT' := hide ((unhide HT).step (Below.step (Below.alloc1 _ _) hb)); have HGspec' := hide (OwnV.step (unhide HGspec) (Below.step (Below.alloc1 _ _) hb)); have HN := hide (OwnV.step (ownV_alloc _ _ _) hb); have hgN := hgq; obtain ⟨⟨m1, m2⟩, m3, m4⟩ := two_apart hgq; have lHGspec := (unhide HGspec).lt) | (have HT' := hide ((unhide HT).step (Below.step (Below.alloc1 _ _) (below_undrew' hb))); have HGspec' := hide (OwnV.step (unhide HGspec) (Below.step (Below.alloc1 _ _) (below_undrew' hb))); have HN := hide (OwnV.step (OwnV.drew (ownV_alloc _ _ _)) hb); have hgN := hgq; obtain ⟨⟨m1, m2⟩, m3, m4⟩ := two_apart hgq; have lHGspec := (unhide HGspec).lt)); replace HT := HT'; clear HT' hgq; replace HGspec := HGspec'; clear HGspec'; (try replace HN := hide (OwnV.step (unhide HN) hb)); (try (have n0 := (unhide HN).cell (i := 0) rfl; have n1 := (unhide HN).cell (i := 1) rfl; have nf := (unhide HN).frozen)); have f0 := (unhide HT).o1.cell (i := 0) rfl; have f1 := (unhide HT).o1.cell (i := 1) rfl; have f2 := (unhide HT).o2.cell (i := 0) rfl; have f3 := (unhide HT).o2.cell (i := 1) rfl; clear hb))
    all_goals
      go_wp2_with fail
      go_meet
      first
        | exact ⟨_, _, _, rfl, hr, hs, (unhide HT).o2.lt, by have := (unhide HGspec).lt; omega, ownV_alloc _ _ _, (unhide HT).step (Below.alloc1 _ _), OwnV.step (unhide HGspec) (Below.alloc1 _ _), rfl⟩
        | exact ⟨_, _, _, rfl, hr, hs, hgN, by omega, (OwnV.set (unhide HN) 0 _ (by simp)).set 1 _ (by simp), ((unhide HT).put hgN 0 _).put hgN 1 _, OwnV.far (OwnV.far (unhide HGspec) (by omega) 0 _) (by omega) 1 _, rfl⟩
  case rest =>
  obtain ⟨gimpl, rimpl, simpl, rfl, hrimpl, hsimpl, hlimpl, hnespec, HGimpl, HT, HGspec, rfl⟩ := hcut
  clear c0 c1 c2 c3 Himpl
  have HW := hide (unhide HT).below
  have HEQ := hide fun V => eqWave_any rimpl simpl rspec sspec V (hrimpl.trans hrspec.symm) (hsimpl.trans hsspec.symm)
  simp only [vW] at HEQ
  have d0 := (unhide HGspec).cell (i := 0) rfl
  have d1 := (unhide HGspec).cell (i := 1) rfl
  have d2 := (unhide HGimpl).cell (i := 0) rfl
  have d3 := (unhide HGimpl).cell (i := 1) rfl
  go_wp2_with fail
  refine (unhide HEQ _).mono ?_
  rintro e we ⟨rfl, hb⟩
  replace HW := hide (Below.step (unhide HW) hb)
  clear hb
  go_wp2
  go_ret
  exact ⟨rfl, unhide HW⟩

end Go.Proofs.Yteohkabenbaaaaa

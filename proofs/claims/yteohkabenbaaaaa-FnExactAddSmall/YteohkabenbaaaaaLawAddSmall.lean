/- FnExactAddSmall: at every argument the program's AddSmall answers as the specification's. Written by wip/mkexact4.py. -/
import Derived.Test.YteohkabenbaaaaaFlI3
import Derived.Test.YteohkabenbaaaaaFlJ
import Derived.Deep.RegionHeld3
import Derived.Deep.DeepCutAuto
namespace Go.Proofs.Yteohkabenbaaaaa
open Go.RowKit

attribute [local go_sem] run_store_float run_store_complex

set_option maxHeartbeats 8000000 in
theorem lawAddSmall_any (x0 y0 x1 y1 : Nat) (w : World) :
    Calls Try.prog 8 #[vS x0 y0, vS x1 y1] w fun e w' => e = .returned (.bool true) ∧ Below w.heap.size w w' := by
  have HT := hide (two_new w (.float .f32 x0) (.float .f32 y0) (.float .f32 x1) (.float .f32 y1) 52 52)
  have Hspec := hide fun V => specAddSmall_any x0 y0 x1 y1 V
  have Himpl := hide fun V => implAddSmall_any x0 y0 x1 y1 V
  have HTO := hide fun x y V => toSmall_any x y V
  simp only [vS] at Hspec Himpl HTO ⊢
  go_enter Try.func8, Try.ntmps8
  go_wp2
  obtain ⟨W0, e0⟩ : ∃ x, x = (w.alloc (.cells #[.float .f32 x0, .float .f32 y0] 52)).alloc (.cells #[.float .f32 x1, .float .f32 y1] 52) := ⟨_, rfl⟩
  rw [← e0] at HT ⊢
  clear e0
  have c0 := (unhide HT).o1.cell (i := 0) rfl
  have c1 := (unhide HT).o1.cell (i := 1) rfl
  have c2 := (unhide HT).o2.cell (i := 0) rfl
  have c3 := (unhide HT).o2.cell (i := 1) rfl
  go_cut [5] (fun sl wx => ∃ g r s, sl = .pointer (some ⟨g, 0, none⟩) ∧ fsame .f32 r (fop .add .f32 x0 x1) ∧ fsame .f32 s (fop .add .f32 y0 y1) ∧ w.heap.size + 1 < g ∧ Hid (OwnV wx g [.float .f32 r, .float .f32 s]) ∧ Hid (Two w wx (.float .f32 x0) (.float .f32 y0) (.float .f32 x1) (.float .f32 y1)))
  case first =>
    go_region_held3 (fun w' => w'.cell? ⟨w.heap.size, 0, none⟩ = some (.float .f32 x0) ∧ w'.cell? ⟨w.heap.size, 1, none⟩ = some (.float .f32 y0) ∧ w'.cell? ⟨w.heap.size + 1, 0, none⟩ = some (.float .f32 x1) ∧ w'.cell? ⟨w.heap.size + 1, 1, none⟩ = some (.float .f32 y1)) (go_keep) (first | (go_at_call 36; refine (unhide HTO _ _ _).mono ?_; rintro e wt ⟨rfl, hb⟩; have hgq := (unhide HT).o2.lt; (first | (have HT' := hide ((unhide HT).step hb)) | (have HT' := hide ((unhide HT).step (below_undrew' hb))) | (have HT' := hide ((unhide HT).step (Below.step (Below.alloc1 _ _) hb)); have HN := hide (OwnV.step (ownV_alloc _ _ _) hb); have hgN := hgq; obtain ⟨⟨m1, m2⟩, m3, m4⟩ := two_apart hgq) | (have HT' := hide ((unhide HT).step (Below.step (Below.alloc1 _ _) (below_undrew' hb))); have HN := hide (OwnV.step (OwnV.drew (ownV_alloc _ _ _)) hb); have hgN := hgq; obtain ⟨⟨m1, m2⟩, m3, m4⟩ := two_apart hgq)); replace HT := HT'; clear HT' hgq; (try replace HN := hide (OwnV.step (unhide HN) hb)); (try (have n0 := (unhide HN).cell (i := 0) rfl; have n1 := (unhide HN).cell (i := 1) rfl; have nf := (unhide HN).frozen)); have f0 := (unhide HT).o1.cell (i := 0) rfl; have f1 := (unhide HT).o1.cell (i := 1) rfl; have f2 := (unhide HT).o2.cell (i := 0) rfl; have f3 := (unhide HT).o2.cell (i := 1) rfl; clear hb) | (go_at_call 41; refine (unhide Hspec _).mono ?_; rintro e wr ⟨r, s, rfl, hr, hs, hb⟩; have hgq := (unhide HT).o2.lt; (first | (have HT' := hide ((unhide HT).step hb)) | (have HT' := hide ((unhide HT).step (below_undrew' hb))) | (have HT' := hide ((unhide HT).step (Below.step (Below.alloc1 _ _) hb)); have HN := hide (OwnV.step (ownV_alloc _ _ _) hb); have hgN := hgq; obtain ⟨⟨m1, m2⟩, m3, m4⟩ := two_apart hgq) | (have HT' := hide ((unhide HT).step (Below.step (Below.alloc1 _ _) (below_undrew' hb))); have HN := hide (OwnV.step (OwnV.drew (ownV_alloc _ _ _)) hb); have hgN := hgq; obtain ⟨⟨m1, m2⟩, m3, m4⟩ := two_apart hgq)); replace HT := HT'; clear HT' hgq; (try replace HN := hide (OwnV.step (unhide HN) hb)); (try (have n0 := (unhide HN).cell (i := 0) rfl; have n1 := (unhide HN).cell (i := 1) rfl; have nf := (unhide HN).frozen)); have f0 := (unhide HT).o1.cell (i := 0) rfl; have f1 := (unhide HT).o1.cell (i := 1) rfl; have f2 := (unhide HT).o2.cell (i := 0) rfl; have f3 := (unhide HT).o2.cell (i := 1) rfl; clear hb))
    all_goals
      go_wp2_with fail
      go_meet
      first
        | exact ⟨_, _, _, rfl, hr, hs, (unhide HT).o2.lt, ownV_alloc _ _ _, (unhide HT).step (Below.alloc1 _ _)⟩
        | exact ⟨_, _, _, rfl, hr, hs, hgN, (OwnV.set (unhide HN) 0 _ (by simp)).set 1 _ (by simp), ((unhide HT).put hgN 0 _).put hgN 1 _⟩
  case rest =>
  obtain ⟨gspec, rspec, sspec, rfl, hrspec, hsspec, hlspec, HGspec, HT⟩ := hcut
  clear c0 c1 c2 c3 Hspec
  go_wp2
  have c0 := (unhide HT).o1.cell (i := 0) rfl
  have c1 := (unhide HT).o1.cell (i := 1) rfl
  have c2 := (unhide HT).o2.cell (i := 0) rfl
  have c3 := (unhide HT).o2.cell (i := 1) rfl
  go_cut [6] (fun sl wx => ∃ g r s, sl = .pointer (some ⟨g, 0, none⟩) ∧ fsame .f32 r (fop .add .f32 x0 x1) ∧ fsame .f32 s (fop .add .f32 y0 y1) ∧ w.heap.size + 1 < g ∧ ¬ g = gspec ∧ Hid (OwnV wx g [.float .f32 r, .float .f32 s]) ∧ Hid (Two w wx (.float .f32 x0) (.float .f32 y0) (.float .f32 x1) (.float .f32 y1)) ∧ Hid (OwnV wx gspec [.float .f32 rspec, .float .f32 sspec]))
  case first =>
    go_region_held3 (fun w' => w'.cell? ⟨w.heap.size, 0, none⟩ = some (.float .f32 x0) ∧ w'.cell? ⟨w.heap.size, 1, none⟩ = some (.float .f32 y0) ∧ w'.cell? ⟨w.heap.size + 1, 0, none⟩ = some (.float .f32 x1) ∧ w'.cell? ⟨w.heap.size + 1, 1, none⟩ = some (.float .f32 y1)) (go_keep) (first | (go_at_call 36; refine (unhide HTO _ _ _).mono ?_; rintro e wt ⟨rfl, hb⟩; have hgq := (unhide HT).o2.lt; (first | (have HT' := hide ((unhide HT).step hb); have HGspec' := hide (OwnV.step (unhide HGspec) hb)) | (have HT' := hide ((unhide HT).step (below_undrew' hb)); have HGspec' := hide (OwnV.step (unhide HGspec) (below_undrew' hb))) | (have HT' := hide ((unhide HT).step (Below.step (Below.alloc1 _ _) hb)); have HGspec' := hide (OwnV.step (unhide HGspec) (Below.step (Below.alloc1 _ _) hb)); have HN := hide (OwnV.step (ownV_alloc _ _ _) hb); have hgN := hgq; obtain ⟨⟨m1, m2⟩, m3, m4⟩ := two_apart hgq; have lHGspec := (unhide HGspec).lt) | (have HT' := hide ((unhide HT).step (Below.step (Below.alloc1 _ _) (below_undrew' hb))); have HGspec' := hide (OwnV.step (unhide HGspec) (Below.step (Below.alloc1 _ _) (below_undrew' hb))); have HN := hide (OwnV.step (OwnV.drew (ownV_alloc _ _ _)) hb); have hgN := hgq; obtain ⟨⟨m1, m2⟩, m3, m4⟩ := two_apart hgq; have lHGspec := (unhide HGspec).lt)); replace HT := HT'; clear HT' hgq; replace HGspec := HGspec'; clear HGspec'; (try replace HN := hide (OwnV.step (unhide HN) hb)); (try (have n0 := (unhide HN).cell (i := 0) rfl; have n1 := (unhide HN).cell (i := 1) rfl; have nf := (unhide HN).frozen)); have f0 := (unhide HT).o1.cell (i := 0) rfl; have f1 := (unhide HT).o1.cell (i := 1) rfl; have f2 := (unhide HT).o2.cell (i := 0) rfl; have f3 := (unhide HT).o2.cell (i := 1) rfl; clear hb) | (go_at_call 25; refine (unhide Himpl _).mono ?_; rintro e wr ⟨r, s, rfl, hr, hs, hb⟩; have hgq := (unhide HT).o2.lt; (first | (have HT' := hide ((unhide HT).step hb); have HGspec' := hide (OwnV.step (unhide HGspec) hb)) | (have HT' := hide ((unhide HT).step (below_undrew' hb)); have HGspec' := hide (OwnV.step (unhide HGspec) (below_undrew' hb))) | (have HT' := hide ((unhide HT).step (Below.step (Below.alloc1 _ _) hb)); have HGspec' := hide (OwnV.step (unhide HGspec) (Below.step (Below.alloc1 _ _) hb)); have HN := hide (OwnV.step (ownV_alloc _ _ _) hb); have hgN := hgq; obtain ⟨⟨m1, m2⟩, m3, m4⟩ := two_apart hgq; have lHGspec := (unhide HGspec).lt) | (have HT' := hide ((unhide HT).step (Below.step (Below.alloc1 _ _) (below_undrew' hb))); have HGspec' := hide (OwnV.step (unhide HGspec) (Below.step (Below.alloc1 _ _) (below_undrew' hb))); have HN := hide (OwnV.step (OwnV.drew (ownV_alloc _ _ _)) hb); have hgN := hgq; obtain ⟨⟨m1, m2⟩, m3, m4⟩ := two_apart hgq; have lHGspec := (unhide HGspec).lt)); replace HT := HT'; clear HT' hgq; replace HGspec := HGspec'; clear HGspec'; (try replace HN := hide (OwnV.step (unhide HN) hb)); (try (have n0 := (unhide HN).cell (i := 0) rfl; have n1 := (unhide HN).cell (i := 1) rfl; have nf := (unhide HN).frozen)); have f0 := (unhide HT).o1.cell (i := 0) rfl; have f1 := (unhide HT).o1.cell (i := 1) rfl; have f2 := (unhide HT).o2.cell (i := 0) rfl; have f3 := (unhide HT).o2.cell (i := 1) rfl; clear hb))
    all_goals
      go_wp2_with fail
      go_meet
      first
        | exact ⟨_, _, _, rfl, hr, hs, (unhide HT).o2.lt, by have := (unhide HGspec).lt; omega, ownV_alloc _ _ _, (unhide HT).step (Below.alloc1 _ _), OwnV.step (unhide HGspec) (Below.alloc1 _ _)⟩
        | exact ⟨_, _, _, rfl, hr, hs, hgN, by omega, (OwnV.set (unhide HN) 0 _ (by simp)).set 1 _ (by simp), ((unhide HT).put hgN 0 _).put hgN 1 _, OwnV.far (OwnV.far (unhide HGspec) (by omega) 0 _) (by omega) 1 _⟩
  case rest =>
  obtain ⟨gimpl, rimpl, simpl, rfl, hrimpl, hsimpl, hlimpl, hnespec, HGimpl, HT, HGspec⟩ := hcut
  clear c0 c1 c2 c3 Himpl
  have HW := hide (unhide HT).below
  have HEQ := hide fun V => eqSmall_any rimpl simpl rspec sspec V (hrimpl.trans hrspec.symm) (hsimpl.trans hsspec.symm)
  simp only [vS] at HEQ
  have d0 := (unhide HGspec).cell (i := 0) rfl
  have d1 := (unhide HGspec).cell (i := 1) rfl
  have d2 := (unhide HGimpl).cell (i := 0) rfl
  have d3 := (unhide HGimpl).cell (i := 1) rfl
  go_wp2_with fail
  refine (unhide HEQ _).mono ?_
  rintro e we ⟨rfl, hb⟩
  replace HW := hide (Below.step (unhide HW) hb)
  clear hb
  go_wp2
  go_ret
  exact ⟨rfl, unhide HW⟩

end Go.Proofs.Yteohkabenbaaaaa

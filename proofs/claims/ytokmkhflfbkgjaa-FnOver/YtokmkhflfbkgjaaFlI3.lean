/- Contracts of the program's AddSmall, LessSmall, Times, Alike, Barred. Written by wip/mkfli3.py. -/
import Derived.Test.YtokmkhflfbkgjaaFlI2
import Derived.Deep.RegionWith
namespace Go.Proofs.Ytokmkhflfbkgjaa
open Go.RowKit

attribute [local go_sem] run_store_float run_store_complex unary_neg_float

theorem box6_put {w W : World} {a b c d e f : Value} (h : Box6 w W a b c d e f) (x y : Value) : Below w.heap.size w ((W.setCell ⟨w.heap.size + 1 + 1, 0, none⟩ x).setCell ⟨w.heap.size + 1 + 1, 1, none⟩ y) :=
  (h.below.setCell (p := ⟨w.heap.size + 1 + 1, 0, none⟩) (by show w.heap.size ≤ w.heap.size + 1 + 1; omega) _).setCell (p := ⟨w.heap.size + 1 + 1, 1, none⟩) (by show w.heap.size ≤ w.heap.size + 1 + 1; omega) _

set_option maxHeartbeats 4000000 in
theorem implAddSmall_any (a b c d : Nat) (w : World) :
    Calls Try.prog 11 #[vS a b, vS c d] w fun e w' => ∃ r s, e = .returned (vS r s) ∧ fsame .f32 r (fop .add .f32 a c) ∧ fsame .f32 s (fop .add .f32 b d) ∧ Below w.heap.size w w' := by
  have HB := hide (box6 w (.float .f32 a) (.float .f32 b) (.float .f32 c) (.float .f32 d) (.float .f32 0) (.float .f32 0) 26 26 26 0)
  have HN := hide fun x y V => smallNumber_any x y V
  have HO := hide fun r i V => smallOf_any r i V
  have HS := hide fun V => run_csum_any (P := Try.prog) V .add rfl 49 .f32 a b c d
  simp only [vS] at HN HO ⊢
  go_enter Try.func11, Try.ntmps11
  go_wp2
  obtain ⟨W0, e0⟩ : ∃ x, x = ((w.alloc (.cells #[.float .f32 a, .float .f32 b] 26)).alloc (.cells #[.float .f32 c, .float .f32 d] 26)).alloc (.cells #[.float .f32 0, .float .f32 0] 26) := ⟨_, rfl⟩
  replace HB : Hid (Box6 w W0 (.float .f32 a) (.float .f32 b) (.float .f32 c) (.float .f32 d) (.float .f32 0) (.float .f32 0)) := by rw [e0]; exact HB
  rw [← e0]
  clear e0
  have hn1 : ¬ w.heap.size = w.heap.size + 1 + 1 := by omega
  have hn2 : ¬ w.heap.size + 1 + 1 = w.heap.size := by omega
  have c0 := (unhide HB).o1.cell (i := 0) rfl
  have c1 := (unhide HB).o1.cell (i := 1) rfl
  have c2 := (unhide HB).o2.cell (i := 0) rfl
  have c3 := (unhide HB).o2.cell (i := 1) rfl
  go_region_with (first | (go_at_call 23; refine (unhide HN _ _ _).mono ?_; rintro e wt ⟨rfl, hb⟩; (first | (have HB' := hide ((unhide HB).step hb)) | (have HB' := hide ((unhide HB).step (below_undrew' hb)))); replace HB := HB'; clear HB' hb; have f0 := (unhide HB).o1.cell (i := 0) rfl; have f1 := (unhide HB).o1.cell (i := 1) rfl; have f2 := (unhide HB).o2.cell (i := 0) rfl; have f3 := (unhide HB).o2.cell (i := 1) rfl; obtain ⟨r, i, n, hrun, hr, hi⟩ := unhide HS wt) | (go_at_call 20; refine (unhide HO _ _ _).mono ?_; rintro e ws ⟨rfl, hb⟩; (first | (have HB' := hide ((unhide HB).step (below_undrewN hb)))); replace HB := HB'; clear HB' hb; have f0 := (unhide HB).o1.cell (i := 0) rfl; have f1 := (unhide HB).o1.cell (i := 1) rfl; have f2 := (unhide HB).o2.cell (i := 0) rfl; have f3 := (unhide HB).o2.cell (i := 1) rfl; have d0 := (unhide HB).o3.cell (i := 0) rfl; have d1 := (unhide HB).o3.cell (i := 1) rfl; have d2 := (unhide HB).o3.frozen))
  all_goals
    go_wp2
    have hc := (OwnV.set (unhide HB).o3 0 (.float .f32 r) (by simp)).set 1 (.float .f32 i) (by simp)
    have q0 := hc.cell (i := 0) rfl
    have q1 := hc.cell (i := 1) rfl
    refine bodyPost_ret (v := vS r i) (by simp [results, Try.results11, go_sem, vS, q0, q1]) rfl ⟨r, i, rfl, hr, hi, box6_put (unhide HB) _ _⟩

set_option maxHeartbeats 4000000 in
theorem implTimes_any (a b c d : Nat) (w : World) :
    Calls Try.prog 9 #[vW a b, vW c d] w fun e w' => ∃ r s, e = .returned (vW r s) ∧ fsame .f64 r (tRe a b c d) ∧ fsame .f64 s (tIm a b c d) ∧ Below w.heap.size w w' := by
  have HB := hide (box6 w (.float .f64 a) (.float .f64 b) (.float .f64 c) (.float .f64 d) (.float .f64 0) (.float .f64 0) 32 32 32 0)
  have HN := hide fun x y V => waveNumber_any x y V
  have HO := hide fun r i V => waveOf_any r i V
  have HS := hide fun V => times_any a b c d V
  simp only [vW] at HN HO ⊢
  go_enter Try.func9, Try.ntmps9
  go_wp2
  obtain ⟨W0, e0⟩ : ∃ x, x = ((w.alloc (.cells #[.float .f64 a, .float .f64 b] 32)).alloc (.cells #[.float .f64 c, .float .f64 d] 32)).alloc (.cells #[.float .f64 0, .float .f64 0] 32) := ⟨_, rfl⟩
  replace HB : Hid (Box6 w W0 (.float .f64 a) (.float .f64 b) (.float .f64 c) (.float .f64 d) (.float .f64 0) (.float .f64 0)) := by rw [e0]; exact HB
  rw [← e0]
  clear e0
  have hn1 : ¬ w.heap.size = w.heap.size + 1 + 1 := by omega
  have hn2 : ¬ w.heap.size + 1 + 1 = w.heap.size := by omega
  have c0 := (unhide HB).o1.cell (i := 0) rfl
  have c1 := (unhide HB).o1.cell (i := 1) rfl
  have c2 := (unhide HB).o2.cell (i := 0) rfl
  have c3 := (unhide HB).o2.cell (i := 1) rfl
  go_region_held3 (fun w' => w'.cell? ⟨w.heap.size, 0, none⟩ = some (.float .f64 a) ∧ w'.cell? ⟨w.heap.size, 1, none⟩ = some (.float .f64 b) ∧ w'.cell? ⟨w.heap.size + 1, 0, none⟩ = some (.float .f64 c) ∧ w'.cell? ⟨w.heap.size + 1, 1, none⟩ = some (.float .f64 d)) (go_keep) (first | (go_at_call 21; refine (unhide HN _ _ _).mono ?_; rintro e wt ⟨rfl, hb⟩; (first | (have HB' := hide ((unhide HB).step hb)) | (have HB' := hide ((unhide HB).step (below_undrew' hb)))); replace HB := HB'; clear HB' hb; have f0 := (unhide HB).o1.cell (i := 0) rfl; have f1 := (unhide HB).o1.cell (i := 1) rfl; have f2 := (unhide HB).o2.cell (i := 0) rfl; have f3 := (unhide HB).o2.cell (i := 1) rfl) | (go_at_call 24; refine (unhide HS _).mono ?_; rintro e wq ⟨r, i, rfl, hr, hi, n, rfl⟩) | (go_at_call 22; refine (unhide HO _ _ _).mono ?_; rintro e ws ⟨rfl, hb⟩; (first | (have HB' := hide ((unhide HB).step (below_undrewN hb)))); replace HB := HB'; clear HB' hb; have f0 := (unhide HB).o1.cell (i := 0) rfl; have f1 := (unhide HB).o1.cell (i := 1) rfl; have f2 := (unhide HB).o2.cell (i := 0) rfl; have f3 := (unhide HB).o2.cell (i := 1) rfl; have d0 := (unhide HB).o3.cell (i := 0) rfl; have d1 := (unhide HB).o3.cell (i := 1) rfl; have d2 := (unhide HB).o3.frozen))
  all_goals
    go_wp2
    have hc := (OwnV.set (unhide HB).o3 0 (.float .f64 r) (by simp)).set 1 (.float .f64 i) (by simp)
    have q0 := hc.cell (i := 0) rfl
    have q1 := hc.cell (i := 1) rfl
    refine bodyPost_ret (v := vW r i) (by simp [results, Try.results9, go_sem, vW, q0, q1]) rfl ⟨r, i, rfl, hr, hi, box6_put (unhide HB) _ _⟩

set_option maxHeartbeats 4000000 in
theorem implAlike_any (a b c d : Nat) (w : World) :
    Calls Try.prog 16 #[vW a b, vW c d] w fun e w' => e = .returned (.bool (alikeB a b c d)) ∧ Below w.heap.size w w' := by
  have HT := hide (two_new w (.float .f64 a) (.float .f64 b) (.float .f64 c) (.float .f64 d) 32 32)
  have HN := hide fun x y V => waveNumber_any x y V
  simp only [vW] at HN ⊢
  go_enter Try.func16, Try.ntmps16
  go_wp2
  obtain ⟨W0, e0⟩ : ∃ x, x = (w.alloc (.cells #[.float .f64 a, .float .f64 b] 32)).alloc (.cells #[.float .f64 c, .float .f64 d] 32) := ⟨_, rfl⟩
  rw [← e0] at HT ⊢
  clear e0
  have c0 := (unhide HT).o1.cell (i := 0) rfl
  have c1 := (unhide HT).o1.cell (i := 1) rfl
  have c2 := (unhide HT).o2.cell (i := 0) rfl
  have c3 := (unhide HT).o2.cell (i := 1) rfl
  go_region_held3 (fun w' => w'.cell? ⟨w.heap.size, 0, none⟩ = some (.float .f64 a) ∧ w'.cell? ⟨w.heap.size, 1, none⟩ = some (.float .f64 b) ∧ w'.cell? ⟨w.heap.size + 1, 0, none⟩ = some (.float .f64 c) ∧ w'.cell? ⟨w.heap.size + 1, 1, none⟩ = some (.float .f64 d)) (go_keep) (first | (go_at_call 21; refine (unhide HN _ _ _).mono ?_; rintro e wt ⟨rfl, hb⟩; (first | (have HT' := hide ((unhide HT).step hb)) | (have HT' := hide ((unhide HT).step (below_undrew' hb)))); replace HT := HT'; clear HT' hb; have f0 := (unhide HT).o1.cell (i := 0) rfl; have f1 := (unhide HT).o1.cell (i := 1) rfl; have f2 := (unhide HT).o2.cell (i := 0) rfl; have f3 := (unhide HT).o2.cell (i := 1) rfl))
  all_goals
    go_wp2
    go_ret
    exact ⟨rfl, (unhide HT).below⟩

set_option maxHeartbeats 4000000 in
theorem implBarred_any (a b : Nat) (hx : b < 18446744073709551616) (w : World) :
    Calls Try.prog 17 #[vW a b] w fun e w' => ∃ r s, e = .returned (vW r s) ∧ fsame .f64 r a ∧ fsame .f64 s (Op.negFloat .f64 b) ∧ Below w.heap.size w w' := by
  have HT := hide (two_new w (.float .f64 a) (.float .f64 b) (.float .f64 0) (.float .f64 0) 32 32)
  have HS := hide fun V => signTurned_any b hx V
  simp only [vW]
  clear hx
  generalize Op.negFloat .f64 b = y at *
  go_enter Try.func17, Try.ntmps17
  go_wp2
  obtain ⟨W0, e0⟩ : ∃ x, x = (w.alloc (.cells #[.float .f64 a, .float .f64 b] 32)).alloc (.cells #[.float .f64 0, .float .f64 0] 32) := ⟨_, rfl⟩
  rw [← e0] at HT ⊢
  clear e0
  have c0 := (unhide HT).o1.cell (i := 0) rfl
  have c1 := (unhide HT).o1.cell (i := 1) rfl
  have c2 := (unhide HT).o2.cell (i := 0) rfl
  have c3 := (unhide HT).o2.cell (i := 1) rfl
  have c4 := (unhide HT).o2.frozen
  go_region_held3 (fun w' => w'.cell? ⟨w.heap.size, 0, none⟩ = some (.float .f64 a) ∧ w'.cell? ⟨w.heap.size, 1, none⟩ = some (.float .f64 b)) (go_keep) (first | (go_at_call 29; refine (unhide HS _).mono ?_; rintro e wt ⟨rfl, rfl⟩))
  all_goals
    go_wp2
    have hc := (OwnV.set (unhide HT).o2 0 (.float .f64 a) (by simp)).set 1 (.float .f64 y) (by simp)
    have q0 := hc.cell (i := 0) rfl
    have q1 := hc.cell (i := 1) rfl
    refine bodyPost_ret (v := vW a y) (by simp [results, Try.results17, go_sem, vW, q0, q1]) rfl ⟨a, y, rfl, fsame.refl _ _, fsame.refl _ _, ?_⟩
    exact (((unhide HT).below.setCell (p := ⟨w.heap.size + 1, 0, none⟩) (by show w.heap.size ≤ w.heap.size + 1; omega) _).setCell (p := ⟨w.heap.size + 1, 1, none⟩) (by show w.heap.size ≤ w.heap.size + 1; omega) _).drew

end Go.Proofs.Ytokmkhflfbkgjaa

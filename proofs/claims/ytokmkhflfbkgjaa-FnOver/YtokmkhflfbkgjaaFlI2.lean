/- Contracts of the program's times, over, Great, AddSmall, LessSmall, Times. -/
import Derived.Test.YtokmkhflfbkgjaaFlI
import Derived.Test.YtokmkhflfbkgjaaFlJ
import Derived.Deep.RegionHeld3
namespace Go.Proofs.Ytokmkhflfbkgjaa
open Go.RowKit

attribute [local go_sem] run_store_float run_store_complex unary_neg_float

theorem below_undrewN {W W' : World} {n : Nat} (hb : Below (W.drewN n).heap.size (W.drewN n) W') : Below W.heap.size W W' := ⟨hb.os, hb.tape, hb.output, hb.size, hb.block⟩
theorem Box6.step {w W W' : World} {a b c d e f : Value} (h : Box6 w W a b c d e f) (hb : Below W.heap.size W W') : Box6 w W' a b c d e f := ⟨h.o1.step hb, h.o2.step hb, h.o3.step hb, Below.step h.below hb⟩

set_option maxHeartbeats 800000 in
theorem times_any (a b c d : Nat) (w : World) :
    Calls Try.prog 24 #[.complex .f64 a b, .complex .f64 c d] w fun e w' => ∃ r s, e = .returned (.complex .f64 r s) ∧ fsame .f64 r (tRe a b c d) ∧ fsame .f64 s (tIm a b c d) ∧ ∃ n, w' = w.drewN n := by
  go_enter Try.func24, Try.ntmps24
  go_wp2_with (first | (go_at_call 30; refine (product_any _ _ _).mono ?_; rintro e w' ⟨r, rfl, hr, -, n, rfl⟩) | (refine wpList_float rfl _ _ _ _ _ rfl rfl .f64 _ _ rfl rfl ?_; intro r n hr))
  rename_i r1 h1 n1 r2 h2 n2 r3 n3 h3 r4 h4 n4 r5 h5 n5
  go_ret
  exact ⟨_, _, rfl, fop_to h3 h1 h2, fop_to hr h4 h5, _, rfl⟩

set_option maxRecDepth 10000 in
set_option maxHeartbeats 4000000 in
theorem over_any (a b c d : Nat) (hc : finB c = true) (hd : finB d = true) (lc : c < 18446744073709551616) (ld : d < 18446744073709551616) (w : World) :
    Calls Try.prog 28 #[.complex .f64 a b, .complex .f64 c d] w fun e w' => ∃ r s, e = .returned (.complex .f64 r s) ∧ fsame .f64 r (ovRe a b c d) ∧ fsame .f64 s (ovIm a b c d) ∧ ∃ n, w' = w.drewN n := by
  have HAc := hide fun V => mathAbs_any c lc V
  have HAd := hide fun V => mathAbs_any d ld V
  have R := fun x => fsame.refl .f64 x
  have HR := hide R
  clear R
  cases hg : geB c d with
  | true =>
    have HRE : Hid (ovRe a b c d = fop .quo .f64 (fop .add .f64 a (fop .mul .f64 b (fop .quo .f64 d c))) (fop .add .f64 c (fop .mul .f64 (fop .quo .f64 d c) d))) := by show _ = _; rw [ovRe, if_pos hg]
    have HIM : Hid (ovIm a b c d = fop .quo .f64 (fop .sub .f64 b (fop .mul .f64 a (fop .quo .f64 d c))) (fop .add .f64 c (fop .mul .f64 (fop .quo .f64 d c) d))) := by show _ = _; rw [ovIm, if_pos hg]
    unfold geB at hg
    rw [← order_abs c d hc hd] at hg
    clear hc hd lc ld
    generalize c % 9223372036854775808 = ca at *
    generalize d % 9223372036854775808 = da at *
    go_enter Try.func28, Try.ntmps28
    go_wp2_with (first | (go_at_call 34; refine (unhide HAc _).mono ?_; rintro e w' ⟨rfl, rfl⟩) | (go_at_call 34; refine (unhide HAd _).mono ?_; rintro e w' ⟨rfl, rfl⟩) | (go_at_call 30; refine (product_any _ _ _).mono ?_; rintro e w' ⟨r, rfl, hr, -, n, rfl⟩) | (refine wpList_float rfl _ _ _ _ _ rfl rfl .f64 _ _ rfl rfl ?_; intro r n hr))
    rename_i r1 n1 h1 r2 h2 n2 r3 n3 h3 r4 h4 n4 r5 n5 h5 r6 n6 h6 r7 h7 n7 r8 n8 h8
    go_ret
    have R := unhide HR
    have g3 := fop_to h3 (R c) (fop_to h2 h1 (R d))
    exact ⟨_, _, rfl, by rw [unhide HRE]; exact fop_to h6 (fop_to h5 (R a) (fop_to h4 (R b) h1)) g3, by rw [unhide HIM]; exact fop_to hr (fop_to h8 (R b) (fop_to h7 (R a) h1)) g3, _, rfl⟩
  | false =>
    have HRE : Hid (ovRe a b c d = fop .quo .f64 (fop .add .f64 (fop .mul .f64 a (fop .quo .f64 c d)) b) (fop .add .f64 d (fop .mul .f64 (fop .quo .f64 c d) c))) := by show _ = _; rw [ovRe, if_neg (by rw [hg]; simp)]
    have HIM : Hid (ovIm a b c d = fop .quo .f64 (fop .sub .f64 (fop .mul .f64 b (fop .quo .f64 c d)) a) (fop .add .f64 d (fop .mul .f64 (fop .quo .f64 c d) c))) := by show _ = _; rw [ovIm, if_neg (by rw [hg]; simp)]
    unfold geB at hg
    rw [← order_abs c d hc hd] at hg
    clear hc hd lc ld
    generalize c % 9223372036854775808 = ca at *
    generalize d % 9223372036854775808 = da at *
    go_enter Try.func28, Try.ntmps28
    go_wp2_with (first | (go_at_call 34; refine (unhide HAc _).mono ?_; rintro e w' ⟨rfl, rfl⟩) | (go_at_call 34; refine (unhide HAd _).mono ?_; rintro e w' ⟨rfl, rfl⟩) | (go_at_call 30; refine (product_any _ _ _).mono ?_; rintro e w' ⟨r, rfl, hr, -, n, rfl⟩) | (refine wpList_float rfl _ _ _ _ _ rfl rfl .f64 _ _ rfl rfl ?_; intro r n hr))
    rename_i r1 n1 h1 r2 h2 n2 r3 n3 h3 r4 h4 n4 r5 n5 h5 r6 n6 h6 r7 h7 n7 r8 n8 h8
    go_ret
    have R := unhide HR
    have g3 := fop_to h3 (R d) (fop_to h2 h1 (R c))
    exact ⟨_, _, rfl, by rw [unhide HRE]; exact fop_to h6 (fop_to h5 (fop_to h4 (R a) h1) (R b)) g3, by rw [unhide HIM]; exact fop_to hr (fop_to h8 (fop_to h7 (R b) h1) (R a)) g3, _, rfl⟩

set_option maxHeartbeats 800000 in
theorem implGreat_any (x y : Nat) (w : World) :
    Calls Try.prog 8 #[vS x y] w fun e w' => ∃ r s, e = .returned (vW r s) ∧ fsame .f64 r (up x) ∧ fsame .f64 s (up y) ∧ Below w.heap.size w w' := by
  have HT := hide (two_new w (.float .f32 x) (.float .f32 y) (.float .f64 0) (.float .f64 0) 26 32)
  have HN := hide fun V => smallNumber_any x y V
  have HO := hide fun r i V => waveOf_any r i V
  simp only [vS, vW] at HN HO ⊢
  go_enter Try.func8, Try.ntmps8
  go_wp2_with fail
  refine (unhide HN _).mono ?_
  rintro e w1 ⟨rfl, hb⟩
  replace HT := hide ((unhide HT).step hb)
  clear hb HN
  go_wp2_with (refine wpList_cup rfl 49 50 _ rfl (by rw [Try.underlying49]; rfl) Try.underlying50 _ _ rfl ?_; intro r i n h1 h2)
  refine (unhide HO _ _ _).mono ?_
  rintro e w2 ⟨rfl, hb⟩
  replace HT := hide ((unhide HT).step (below_undrewN hb))
  clear hb HO
  have c0 := (unhide HT).o2.cell (i := 0) rfl
  have c1 := (unhide HT).o2.cell (i := 1) rfl
  have f0 := (unhide HT).o2.frozen
  go_wp2
  have hc := (OwnV.set (unhide HT).o2 0 (.float .f64 r) (by simp)).set 1 (.float .f64 i) (by simp)
  have q0 := hc.cell (i := 0) rfl
  have q1 := hc.cell (i := 1) rfl
  refine bodyPost_ret (v := vW r i) (by simp [results, Try.results8, go_sem, vW, q0, q1]) rfl ⟨r, i, rfl, h1, h2, ?_⟩
  exact ((unhide HT).below.setCell (p := ⟨w.heap.size + 1, 0, none⟩) (by show w.heap.size ≤ w.heap.size + 1; omega) _).setCell (p := ⟨w.heap.size + 1, 1, none⟩) (by show w.heap.size ≤ w.heap.size + 1; omega) _

end Go.Proofs.Ytokmkhflfbkgjaa

/- The contract of the specification's Summed. -/
import Derived.Test.YteohkabenbaaaaaFlF
import Derived.Test.YteohkabenbaaaaaFlK
import Derived.BigRegion
import Derived.Deep.RegionWith
import Derived.Deep.DeepCutAuto
namespace Go.Proofs.Yteohkabenbaaaaa
open Go.RowKit

attribute [local go_sem] run_store_float run_store_complex

theorem OwnV.far' {w : World} {g g' : Nat} {vs : List Value} (h : OwnV w g vs) (hne : g ≠ g') (i : Nat) (u : Value) : OwnV (w.setCell ⟨g', i, none⟩ u) g vs := h.other (a := ⟨g', i, none⟩) hne u

structure Su where
  a : Nat
  b : Nat
  c : Nat
  d : Nat
def Su.step (s : Su) (p : F2) : Su := ⟨fop .add .f32 s.a p.1, fop .add .f32 s.b p.2, fop .add .f64 s.c (up p.1), fop .add .f64 s.d (up p.2)⟩
def suTo (L : List F2) : Nat → Su
  | 0 => ⟨0, 0, 0, 0⟩
  | k + 1 => (suTo L k).step (L.getD k default)
def suOf (L : List F2) : Su := if L.length ≤ 60 then suTo L L.length else ⟨0, 0, 0, 0⟩

structure UBox (w W : World) (a b c d : Nat) : Prop where
  o1 : OwnV W w.heap.size [.float .f32 0, .float .f32 0]
  o2 : OwnV W (w.heap.size + 1) [.float .f64 0, .float .f64 0]
  o3 : OwnV W (w.heap.size + 1 + 1) [.float .f32 a, .float .f32 b]
  o4 : OwnV W (w.heap.size + 1 + 1 + 1) [.float .f64 c, .float .f64 d]
  below : Below w.heap.size w W

theorem UBox.step {w W W' : World} {a b c d : Nat} (h : UBox w W a b c d) (hb : Below W.heap.size W W') : UBox w W' a b c d := ⟨h.o1.step hb, h.o2.step hb, h.o3.step hb, h.o4.step hb, Below.step h.below hb⟩
theorem UBox.put3 {w W : World} {a b c d a' b' : Nat} (h : UBox w W a b c d) : UBox w ((W.setCell ⟨w.heap.size + 1 + 1, 0, none⟩ (.float .f32 a')).setCell ⟨w.heap.size + 1 + 1, 1, none⟩ (.float .f32 b')) a' b' c d :=
  ⟨(h.o1.other (by show w.heap.size ≠ w.heap.size + 1 + 1; omega) _).other (by show w.heap.size ≠ w.heap.size + 1 + 1; omega) _, (h.o2.other (by show w.heap.size + 1 ≠ w.heap.size + 1 + 1; omega) _).other (by show w.heap.size + 1 ≠ w.heap.size + 1 + 1; omega) _, (h.o3.set 0 _ (by simp)).set 1 _ (by simp),
    (h.o4.other (by show w.heap.size + 1 + 1 + 1 ≠ w.heap.size + 1 + 1; omega) _).other (by show w.heap.size + 1 + 1 + 1 ≠ w.heap.size + 1 + 1; omega) _, (h.below.setCell (p := ⟨w.heap.size + 1 + 1, 0, none⟩) (by show w.heap.size ≤ w.heap.size + 1 + 1; omega) _).setCell (p := ⟨w.heap.size + 1 + 1, 1, none⟩) (by show w.heap.size ≤ w.heap.size + 1 + 1; omega) _⟩
theorem UBox.put4 {w W : World} {a b c d c' d' : Nat} (h : UBox w W a b c d) : UBox w ((W.setCell ⟨w.heap.size + 1 + 1 + 1, 0, none⟩ (.float .f64 c')).setCell ⟨w.heap.size + 1 + 1 + 1, 1, none⟩ (.float .f64 d')) a b c' d' :=
  ⟨(h.o1.other (by show w.heap.size ≠ w.heap.size + 1 + 1 + 1; omega) _).other (by show w.heap.size ≠ w.heap.size + 1 + 1 + 1; omega) _, (h.o2.other (by show w.heap.size + 1 ≠ w.heap.size + 1 + 1 + 1; omega) _).other (by show w.heap.size + 1 ≠ w.heap.size + 1 + 1 + 1; omega) _,
    (h.o3.other (by show w.heap.size + 1 + 1 ≠ w.heap.size + 1 + 1 + 1; omega) _).other (by show w.heap.size + 1 + 1 ≠ w.heap.size + 1 + 1 + 1; omega) _, (h.o4.set 0 _ (by simp)).set 1 _ (by simp), (h.below.setCell (p := ⟨w.heap.size + 1 + 1 + 1, 0, none⟩) (by show w.heap.size ≤ w.heap.size + 1 + 1 + 1; omega) _).setCell (p := ⟨w.heap.size + 1 + 1 + 1, 1, none⟩) (by show w.heap.size ≤ w.heap.size + 1 + 1 + 1; omega) _⟩

theorem ubox_new (w : World) (t1 t2 t3 t4 : TypeId) : UBox w ((((w.alloc (.cells #[.float .f32 0, .float .f32 0] t1)).alloc (.cells #[.float .f64 0, .float .f64 0] t2)).alloc (.cells #[.float .f32 0, .float .f32 0] t3)).alloc (.cells #[.float .f64 0, .float .f64 0] t4)) 0 0 0 0 := by
  have h2 := ownV_alloc (w.alloc (.cells #[.float .f32 0, .float .f32 0] t1)) #[.float .f64 0, .float .f64 0] t2
  have h3 := ownV_alloc ((w.alloc (.cells #[.float .f32 0, .float .f32 0] t1)).alloc (.cells #[.float .f64 0, .float .f64 0] t2)) #[.float .f32 0, .float .f32 0] t3
  have h4 := ownV_alloc (((w.alloc (.cells #[.float .f32 0, .float .f32 0] t1)).alloc (.cells #[.float .f64 0, .float .f64 0] t2)).alloc (.cells #[.float .f32 0, .float .f32 0] t3)) #[.float .f64 0, .float .f64 0] t4
  simp only [World.size_alloc] at h2 h3 h4
  exact ⟨(((ownV_alloc w #[.float .f32 0, .float .f32 0] t1).alloc _).alloc _).alloc _, (h2.alloc _).alloc _, h3.alloc _, h4, Below.step (below3 _ _ _ _) (Below.alloc1 _ _)⟩

set_option maxRecDepth 10000 in
set_option maxHeartbeats 4000000 in
theorem specSummed_any (v : Value) (L : List F2) (w : World) (h : RS w v L) :
    Calls Try.prog 60 #[v] w fun e w' => ∃ a b c d, e = .returned (.tuple #[vS a b, vW c d]) ∧ fsame .f32 a (suOf L).a ∧ fsame .f32 b (suOf L).b ∧ fsame .f64 c (suOf L).c ∧ fsame .f64 d (suOf L).d ∧ Below w.heap.size w w' := by
  obtain ⟨ao, cap, rfl, hl, hm, hc⟩ := h
  unfold maxLen at hm
  have HC := hide hc
  clear hc
  have HU0 := hide (ubox_new w 26 32 26 32)
  go_enter Try.func60, Try.ntmps60
  go_wp2
  go_loopg [6] L.length (fun g i wr => ∃ k : Nat, k ≤ L.length ∧ g = L.length - k ∧ i = .int .i64 k ∧ (60 < L.length → k = 0) ∧ ∃ a b c d, fsame .f32 a (suTo L k).a ∧ fsame .f32 b (suTo L k).b ∧ fsame .f64 c (suTo L k).c ∧ fsame .f64 d (suTo L k).d ∧ Hid (UBox w wr a b c d))
  case atStart => exact ⟨0, Nat.zero_le _, rfl, rfl, fun _ => rfl, 0, 0, 0, 0, fsame.refl _ _, fsame.refl _ _, fsame.refl _ _, fsame.refl _ _, HU0⟩
  case round =>
    clear HU0
    obtain ⟨k, hk, rfl, rfl, hbig, a, b, c, d, ha, hb, hc, hd, HU⟩ := hrel
    by_cases hgo : k < L.length ∧ L.length ≤ 60
    · obtain ⟨hkn, h60⟩ := hgo
      obtain ⟨bl, o, x, y, rfl, hx, hy, EX⟩ := recSAt (unhide HC) hkn
      have ES : Hid (suTo L (k + 1) = (suTo L k).step (x, y)) := by show _ = _; rw [suTo, unhide EX]
      have g0 := ((unhide HU).below.cell (lt_of_cell hx)).trans hx
      have g1 := ((unhide HU).below.cell (lt_of_cell hy)).trans hy
      have hlx := lt_of_cell hx
      have hki : (k : Int) < L.length := by omega
      have h60i : (L.length : Int) ≤ 60 := by omega
      generalize suTo L k = s at *
      have c3 := (unhide HU).o3.cell (i := 0) rfl
      have d3 := (unhide HU).o3.cell (i := 1) rfl
      have HAD := hide fun V => specAddSmall_any a b x y V
      have HGR := hide fun V => specGreat_any x y V
      simp only [vS, vW] at HAD HGR
      clear EX
      go_wp2
      go_cut [] (fun wx => ∃ a' b', fsame .f32 a' (fop .add .f32 a x) ∧ fsame .f32 b' (fop .add .f32 b y) ∧ Hid (UBox w wx a' b' c d))
      case first =>
        go_region_with (go_at_call 41; refine (unhide HAD _).mono ?_; rintro e w1 ⟨r, s', rfl, hr, hs, hb1⟩; have HU1 := hide (show UBox w w1 a b c d from (unhide HU).step ⟨hb1.os, hb1.tape, hb1.output, hb1.size, hb1.block⟩); have q3 := (unhide HU1).o3.cell (i := 0) rfl; have q4 := (unhide HU1).o3.cell (i := 1) rfl; have f3 := (unhide HU1).o3.frozen; clear hb1)
        all_goals
          go_wp2_with fail
          go_meet
          exact ⟨_, _, hr, hs, (unhide HU1).put3⟩
      case rest =>
      obtain ⟨a', b', ha', hb', HU1⟩ := hcut
      clear HU HAD c3 d3 g0 g1
      have g0 := ((unhide HU1).below.cell hlx).trans hx
      have g1 := ((unhide HU1).below.cell hlx).trans hy
      go_wp2_with fail
      refine (unhide HGR _).mono ?_
      rintro e w2 ⟨r, s', rfl, hr, hs, hb2⟩
      have hU2 := (unhide HU1).step hb2
      have l4 := hU2.o4.lt
      have hU3 := hU2.step (Below.alloc1 w2 (.cells #[.float .f64 r, .float .f64 s'] 32))
      have c4 := hU3.o4.cell (i := 0) rfl
      have d4 := hU3.o4.cell (i := 1) rfl
      have f4 := hU3.o4.frozen
      have hN := ownV_alloc w2 #[.float .f64 r, .float .f64 s'] 32
      have n0 := hN.cell (i := 0) rfl
      have n1 := hN.cell (i := 1) rfl
      have HU3 := hide hU3
      clear hb2 HGR HU1 hU2 hU3 hN
      have hne : ¬ w.heap.size + 1 + 1 + 1 = w2.heap.size := by omega
      go_wp2_with (first | (refine wpList_float rfl .add _ _ _ _ rfl rfl .f64 c r rfl rfl ?_; intro r3 m3 h3) | (refine wpList_float rfl .add _ _ _ _ rfl rfl .f64 d s' rfl rfl ?_; intro r4 m4 h4))
      go_roundg (L.length - (k + 1))
      case measure => omega
      case rel =>
        refine ⟨k + 1, by omega, rfl, by go_num, fun h => by omega, a', b', r3, r4, ?_, ?_, ?_, ?_, ((unhide HU3).step (below_drewN (Below.refl _ _) _)).put4⟩
        · rw [unhide ES]; exact ha'.trans (by rw [fop_same ha (fsame.refl .f32 x)]; exact fsame.refl _ _)
        · rw [unhide ES]; exact hb'.trans (by rw [fop_same hb (fsame.refl .f32 y)]; exact fsame.refl _ _)
        · rw [unhide ES]; exact fop_to h3 hc hr
        · rw [unhide ES]; exact fop_to h4 hd hs
    · have EF : Hid (suOf L = suTo L k) := by
        show _ = _
        unfold suOf
        by_cases h : L.length ≤ 60
        · rw [if_pos h, show k = L.length by omega]
        · rw [if_neg h, hbig (by omega)]; rfl
      have HBW := hide (unhide HU).below
      have c3 := (unhide HU).o3.cell (i := 0) rfl
      have d3 := (unhide HU).o3.cell (i := 1) rfl
      have c4 := (unhide HU).o4.cell (i := 0) rfl
      have d4 := (unhide HU).o4.cell (i := 1) rfl
      have c1 := (unhide HU).o1.cell (i := 0) rfl
      have d1 := (unhide HU).o1.cell (i := 1) rfl
      have c2 := (unhide HU).o2.cell (i := 0) rfl
      have d2 := (unhide HU).o2.cell (i := 1) rfl
      have f1 := (unhide HU).o1.frozen
      have f2 := (unhide HU).o2.frozen
      have z1 := OwnV.set (unhide HU).o1 0 (.float .f32 a) (by simp)
      have z2 := z1.set 1 (.float .f32 b) (by simp)
      have z3 := OwnV.set (OwnV.far' (OwnV.far' (unhide HU).o2 (show w.heap.size + 1 ≠ w.heap.size by omega) 0 (.float .f32 a)) (show w.heap.size + 1 ≠ w.heap.size by omega) 1 (.float .f32 b)) 0 (.float .f64 c) (by simp)
      have z4 := z3.set 1 (.float .f64 d) (by simp)
      have k1 := z1.cell (i := 0) rfl
      have k2 := z2.cell (i := 1) rfl
      have k3 := z3.cell (i := 0) rfl
      have k4 := z4.cell (i := 1) rfl
      have HX := hide (((((unhide HU).below.setCell (p := ⟨w.heap.size, 0, none⟩) (Nat.le_refl _) (.float .f32 a)).setCell (p := ⟨w.heap.size, 1, none⟩) (Nat.le_refl _) (.float .f32 b)).setCell (p := ⟨w.heap.size + 1, 0, none⟩) (by show w.heap.size ≤ w.heap.size + 1; omega) (.float .f64 c)).setCell (p := ⟨w.heap.size + 1, 1, none⟩) (by show w.heap.size ≤ w.heap.size + 1; omega) (.float .f64 d)).drew
      clear z1 z2 z3 z4
      have hdec : (decide ((k : Int) < (L.length : Int)) && decide ((L.length : Int) ≤ 60)) = false := by
        rw [Bool.and_eq_false_iff]; simp; omega
      by_cases hk1 : (k : Int) < L.length
      · have h60 : (60 : Int) < L.length := by omega
        go_wp2
        go_region
        go_wp2
        refine bodyPost_ret (v := .tuple #[vS a b, vW c d]) (by simp [results, Try.results60, go_sem, vW, vS, k1, k2, k3, k4]) rfl ⟨a, b, c, d, rfl, ?_, ?_, ?_, ?_, unhide HX⟩
        all_goals
          rw [unhide EF]
          assumption
      · have h60 : (L.length : Int) ≤ k := by omega
        go_wp2
        go_region
        go_wp2
        refine bodyPost_ret (v := .tuple #[vS a b, vW c d]) (by simp [results, Try.results60, go_sem, vW, vS, k1, k2, k3, k4]) rfl ⟨a, b, c, d, rfl, ?_, ?_, ?_, ?_, unhide HX⟩
        all_goals
          rw [unhide EF]
          assumption

end Go.Proofs.Yteohkabenbaaaaa

/- Contracts of the program's Strip and Summed. -/
import Derived.Test.YteohkabenbaaaaaFlI2
import Derived.Test.YteohkabenbaaaaaFlM
import Derived.Test.YteohkabenbaaaaaFlO
namespace Go.Proofs.Yteohkabenbaaaaa
open Go.RowKit

attribute [local go_sem] run_store_float run_store_complex unary_neg_float

set_option maxRecDepth 10000 in
set_option maxHeartbeats 4000000 in
theorem implStrip_any (v : Value) (xs : List Nat) (tr ti : Nat) (w : World) (h : FlIn w v xs) :
    Calls Try.prog 33 #[v, vW tr ti] w fun e w' => ∃ r s, e = .returned (.tuple #[vW r s, .bool (stOk xs)]) ∧ fsame .f64 r (stRe tr ti xs) ∧ fsame .f64 s (stIm tr ti xs) ∧ Below w.heap.size w w' := by
  obtain ⟨ao, cap, rfl, hl, hm, hc⟩ := h
  unfold maxLen at hm
  have HC := hide hc
  clear hc
  have HT0 := hide (two_new w (.float .f64 tr) (.float .f64 ti) (.float .f64 0) (.float .f64 0) 32 32)
  have HN := hide fun x y V => waveNumber_any x y V
  have HO := hide fun r i V => waveOf_any r i V
  unfold vW at HN HO ⊢
  cases hok : stOk xs with
  | false =>
    have HF : Hid (stRe tr ti xs = 0 ∧ stIm tr ti xs = 0) := by constructor <;> simp [stRe, stIm, hok]
    have h60 : (60 : Int) < xs.length := by simp [stOk] at hok; omega
    go_enter Try.func33, Try.ntmps33
    go_wp2
    refine bodyPost_ret (v := .tuple #[vW 0 0, .bool false]) (by simp [results, Try.results33, go_sem, vW]) rfl ⟨0, 0, rfl, by rw [(unhide HF).1]; exact fsame.refl _ _, by rw [(unhide HF).2]; exact fsame.refl _ _, Below.step (Below.alloc1 _ _) (Below.alloc1 _ _)⟩
  | true =>
    have HR : Hid (stRe tr ti xs = (stripTo tr ti xs).sr ∧ stIm tr ti xs = (stripTo tr ti xs).si) := by constructor <;> simp [stRe, stIm, hok]
    have h60 : (xs.length : Int) ≤ 60 := by simp [stOk] at hok; omega
    clear hok
    go_enter Try.func33, Try.ntmps33
    go_wp2
    go_loopg [6, 7, 16] xs.length (fun g sv pv i wr => ∃ k : Nat, k ≤ xs.length ∧ g = xs.length - k ∧ i = .int .i64 k ∧ ∃ a b c d, sv = .complex .f64 a b ∧ pv = .complex .f64 c d ∧ fsame .f64 a (stripTo tr ti (xs.take k)).sr ∧ fsame .f64 b (stripTo tr ti (xs.take k)).si ∧ fsame .f64 c (stripTo tr ti (xs.take k)).pr ∧ fsame .f64 d (stripTo tr ti (xs.take k)).pi ∧ Hid (Two w wr (.float .f64 tr) (.float .f64 ti) (.float .f64 0) (.float .f64 0)))
    case atStart => exact ⟨0, Nat.zero_le _, rfl, rfl, 0, 0, one64, 0, rfl, rfl, fsame.refl _ _, fsame.refl _ _, fsame.refl _ _, fsame.refl _ _, HT0⟩
    case round =>
      clear HT0
      obtain ⟨k, hk, rfl, rfl, a, b, c, d, rfl, rfl, ha, hb, hc, hd, HT⟩ := hrel
      by_cases hkn : k < xs.length
      · obtain ⟨bl, o, rfl, hcell⟩ := unhide HC k hkn
        have ES := hide (stripTo_snoc tr ti xs hkn)
        have g0 := ((unhide HT).below.cell (lt_of_cell hcell)).trans hcell
        have hki : (k : Int) < xs.length := by omega
        clear hcell
        generalize xs.getD k 0 = x at *
        generalize stripTo tr ti (xs.take k) = s at *
        have p0 := (unhide HT).o1.cell (i := 0) rfl
        have p1 := (unhide HT).o1.cell (i := 1) rfl
        go_wp2_with (first | (go_at_call 74; refine (product_any x c _).mono ?_; rintro e w' ⟨r1, rfl, h1, -, n1, rfl⟩) | (go_at_call 74; refine (product_any x d _).mono ?_; rintro e w' ⟨r2, rfl, h2, -, n2, rfl⟩) | (refine wpList_csum rfl .add _ _ _ _ rfl rfl .f64 a b _ _ rfl rfl ?_; intro r3 r4 n3 h3 h4))
        refine (unhide HN _ _ _).mono ?_
        rintro e w1 ⟨rfl, hbb⟩
        replace HT := hide ((unhide HT).step (below_undrewN hbb))
        clear hbb p0 p1 g0
        go_wp2_with (go_at_call 68; refine (times_any c d tr ti _).mono ?_; rintro e w' ⟨r5, r6, rfl, h5, h6, n5, rfl⟩)
        go_roundg (xs.length - (k + 1))
        case measure => omega
        case rel =>
          refine ⟨k + 1, by omega, rfl, by go_num, r3, r4, r5, r6, rfl, rfl, ?_, ?_, ?_, ?_, (unhide HT).step (below_drewN (Below.refl _ _) _)⟩
          · rw [unhide ES]; exact fop_to h3 ha (fop_to h1 (fsame.refl _ _) hc)
          · rw [unhide ES]; exact fop_to h4 hb (fop_to h2 (fsame.refl _ _) hd)
          · rw [unhide ES]; show fsame _ _ (tRe s.pr s.pi tr ti); rw [← tRe_same hc hd (fsame.refl _ tr) (fsame.refl _ ti)]; exact h5
          · rw [unhide ES]; show fsame _ _ (tIm s.pr s.pi tr ti); rw [← tIm_same hc hd (fsame.refl _ tr) (fsame.refl _ ti)]; exact h6
      · have hkk : k = xs.length := by omega
        subst hkk
        rw [List.take_length] at ha hb
        go_wp2_with fail
        refine (unhide HO _ _ _).mono ?_
        rintro e w1 ⟨rfl, hbb⟩
        replace HT := hide ((unhide HT).step hbb)
        clear hbb
        have q0 := (unhide HT).o2.cell (i := 0) rfl
        have q1 := (unhide HT).o2.cell (i := 1) rfl
        have f2 := (unhide HT).o2.frozen
        have hO := ((unhide HT).o2.set 0 (.float .f64 a) (by simp)).set 1 (.float .f64 b) (by simp)
        have k0 := hO.cell (i := 0) rfl
        have k1 := hO.cell (i := 1) rfl
        clear hO
        go_wp2
        refine bodyPost_ret (v := .tuple #[vW a b, .bool true]) (by simp [results, Try.results33, go_sem, vW, k0, k1]) rfl ⟨a, b, rfl, by rw [(unhide HR).1]; exact ha, by rw [(unhide HR).2]; exact hb, ?_⟩
        exact ((unhide HT).below.setCell (p := ⟨w.heap.size + 1, 0, none⟩) (by show w.heap.size ≤ w.heap.size + 1; omega) _).setCell (p := ⟨w.heap.size + 1, 1, none⟩) (by show w.heap.size ≤ w.heap.size + 1; omega) _

theorem below_put4 {w W : World} (h : Below w.heap.size w W) (a b c d : Value) : Below w.heap.size w ((((W.setCell ⟨w.heap.size, 0, none⟩ a).setCell ⟨w.heap.size, 1, none⟩ b).setCell ⟨w.heap.size + 1, 0, none⟩ c).setCell ⟨w.heap.size + 1, 1, none⟩ d) :=
  (((h.setCell (p := ⟨w.heap.size, 0, none⟩) (Nat.le_refl _) _).setCell (p := ⟨w.heap.size, 1, none⟩) (Nat.le_refl _) _).setCell (p := ⟨w.heap.size + 1, 0, none⟩) (by show w.heap.size ≤ w.heap.size + 1; omega) _).setCell (p := ⟨w.heap.size + 1, 1, none⟩) (by show w.heap.size ≤ w.heap.size + 1; omega) _

set_option maxRecDepth 10000 in
set_option maxHeartbeats 4000000 in
theorem implSummed_any (v : Value) (L : List F2) (w : World) (h : RS w v L) :
    Calls Try.prog 27 #[v] w fun e w' => ∃ a b c d, e = .returned (.tuple #[vS a b, vW c d]) ∧ fsame .f32 a (suOf L).a ∧ fsame .f32 b (suOf L).b ∧ fsame .f64 c (suOf L).c ∧ fsame .f64 d (suOf L).d ∧ Below w.heap.size w w' := by
  obtain ⟨ao, cap, rfl, hl, hm, hc⟩ := h
  unfold maxLen at hm
  have HC := hide hc
  clear hc
  have HT0 := hide (two_new w (.float .f32 0) (.float .f32 0) (.float .f64 0) (.float .f64 0) 26 32)
  have HN := hide fun x y V => smallNumber_any x y V
  have HO := hide fun r i V => waveOf_any r i V
  have HP := hide fun r i V => smallOf_any r i V
  simp only [vS, vW] at HN HO HP
  by_cases h60' : 60 < L.length
  · have HF : Hid (suOf L = ⟨0, 0, 0, 0⟩) := by show _ = _; rw [suOf, if_neg (by omega)]
    have h60 : (60 : Int) < L.length := by omega
    go_enter Try.func27, Try.ntmps27
    go_wp2
    refine bodyPost_ret (v := .tuple #[vS 0 0, vW 0 0]) (by simp [results, Try.results27, go_sem, vW, vS]) rfl ⟨0, 0, 0, 0, rfl, ?_, ?_, ?_, ?_, Below.step (Below.alloc1 _ _) (Below.alloc1 _ _)⟩
    all_goals
      rw [unhide HF]
      exact fsame.refl _ _
  · have HF : Hid (suOf L = suTo L L.length) := by show _ = _; rw [suOf, if_pos (by omega)]
    have h60 : (L.length : Int) ≤ 60 := by omega
    go_enter Try.func27, Try.ntmps27
    go_wp2
    go_loopg [4, 5, 15] L.length (fun g sv pv i wr => ∃ k : Nat, k ≤ L.length ∧ g = L.length - k ∧ i = .int .i64 k ∧ ∃ a b c d, sv = .complex .f32 a b ∧ pv = .complex .f64 c d ∧ fsame .f32 a (suTo L k).a ∧ fsame .f32 b (suTo L k).b ∧ fsame .f64 c (suTo L k).c ∧ fsame .f64 d (suTo L k).d ∧ Hid (Two w wr (.float .f32 0) (.float .f32 0) (.float .f64 0) (.float .f64 0)))
    case atStart => exact ⟨0, Nat.zero_le _, rfl, rfl, 0, 0, 0, 0, rfl, rfl, fsame.refl _ _, fsame.refl _ _, fsame.refl _ _, fsame.refl _ _, HT0⟩
    case round =>
      clear HT0
      obtain ⟨k, hk, rfl, rfl, a, b, c, d, rfl, rfl, ha, hb, hc, hd, HT⟩ := hrel
      by_cases hkn : k < L.length
      · obtain ⟨bl, o, x, y, rfl, hx, hy, EX⟩ := recSAt (unhide HC) hkn
        have ES : Hid (suTo L (k + 1) = (suTo L k).step (x, y)) := by show _ = _; rw [suTo, unhide EX]
        have g0 := ((unhide HT).below.cell (lt_of_cell hx)).trans hx
        have g1 := ((unhide HT).below.cell (lt_of_cell hy)).trans hy
        have hki : (k : Int) < L.length := by omega
        clear hx hy EX
        generalize suTo L k = s at *
        have HB := hide (ownV_alloc wr #[.float .f32 x, .float .f32 y] 26)
        replace HT := hide ((unhide HT).step (Below.alloc1 wr (.cells #[.float .f32 x, .float .f32 y] 26)))
        go_wp2_with fail
        refine (unhide HN _ _ _).mono ?_
        rintro e w1 ⟨rfl, hbb⟩
        replace HT := hide ((unhide HT).step hbb)
        replace HB := hide (OwnV.step (unhide HB) hbb)
        clear hbb g0 g1
        have p0 := (unhide HB).cell (i := 0) rfl
        have p1 := (unhide HB).cell (i := 1) rfl
        go_wp2_with (refine wpList_csum rfl .add _ _ _ _ rfl rfl .f32 a b x y rfl rfl ?_; intro r3 r4 n3 h3 h4)
        refine (unhide HN _ _ _).mono ?_
        rintro e w2 ⟨rfl, hbb⟩
        replace HT := hide ((unhide HT).step (below_undrewN hbb))
        clear hbb p0 p1 HB
        go_wp2_with (first | (refine wpList_csum rfl .add _ _ _ _ rfl rfl .f64 c d _ _ rfl rfl ?_; intro r5 r6 n5 h5 h6) | (refine wpList_cup rfl 75 76 _ rfl (by rw [Try.underlying75]; rfl) Try.underlying76 _ _ rfl ?_; intro r7 r8 n7 h7 h8))
        go_roundg (L.length - (k + 1))
        case measure => omega
        case rel =>
          refine ⟨k + 1, by omega, rfl, by go_num, r3, r4, r5, r6, rfl, rfl, ?_, ?_, ?_, ?_, (unhide HT).step (below_drewN (Below.refl _ _) _)⟩
          · rw [unhide ES]; exact fop_to h3 ha (fsame.refl _ _)
          · rw [unhide ES]; exact fop_to h4 hb (fsame.refl _ _)
          · rw [unhide ES]; exact fop_to h5 hc h7
          · rw [unhide ES]; exact fop_to h6 hd h8
      · have hkk : k = L.length := by omega
        subst hkk
        go_wp2_with fail
        refine (unhide HP _ _ _).mono ?_
        rintro e w1 ⟨rfl, hbb⟩
        replace HT := hide ((unhide HT).step hbb)
        clear hbb
        go_wp2_with fail
        refine (unhide HO _ _ _).mono ?_
        rintro e w2 ⟨rfl, hbb⟩
        replace HT := hide ((unhide HT).step hbb)
        clear hbb
        have c1 := (unhide HT).o1.cell (i := 0) rfl
        have d1 := (unhide HT).o1.cell (i := 1) rfl
        have c2 := (unhide HT).o2.cell (i := 0) rfl
        have d2 := (unhide HT).o2.cell (i := 1) rfl
        have f1 := (unhide HT).o1.frozen
        have f2 := (unhide HT).o2.frozen
        have z1 := OwnV.set (unhide HT).o1 0 (.float .f32 a) (by simp)
        have z2 := z1.set 1 (.float .f32 b) (by simp)
        have z3 := OwnV.set (OwnV.far' (OwnV.far' (unhide HT).o2 (show w.heap.size + 1 ≠ w.heap.size by omega) 0 (.float .f32 a)) (show w.heap.size + 1 ≠ w.heap.size by omega) 1 (.float .f32 b)) 0 (.float .f64 c) (by simp)
        have z4 := z3.set 1 (.float .f64 d) (by simp)
        have k1 := z1.cell (i := 0) rfl
        have k2 := z2.cell (i := 1) rfl
        have k3 := z3.cell (i := 0) rfl
        have k4 := z4.cell (i := 1) rfl
        clear z1 z2 z3 z4
        go_wp2
        refine bodyPost_ret (v := .tuple #[vS a b, vW c d]) (by simp [results, Try.results27, go_sem, vW, vS, k1, k2, k3, k4]) rfl ⟨a, b, c, d, rfl, ?_, ?_, ?_, ?_, below_put4 (unhide HT).below _ _ _ _⟩
        all_goals
          rw [unhide HF]
          assumption

end Go.Proofs.Yteohkabenbaaaaa

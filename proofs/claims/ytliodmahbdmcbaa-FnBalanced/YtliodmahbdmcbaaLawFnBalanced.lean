/- FnBalanced: whatever the bytes, twice the weights are balanced, one weight more is not, and what is greatest lies in its list. -/
import Derived.Test.YtliodmahbdmcbaaFbA
import Derived.Test.YtliodmahbdmcbaaAppK
import Derived.Test.YtliodmahbdmcbaaAtFix
import Derived.Test.YtliodmahbdmcbaaSgT5
import Derived.Deep.DeepMust
namespace Go.Proofs.Ytliodmahbdmcbaa
open Go.RowKit

/-- The two lists between two rounds. -/
structure BalW (N : Nat) (w A : World) (k : Nat) (W : List Int) (v v' : Value) : Prop where
  two : TwoR N 3 1 A v v' k k (ints W) (ints (dbl W))
  below : Below N w A
  len : W.length = k
  dr : ∀ x ∈ W, 0 ≤ x ∧ x ≤ 255
  fv : ∃ g c, v = .slice (some ⟨g, 0, none⟩) k c
  fv' : ∃ g c, v' = .slice (some ⟨g, 0, none⟩) k c

theorem balW_next {N : Nat} {w A B : World} {k : Nat} {W : List Int} {v v' v1 v1' : Value} (h : BalW N w A k W v v') (y : Int) (y0 : 0 ≤ y) (y1 : y ≤ 255)
    (ht : TwoR N 3 1 B v1 v1' (k + 1) (k + 1) (ints W ++ [.int .i64 y]) (ints (dbl W) ++ [.int .i64 (2 * y)])) (hb : Below N w B)
    (h5 : ∃ g c, v1 = .slice (some ⟨g, 0, none⟩) (k + 1) c) (h6 : ∃ g c, v1' = .slice (some ⟨g, 0, none⟩) (k + 1) c) : BalW N w B (k + 1) (W ++ [y]) v1 v1' := by
  refine ⟨?_, hb, by simp [h.len], fun q hq => ?_, h5, h6⟩
  · have e1 : ints (W ++ [y]) = ints W ++ [.int .i64 y] := by simp [ints]
    have e2 : ints (dbl (W ++ [y])) = ints (dbl W) ++ [.int .i64 (2 * y)] := by simp [ints, dbl]
    rw [e1, e2]; exact ht
  · rcases List.mem_append.1 hq with hq | hq
    · exact h.dr q hq
    · simp only [List.mem_singleton] at hq; omega

/-- The last cell of a row that was just appended to. -/
theorem last_cell {w : World} {base : Nat} {e : TypeId} {g k cap : Nat} {W : List Int} {y : Int} (h : w.ownsRow base e 1 (.slice (some ⟨g, 0, none⟩) (k + 1) cap) (k + 1) (ints W ++ [.int .i64 y])) (hl : W.length = k) : w.cell? ⟨g, k, none⟩ = some (.int .i64 y) := by
  have := h.cells (g := g) rfl k (.int .i64 y) (by rw [List.getElem?_append_right (by rw [ints_length]; omega), ints_length, hl]; simp)
  rwa [Go.WideShapes.add_plain, Nat.zero_add] at this

set_option maxRecDepth 10000 in
set_option maxHeartbeats 6400000 in
theorem fnBalanced_any (v : Value) (nb : Nat) (w : World) (h : BytesIn w.heap.size w v nb) :
    Calls Try.prog 3 #[v] w fun e w' => e = .returned (.bool true) ∧ Below w.heap.size w w' := by
  have HB := hide h
  obtain ⟨vao, vcap, rfl, hl, hm, _⟩ := h
  unfold maxLen at hm
  by_cases hbig : (1048576 : Int) < (nb : Int)
  · go_enter Try.func3, Try.ntmps3
    go_wp2_with fail
    refine (big_any _ _ _ _).mono ?_
    rintro e w' ⟨rfl, rfl⟩
    go_wp2
    go_ret
    exact ⟨rfl, Below.refl _ _⟩
  have hn : nb ≤ 1048576 := by omega
  obtain ⟨y0, y00, y01, at0⟩ := at_fix _ nb 0 w (unhide HB) hn (by omega)
  have AT0 := hide at0
  clear at0
  have hst : BalW w.heap.size w ((w.alloc (.cells #[] 3)).alloc (.cells #[] 3)) 0 [] (.slice (some ⟨w.heap.size, 0, none⟩) 0 0) (.slice (some ⟨w.heap.size + 1, 0, none⟩) 0 0) := by
    refine ⟨⟨⟨rfl, Or.inr ⟨w.heap.size, 0, #[], rfl, Nat.le_refl _, ?_, Nat.le_refl _, Nat.zero_le _, rfl, rfl⟩⟩, ⟨rfl, Or.inr ⟨w.heap.size + 1, 0, #[], rfl, by omega, ?_, Nat.le_refl _, Nat.zero_le _, rfl, rfl⟩⟩, fun g h1 h2 => ?_⟩, Below.step (Below.alloc1 _ _) (Below.alloc1 _ _), rfl, fun p hp => by simp at hp, ⟨_, _, rfl⟩, ⟨_, _, rfl⟩⟩
    · exact (Below.heap_alloc _ _ _ (by simp)).trans (Go.Deep.blk_alloc_new _ _)
    · have := Go.Deep.blk_alloc_new (w.alloc (.cells #[] 3)) (.cells #[] 3)
      simpa using this
    · simp only [Value.ownBlock, Option.some.injEq] at h1 h2; omega
  have HST := hide hst
  clear hst
  obtain ⟨i0, hi, hz0, hz1, hz2⟩ := info_parts Try.info3
  go_enter Try.func3, Try.ntmps3
  go_wp2_with fail
  refine (big_any _ _ _ _).mono ?_
  rintro e w' ⟨rfl, rfl⟩
  go_wp2
  go_loopg [3, 4, 5] (1 + y0 % 8).toNat (fun g lv mv i wr => ∃ (k : Nat) (W : List Int), (k : Int) ≤ 1 + y0 % 8 ∧ g = (1 + y0 % 8 - k).toNat ∧ i = .int .i64 k ∧ BalW w.heap.size w wr k W lv mv)
  case atStart => exact ⟨0, [], by omega, by simp, rfl, unhide HST⟩
  case round =>
    obtain ⟨k, W, hk, rfl, rfl, hS⟩ := hrel
    obtain ⟨gl, cl, rfl⟩ := hS.fv
    obtain ⟨gm, cm, rfl⟩ := hS.fv'
    have HS := hide hS
    have HWr := hide hS.below
    have HLEN := hide hS.len
    have hsz := hS.below.size
    clear hS HST
    go_wp2_with fail
    refine (unhide AT0 _ (unhide HWr)).mono ?_
    rintro e w1 ⟨rfl, hw1⟩
    have hw2 := hw1.symm
    subst hw2
    clear hw1
    by_cases hkc : (k : Int) < 1 + y0 % 8
    · have hk4 : k ≤ 7 := by omega
      go_wp2_with fail
      refine (at_i _ nb w.heap.size _ _ ((unhide HB).below (unhide HWr) (Nat.le_refl _)) hn (by omega) (by omega)).mono ?_
      rintro e w1 ⟨y1, rfl, a10, a11, hw1⟩
      subst hw1
      have H1 := hide ((unhide HS).two.below (Below.alloc1 wr (.cells #[.int .i64 y1] 3)))
      go_wp2_with (first | (at_builtin; refine wpList_append_lies _ rfl _ _ 24 rfl w.heap.size 3 i0 _ 1 8 Try.underlying24 hi hz0 hz1 hz2 rfl (by decide) _ k _ rfl (unhide H1).a ⟨wr.heap.size, 0, none⟩ 1 1 [.int .i64 y1] rfl rfl (cell_one_new _ _ _) (by simp [Value.oneCell']) (by omega) (by unfold maxLen; omega) (by omega) (by simp; omega) _ rfl ?_; intro g1 cap1 wa hown hgrow hat hlt; have HT2 := hide ((unhide H1).grown hown hgrow hat); have hza : wr.heap.size + 1 ≤ wa.heap.size := (by have := hgrow.size; simp at this; omega); have HWa := hide (((unhide HWr).alloc (by omega) (.cells #[.int .i64 y1] 3)).grown hgrow (by simp; omega) (fun g hg => ((unhide HS).two.a.lt g hg).1)); have c0 := last_cell hown (unhide HLEN); have H2 := hide ((unhide HT2).below (Below.alloc1 wa (.cells #[.int .i64 (2 * y1)] 3))).symm; have HWc := hide ((unhide HWa).alloc (by omega) (.cells #[.int .i64 (2 * y1)] 3)); obtain ⟨m, hm'⟩ : ∃ m : Nat, m = k + 1 := ⟨_, rfl⟩; rw [← hm']; have bm : (k : Int) < m := (by omega); have HM := hide hm'; clear H1 hown hgrow hat HT2 HWa hm') | (at_builtin; refine wpList_append_lies _ rfl _ _ 24 rfl w.heap.size 3 i0 _ 1 8 Try.underlying24 hi hz0 hz1 hz2 rfl (by decide) _ k _ rfl (unhide H2).a ⟨wa.heap.size, 0, none⟩ 1 1 [.int .i64 (2 * y1)] rfl rfl (cell_one_new _ _ _) (by simp [Value.oneCell']) (by omega) (by unfold maxLen; omega) (by omega) (by simp; omega) _ rfl ?_; intro g1 cap1 wa hown hgrow hat hlt; have HT3 := hide ((unhide H2).grown hown hgrow hat).symm; have HWb := hide ((unhide HWc).grown hgrow (by simp; omega) (fun g hg => ((unhide H2).a.lt g hg).1)); clear H2 hown hgrow hat HWc))
      go_roundg (1 + y0 % 8 - ((k + 1 : Nat) : Int)).toNat
      case measure => omega
      case rel =>
        have hmk := unhide HM
        subst hmk
        exact ⟨k + 1, W ++ [y1], by omega, rfl, by go_num, balW_next (unhide HS) y1 a10 a11 (unhide HT3) (unhide HWb) ⟨_, _, rfl⟩ ⟨_, _, rfl⟩⟩
    · have hS := unhide HS
      have hwok : wOk W := ⟨by have := hS.len; omega, hS.dr⟩
      have hkl1 : W.length ≤ k := by have := hS.len; omega
      have hkl2 : k ≤ W.length := by have := hS.len; omega
      have R0a := hide hS.two.a
      have R0b := hide hS.two.b
      have HNE : Hid (¬ gm = gl) := fun e => hS.two.ne gl rfl (by simp [Value.ownBlock, e])
      have HGL : Hid (w.heap.size ≤ gl) := (hS.two.a.lt gl rfl).1
      have HGM : Hid (w.heap.size ≤ gm) := (hS.two.b.lt gm rfl).1
      have HGMlt0 : Hid (gm < wr.heap.size) := (hS.two.b.lt gm rfl).2
      have HWOK := hide hwok
      have hk1 : 1 ≤ k := by omega
      have hk8 : k ≤ 8 := by omega
      clear hS hwok HS
      go_wp2_with fail
      refine (at_i _ nb w.heap.size _ _ ((unhide HB).below (unhide HWr) (Nat.le_refl _)) hn (by omega) (by omega)).mono ?_
      rintro e w1 ⟨y20, rfl, a10, a11, hw1⟩
      subst hw1
      have I1 := hide (implBalanced_any _ _ W (dbl W) (1 + y20 % 100) wr (ownsRow_ownSl (unhide R0a)).1.intsIn (ownsRow_ownSl (unhide R0b)).1.intsIn)
      rw [bal_true (unhide HWOK) (by omega) (by omega) (by omega)] at I1
      go_wp2_with fail
      refine (unhide I1).mono ?_
      rintro e w2 ⟨rfl, hb⟩
      have hzw2 := hb.size
      have R2a := hide ((ownsRow_below (unhide R0a) hb).alloc (.cells #[.int .i64 5] 3))
      have R2b := hide ((ownsRow_below (unhide R0b) hb).alloc (.cells #[.int .i64 5] 3))
      have HW2 := hide (Below.step (unhide HWr) hb)
      have HGMlt : Hid (gm < w2.heap.size) := by have := unhide HGMlt0; show _ < _; omega
      clear hb I1 R0a R0b HGMlt0 HWr
      go_wp2_with (first | (at_builtin; have xx := unhide R2a; clear xx; go_must (refine wpList_append_keeps _ (by rfl) _ _ 24 rfl w.heap.size 3 i0 _ 1 8 Try.underlying24 hi hz0 hz1 hz2 rfl (by decide) gl k cl _ rfl (unhide R2a) ⟨w2.heap.size, 0, none⟩ 1 1 [.int .i64 5] rfl rfl (cell_one_new _ _ _) (by simp [Value.oneCell']) (by omega) (by unfold maxLen; omega) (by omega) (by simp; omega) ?_); intro g1 cap1 wa hown hgrow hat hold; obtain ⟨g5, eg5⟩ : ∃ x, x = g1 := ⟨_, rfl⟩; obtain ⟨c5, ec5⟩ : ∃ x, x = cap1 := ⟨_, rfl⟩; obtain ⟨w5, ew5⟩ : ∃ x, x = wa := ⟨_, rfl⟩; rw [← eg5, ← ec5] at hown ⊢; rw [← ew5] at hown hgrow hold ⊢; rw [← eg5] at hat; clear eg5 ec5 ew5; have hz5 : w2.heap.size + 1 ≤ w5.heap.size := (by have := hgrow.size; simp at this; omega); have HW5 := hide (((unhide HW2).alloc (by omega) (.cells #[.int .i64 5] 3)).grown hgrow (by simp; omega) (fun g hg => by cases hg; exact unhide HGL)); have R5a := hide (hown.alloc (.cells #[.int .i64 0] 3)); have R5b := hide (hold.alloc (.cells #[.int .i64 0] 3)); have R5c := hide (((unhide R2b).kept hgrow (.inr (fun e => by simp only [Value.ownBlock, Option.some.injEq] at e; exact unhide HNE e))).alloc (.cells #[.int .i64 0] 3)); have HG5 : Hid (¬ g5 = gm) := (fun e => by rcases hat with h1 | h1; (· simp only [Option.some.injEq] at h1; exact unhide HNE (by omega)); (· simp at h1; have := unhide HGMlt; omega)); clear R2a R2b hown hgrow hat hold HW2) | (at_builtin; have xx := unhide R5c; clear xx; go_must (refine wpList_append_keeps _ (by rfl) _ _ 24 rfl w.heap.size 3 i0 _ 1 8 Try.underlying24 hi hz0 hz1 hz2 rfl (by decide) gm k cm _ rfl (unhide R5c) ⟨w5.heap.size, 0, none⟩ 1 1 [.int .i64 0] rfl rfl (cell_one_new _ _ _) (by simp [Value.oneCell']) (by omega) (by unfold maxLen; omega) (by omega) (by simp; omega) ?_); intro g1 cap1 wa hown hgrow hat hold; obtain ⟨g6, eg6⟩ : ∃ x, x = g1 := ⟨_, rfl⟩; obtain ⟨c6, ec6⟩ : ∃ x, x = cap1 := ⟨_, rfl⟩; obtain ⟨w6, ew6⟩ : ∃ x, x = wa := ⟨_, rfl⟩; rw [← eg6, ← ec6] at hown ⊢; rw [← ew6] at hown hgrow hold ⊢; clear eg6 ec6 ew6; have hz6 : w5.heap.size + 1 ≤ w6.heap.size := (by have := hgrow.size; simp at this; omega); have HW6 := hide (((unhide HW5).alloc (by omega) (.cells #[.int .i64 0] 3)).grown hgrow (by simp; omega) (fun g hg => by cases hg; exact unhide HGM)); have R6a := hide ((unhide R5a).kept hgrow (.inr (fun e => by simp only [Value.ownBlock, Option.some.injEq] at e; exact unhide HG5 e))); have R6b := hide ((unhide R5b).kept hgrow (.inr (fun e => by simp only [Value.ownBlock, Option.some.injEq] at e; exact unhide HNE e.symm))); have R6c := hide hold; have R6d := hide hown; clear R5a R5b R5c hown hgrow hat hold HW5 HG5))
      have I2 := hide (implBalanced_any _ _ (W ++ [5]) (dbl W ++ [0]) (1 + y20 % 100) w6 (ownsRow_ownSl (xs := W ++ [5]) (by rw [ints_snoc]; exact unhide R6a)).1.intsIn (ownsRow_ownSl (xs := dbl W ++ [0]) (by rw [ints_snoc]; exact unhide R6d)).1.intsIn)
      rw [bal_five] at I2
      refine (unhide I2).mono ?_
      rintro e w7 ⟨rfl, hb⟩
      have R7b := hide (ownsRow_below (unhide R6b) hb)
      have R7c := hide (ownsRow_below (unhide R6c) hb)
      have HW7 := hide (Below.step (unhide HW6) hb)
      clear hb I2 R6a R6b R6c R6d HW6 hz5 hz6 hzw2
      have nilIn : ∀ V, IntsIn V (.slice none 0 0) [] := fun V => ⟨none, 0, rfl, Nat.le_refl _, Nat.zero_le _, fun i hi => by simp at hi⟩
      have I3 := hide (implBalanced_any _ _ [] [] (1 + y20 % 100) w7 (nilIn _) (nilIn _))
      rw [bal_none] at I3
      clear nilIn
      go_wp2_with fail
      refine (unhide I3).mono ?_
      rintro e w8 ⟨rfl, hb⟩
      have R8b := hide (ownsRow_below (unhide R7b) hb)
      have R8c := hide (ownsRow_below (unhide R7c) hb)
      have HW8 := hide (Below.step (unhide HW7) hb)
      clear hb I3 R7b R7c HW7
      go_wp2_with fail
      refine (at_i _ nb w.heap.size _ _ ((unhide HB).below (unhide HW8) (Nat.le_refl _)) hn (by omega) (by omega)).mono ?_
      rintro e w1 ⟨y21, rfl, a20, a21, hw1⟩
      subst hw1
      have gW := (ownsRow_ownSl (unhide R8b)).1.intsIn
      have gB := (ownsRow_ownSl (unhide R8c)).1.intsIn
      obtain ⟨_, _, e0, gW0⟩ := intAt gW (show 0 < k by omega)
      simp only [Option.some.injEq, Addr.mk.injEq, and_true] at e0
      obtain ⟨rfl, rfl⟩ := e0
      obtain ⟨_, _, e0, gB0⟩ := intAt gB (show 0 < k by omega)
      simp only [Option.some.injEq, Addr.mk.injEq, and_true] at e0
      obtain ⟨rfl, rfl⟩ := e0
      rw [Nat.zero_add] at gW0 gB0
      have fB0 : w8.frozen? ⟨gm, 0, none⟩ = false := by
        rcases (unhide R8c).2 with ⟨hv, _⟩ | ⟨g', cap', cur, hv, hg, hh, _⟩
        · cases hv
        · simp only [Value.slice.injEq, Option.some.injEq, Addr.mk.injEq, and_true, true_and] at hv
          obtain ⟨rfl, rfl⟩ := hv
          simp [World.frozen?, hh]
      have hx0 : 0 ≤ W.getD 0 0 ∧ W.getD 0 0 ≤ 255 := (unhide HWOK).2 _ (by rw [getD_lt (show 0 < W.length by omega)]; exact List.getElem_mem _)
      have R9b := hide (ownsRow_setOther (unhide R8b) (a := ⟨gm, 0, none⟩) (fun e => by simp only [Value.ownBlock, Option.some.injEq] at e; exact unhide HNE e.symm) (.int .i64 (y21 * 3)))
      have R9c := hide (ownsRow_set (unhide R8c) 0 (.int .i64 (y21 * 3)))
      rw [ints_set] at R9c
      have HW9 := hide ((unhide HW8).setCell (p := ⟨gm, 0, none⟩) (unhide HGM) (.int .i64 (y21 * 3)))
      have zb : 0 ≤ y21 * 3 ∧ y21 * 3 ≤ 765 := by omega
      have zw : IntKind.i64.wrap (y21 * 3) = y21 * 3 := by rw [IntKind.wrap_i64]; omega
      have hki : (0 : Int) < k := by omega
      obtain ⟨z, ez⟩ : ∃ z, z = y21 * 3 := ⟨_, rfl⟩
      have HSH := hide (shOk_dbl (B := (dbl W).set 0 z) (unhide HWOK) (by simp [dbl]) (set_bd (unhide HWOK) (by omega) (by omega)))
      have ESH := hide (shAt_set (W := W) z (k - 1) (by omega))
      rw [← ez] at R9b R9c HW9 zb zw
      clear gW gB R8b R8c HW8 gW0
      go_wp2_with fail
      rw [← ez]
      clear ez gB0 fB0 zw
      obtain ⟨w9, ew9⟩ : ∃ x, x = w8.setCell ⟨gm, 0, none⟩ (.int .i64 z) := ⟨_, rfl⟩
      rw [← ew9] at R9b R9c HW9 ⊢
      clear ew9
      have HBE : Hid (beOk W ((dbl W).set 0 z) (1 + y20 % 100) = true) := by show _ = _; rw [beOk, unhide HSH, inB_mk (by omega) (by omega)]; rfl
      have I4 := hide (implShear2_any _ _ W ((dbl W).set 0 z) w9 (ownsRow_ownSl (unhide R9b)).1.intsIn (ownsRow_ownSl (unhide R9c)).1.intsIn)
      rw [unhide HSH] at I4
      refine (unhide I4).mono ?_
      rintro e w10 ⟨a4, n4, c4, rfl, ho, hb⟩
      obtain ⟨hn4, gs, rfl, hgs, hcs⟩ := shear_cells ho (unhide HSH)
      have hn4a : k + 1 ≤ n4 := by omega
      have hn4b : n4 ≤ k + 1 := by omega
      have RAb := hide (ownsRow_below (unhide R9b) hb)
      have RAc := hide (ownsRow_below (unhide R9c) hb)
      have HWA := hide (Below.step (unhide HW9) hb)
      have HCS := hide (hcs k (by omega))
      clear hb ho hcs I4 R9b R9c HW9 hn4
      have I5 := hide (implBending4_any _ _ W ((dbl W).set 0 z) (1 + y20 % 100) w10 (ownsRow_ownSl (unhide RAb)).1.intsIn (ownsRow_ownSl (unhide RAc)).1.intsIn)
      rw [unhide HBE] at I5
      go_wp2_with fail
      refine (unhide I5).mono ?_
      rintro e w11 ⟨a5, n5, c5', rfl, ho, hb⟩
      obtain ⟨hn5, gb, rfl, hgb, hcb⟩ := bend_cells ho (unhide HBE)
      have HIN := hide ho.intsIn
      have RBb := hide (ownsRow_below (unhide RAb) hb)
      have RBc := hide (ownsRow_below (unhide RAc) hb)
      have HWB := hide (Below.step (unhide HWA) hb)
      have cS := (hb.cell hgs).trans (unhide HCS)
      have HCB := hide hcb
      have HGB := hide hgb
      clear hb ho hcb I5 RAb RAc HWA HCS
      have gW := (ownsRow_ownSl (unhide RBb)).1.intsIn
      have gB := (ownsRow_ownSl (unhide RBc)).1.intsIn
      obtain ⟨_, _, e0, cW⟩ := intAt gW (show 0 < k by omega)
      simp only [Option.some.injEq, Addr.mk.injEq, and_true] at e0
      obtain ⟨rfl, rfl⟩ := e0
      obtain ⟨_, _, e0, cB⟩ := intAt gB (show 0 < k by omega)
      simp only [Option.some.injEq, Addr.mk.injEq, and_true] at e0
      obtain ⟨rfl, rfl⟩ := e0
      rw [Nat.zero_add] at cW cB
      rw [show ((dbl W).set 0 z).getD 0 0 = z by simp [List.getD, dbl, show 0 < W.length by omega]] at cB
      rw [show k = k - 1 + 1 by omega, unhide ESH, show k - 1 + 1 = k by omega] at cS
      have hnn : n4 = k + 1 := by omega
      have hn45 : n5 = n4 := by omega
      have e1 : ((n4 : Int) != (k : Int) + 1) = false := by simp; omega
      have e2 : ((n5 : Int) != (n4 : Int)) = false := by simp; omega
      have e3 : IntKind.i64.wrap ((n4 : Int) - 1) = (k : Int) := by rw [IntKind.wrap_i64]; omega
      have e3' : (n4 : Int) - 1 = (k : Int) := by omega
      have e4 : (k : Int) < n4 := by omega
      have HN5 := hide hn5
      have hn5b : n5 ≤ 9 := by omega
      have hn5a : 1 ≤ n5 := by omega
      clear gW gB RBb RBc ESH hnn hn45 hn5 hgs hgb
      generalize W.getD 0 0 = x0 at *
      obtain ⟨hx1, hx2⟩ := hx0
      obtain ⟨zb1, zb2⟩ := zb
      go_wp2
      go_quiet (fail)
      obtain ⟨w12, ew⟩ : ∃ x, x = w11.drewN nq := ⟨_, rfl⟩
      rw [← ew]
      replace HWB : Hid (Below w.heap.size w w12) := by show Below _ _ _; rw [ew]; exact below_drewN (unhide HWB) nq
      replace HIN : Hid (IntsIn w12 (.slice (some ⟨gb, 0, none⟩) n5 c5') (bend W ((dbl W).set 0 z) (1 + y20 % 100))) := by show IntsIn _ _ _; rw [ew]; exact (unhide HIN).drewN nq
      clear ew cS cW cB HCB HGB e1 e2 e3 e3' e4
      have hLb : ∀ j, j < n5 → -640000000000 ≤ (bend W ((dbl W).set 0 z) (1 + y20 % 100)).getD j 0 ∧ (bend W ((dbl W).set 0 z) (1 + y20 % 100)).getD j 0 ≤ 640000000000 := fun j hj => by
        have eb : bend W ((dbl W).set 0 z) (1 + y20 % 100) = (List.range (W.length + 1)).map (beAt W ((dbl W).set 0 z) (1 + y20 % 100)) := by rw [bend, if_pos (unhide HBE)]
        have hj' : j < W.length + 1 := by have := unhide HN5; omega
        rw [eb, show ((List.range (W.length + 1)).map (beAt W ((dbl W).set 0 z) (1 + y20 % 100))).getD j 0 = beAt W ((dbl W).set 0 z) (1 + y20 % 100) j by simp [List.getD, hj']]
        exact beAt_bd (beOk_r (unhide HBE)).1 (beOk_r (unhide HBE)).2 (by omega)
      obtain ⟨L, eL⟩ : ∃ L, L = bend W ((dbl W).set 0 z) (1 + y20 % 100) := ⟨_, rfl⟩
      rw [← eL] at HIN hLb
      clear eL HBE HSH HWOK
      obtain ⟨hL1, hL2, hL3⟩ := (unhide HIN).len
      have HLL := hide hL1
      clear hL1
      obtain ⟨p0, p1, p2, p3⟩ := gSt_max L L.length (by have := unhide HLL; omega)
      obtain ⟨pp, epp⟩ := Int.eq_ofNat_of_zero_le p0
      rw [epp] at p1 p2
      rw [Int.toNat_natCast] at p2
      have hpn : pp < n5 := by have := unhide HLL; omega
      have I6 := hide (implGreatest_any _ L w12 (unhide HIN) (fun i hi => by have := hLb i (by have := unhide HLL; omega); unfold in64; omega))
      rw [gAt, gOf, epp] at I6
      have hXb := hLb pp hpn
      rw [p2] at hXb
      have HP3 : Hid (∀ j, j < n5 → (L.getD j 0).natAbs ≤ (gSt L L.length).2.natAbs) := fun j hj => p3 j (by have := unhide HLL; omega)
      have HLB := hide hLb
      obtain ⟨_, _, e0, cP⟩ := intAt (unhide HIN) hpn
      simp only [Option.some.injEq, Addr.mk.injEq, and_true] at e0
      obtain ⟨rfl, rfl⟩ := e0
      rw [Nat.zero_add, p2] at cP
      clear p0 p1 p2 p3 epp hLb
      generalize (gSt L L.length).2 = X at *
      have HCP := hide cP
      clear cP
      go_wp2_with fail
      refine (unhide I6).mono ?_
      rintro e w13 ⟨rfl, hb⟩
      replace HIN := hide ((unhide HIN).below hb)
      replace HWB := hide (Below.step (unhide HWB) hb)
      have cP := (hb.cell (lt_of_cell (unhide HCP))).trans (unhide HCP)
      clear hb I6 HCP
      have d1 : decide ((pp : Int) < 0) = false := by simp
      have d2 : (pp : Int) < n5 := by omega
      have d3 : decide ((n5 : Int) ≤ (pp : Int)) = false := by simp; omega
      have d3' : decide (n5 ≤ pp) = false := by simp; omega
      obtain ⟨hX1, hX2⟩ := hXb
      go_wp2
      go_loopg [13] n5 (fun g i wr => wr = w13 ∧ ∃ j : Nat, j ≤ n5 ∧ g = n5 - j ∧ i = .int .i64 j)
      case atStart => exact ⟨rfl, 0, Nat.zero_le _, rfl, rfl⟩
      case round =>
        obtain ⟨rfl, j, hj, rfl, rfl⟩ := hrel
        by_cases hjn : j < n5
        · obtain ⟨_, _, e0, cJ⟩ := intAt (unhide HIN) hjn
          simp only [Option.some.injEq, Addr.mk.injEq, and_true] at e0
          obtain ⟨rfl, rfl⟩ := e0
          rw [Nat.zero_add] at cJ
          obtain ⟨q1, q2⟩ := unhide HLB j hjn
          have q3 := unhide HP3 j hjn
          generalize L.getD j 0 = q at *
          have S1 := hide (lsize_any q wr (by omega) (by omega))
          have S2 := hide (lsize_any X wr (by omega) (by omega))
          have q4 : ¬ (X.natAbs : Int) < (q.natAbs : Int) := by omega
          have d5 : decide (X.natAbs < q.natAbs) = false := by simp; omega
          have d6 : decide ((X.natAbs : Int) < (q.natAbs : Int)) = false := by simp; omega
          have hjk : (j : Int) < n5 := by omega
          generalize X.natAbs = ax at *
          generalize q.natAbs = aq at *
          clear q3 q1 q2
          go_wp2_with fail
          refine (unhide S1).mono ?_
          rintro e w' ⟨rfl, rfl⟩
          clear S1
          go_wp2_with fail
          refine (unhide S2).mono ?_
          rintro e w' ⟨rfl, rfl⟩
          clear S2
          go_wp2
          go_roundg (n5 - (j + 1))
          case measure => omega
          case rel => exact ⟨rfl, j + 1, by omega, rfl, by go_num⟩
        · have hjj : (n5 : Int) ≤ j := by omega
          go_wp2
          go_ret
          exact ⟨rfl, unhide HWB⟩

end Go.Proofs.Ytliodmahbdmcbaa

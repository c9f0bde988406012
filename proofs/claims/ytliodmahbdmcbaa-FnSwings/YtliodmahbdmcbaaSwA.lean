/- The stack of turns: a box that holds a slice which may begin within its block; contracts of its methods and of gap. -/
import Derived.Test.YtliodmahbdmcbaaSgBs
import Derived.Test.YtliodmahbdmcbaaKept
import Derived.Deep.RegionWith
import Derived.ArgAppend
import Derived.RangeFuncNested
import Derived.Deep.DeepMust
namespace Go.Proofs.Ytliodmahbdmcbaa
open Go.RowKit

/-- The stack in block B holds xs; its numbers lie in block gb, if it has one. -/
def Stk (A : World) (B : Nat) (gb : Option Nat) (xs : List Int) : Prop :=
  (gb = none ∧ xs = [] ∧ Boxed A B 67 (.slice none 0 0)) ∨
  ∃ g o cap, gb = some g ∧ g ≠ B ∧ g < A.heap.size ∧ Boxed A B 67 (.slice (some ⟨g, o, none⟩) xs.length cap) ∧ xs.length ≤ cap ∧ cap ≤ maxLen ∧ (∀ i, i < xs.length → A.cell? ⟨g, o + i, none⟩ = some (.int .i64 (xs.getD i 0))) ∧
    (∀ i, i < cap → (A.cell? ⟨g, o + i, none⟩).isSome = true ∧ A.frozen? ⟨g, o + i, none⟩ = false)

theorem ints_snoc1 (xs : List Int) (x : Int) : ints (xs ++ [x]) = ints xs ++ [.int .i64 x] := by simp [ints]

theorem Stk.same {A A' : World} {B : Nat} {gb : Option Nat} {xs : List Int} (h : Stk A B gb xs) (hB : A'.heap[B]? = A.heap[B]?) (hg : ∀ g, gb = some g → A'.heap[g]? = A.heap[g]?) : Stk A' B gb xs := by
  rcases h with ⟨rfl, rfl, hb⟩ | ⟨g, o, cap, rfl, h0, hlt, hb, h1, h2, h3, h4⟩
  · exact Or.inl ⟨rfl, rfl, hB.trans hb⟩
  · have e := hg g rfl
    exact Or.inr ⟨g, o, cap, rfl, h0, by rw [Array.getElem?_eq_getElem hlt] at e; exact (Array.getElem?_eq_some_iff.1 e).1, hB.trans hb, h1, h2, fun i hi => (World.cell?_of_block (w := A) (a := ⟨g, o + i, none⟩) e).trans (h3 i hi), fun i hi => ⟨by rw [World.cell?_of_block (w := A) (a := ⟨g, o + i, none⟩) e]; exact (h4 i hi).1, (World.frozen?_of_block (w := A) (a := ⟨g, o + i, none⟩) e).trans (h4 i hi).2⟩⟩

theorem Stk.lt {A : World} {B : Nat} {gb : Option Nat} {xs : List Int} (h : Stk A B gb xs) : B < A.heap.size := by
  rcases h with ⟨rfl, rfl, hb⟩ | ⟨g, o, cap, rfl, h0, _, hb, _⟩
  · exact hb.lt
  · exact hb.lt

theorem Stk.below {A A' : World} {B : Nat} {gb : Option Nat} {xs : List Int} (h : Stk A B gb xs) (hb : Below A.heap.size A A') : Stk A' B gb xs := by
  refine h.same (hb.block _ h.lt) (fun g hg => ?_)
  rcases h with ⟨rfl, rfl, _⟩ | ⟨g', o, cap, rfl, h0, hlt, _⟩
  · cases hg
  · cases hg
    exact hb.block _ hlt

theorem count_any (B : Nat) (gb : Option Nat) (xs : List Int) (w : World) (h : Stk w B gb xs) :
    Calls Try.prog 51 #[.pointer (some ⟨B, 0, none⟩)] w fun e w' => e = .returned (.int .i64 xs.length) ∧ w = w' := by
  rcases h with ⟨rfl, rfl, hb⟩ | ⟨g, o, cap, rfl, h0, hlt, hb, h1, h2, h3, h4⟩
  · have c := hb.cell
    clear hb
    go_enter Try.func51, Try.ntmps51
    go_wp2
    go_ret
    exact ⟨rfl, rfl⟩
  · have c := hb.cell
    clear hb h3 h4
    go_enter Try.func51, Try.ntmps51
    go_wp2
    go_ret
    exact ⟨rfl, rfl⟩

theorem last_any (B : Nat) (gb : Option Nat) (xs : List Int) (c : Int) (n : Nat) (w : World) (h : Stk w B gb xs) (hc : c = n) (hn : n < xs.length) (hl : xs.length ≤ 1000) :
    Calls Try.prog 72 #[.pointer (some ⟨B, 0, none⟩), .int .i64 c] w fun e w' => e = .returned (.int .i64 (xs.getD (xs.length - 1 - n) 0)) ∧ Below w.heap.size w w' := by
  rcases h with ⟨rfl, rfl, hb⟩ | ⟨g, o, cap, rfl, h0, hlt, hb, h1, h2, h3, h4⟩
  · simp at hn
  · have cb := hb.cell
    have cx := h3 (xs.length - 1 - n) (by omega)
    obtain ⟨j, ej⟩ : ∃ j, j = xs.length - 1 - n := ⟨_, rfl⟩
    rw [← ej] at cx ⊢
    have HR := hide ej
    have q1 : IntKind.i64.wrap ((xs.length : Int) - 1) = (xs.length : Int) - 1 := by rw [IntKind.wrap_i64]; omega
    have q2 : IntKind.i64.wrap ((xs.length : Int) - 1 - c) = (j : Int) := by rw [IntKind.wrap_i64]; omega
    have q2' : (xs.length : Int) - 1 - c = (j : Int) := by omega
    have q3 : (j : Int) < xs.length := by omega
    generalize xs.getD j 0 = x at *
    clear hb h3 h4 ej hc
    go_enter Try.func72, Try.ntmps72
    go_wp2
    go_quiet (fail)
    go_wp2
    go_ret
    exact ⟨rfl, below_drewN (Below.refl _ _) _⟩

theorem first_any (B : Nat) (gb : Option Nat) (xs : List Int) (c : Int) (n : Nat) (w : World) (h : Stk w B gb xs) (hc : c = n) (hn : n < xs.length) :
    Calls Try.prog 53 #[.pointer (some ⟨B, 0, none⟩), .int .i64 c] w fun e w' => e = .returned (.int .i64 (xs.getD n 0)) ∧ w = w' := by
  subst hc
  rcases h with ⟨rfl, rfl, hb⟩ | ⟨g, o, cap, rfl, h0, hlt, hb, h1, h2, h3, h4⟩
  · simp at hn
  · have cb := hb.cell
    have cx := h3 n hn
    have q3 : (n : Int) < xs.length := by omega
    generalize xs.getD n 0 = x at *
    clear hb h3 h4
    go_enter Try.func53, Try.ntmps53
    go_wp2
    go_ret
    exact ⟨rfl, rfl⟩

theorem dropFirst_any (B : Nat) (gb : Option Nat) (xs : List Int) (w : World) (h : Stk w B gb xs) (hn : 2 ≤ xs.length) :
    Calls Try.prog 54 #[.pointer (some ⟨B, 0, none⟩)] w fun e w' => e = .returned (.tuple #[]) ∧ Stk w' B gb xs.tail ∧ Kept (fun k => k = B) w w' := by
  rcases h with ⟨rfl, rfl, hb⟩ | ⟨g, o, cap, rfl, h0, hlt, hb, h1, h2, h3, h4⟩
  · simp at hn
  · have cb := hb.cell
    have fb := hb.frozen
    have HB := hide hb
    have H3 := hide h3
    have H4 := hide h4
    unfold maxLen at h2
    clear hb h3 h4
    go_enter Try.func54, Try.ntmps54
    go_wp2
    go_end0
    refine ⟨rfl, Or.inr ⟨g, o + 1, cap - 1, rfl, h0, by simpa [World.setCell] using hlt, ?_, by simp; omega, by unfold maxLen; omega, fun i hi => ?_, fun i hi => ?_⟩, (Kept.refl (fun k => k = B) w).setCell (p := ⟨B, 0, none⟩) rfl _⟩
    · rw [List.length_tail]; exact (unhide HB).set _
    · rw [List.length_tail] at hi
      rw [World.cell?_setCell_other _ _ _ _ (fun e => h0 (by simpa using (congrArg Addr.block e).symm)), show o + 1 + i = o + (i + 1) by omega, unhide H3 (i + 1) (by omega)]
      simp [List.getD, List.tail]
      cases xs <;> simp
    · rw [World.cell?_setCell_other _ _ _ _ (by simp), World.frozen?_setCell, show o + 1 + i = o + (i + 1) by omega]
      exact unhide H4 (i + 1) (by omega)

set_option maxHeartbeats 800000 in
theorem pop_any (B : Nat) (gb : Option Nat) (xs : List Int) (w : World) (h : Stk w B gb xs) (hn : 1 ≤ xs.length) (hl : xs.length ≤ 1000) :
    Calls Try.prog 73 #[.pointer (some ⟨B, 0, none⟩)] w fun e w' => e = .returned (.int .i64 (xs.getD (xs.length - 1) 0)) ∧ Stk w' B gb xs.dropLast ∧ Kept (fun k => k = B) w w' := by
  have HS := hide h
  have HL := hide (last_any B gb xs 0 0 w h rfl (by omega) hl)
  go_enter Try.func73, Try.ntmps73
  go_wp2_with fail
  refine (unhide HL).mono ?_
  rintro e w1 ⟨rfl, hb1⟩
  rw [Nat.sub_zero]
  have HB1 := hide hb1
  have hS1 := (unhide HS).below hb1
  clear hb1 HL HS h
  rcases hS1 with ⟨rfl, rfl, hb⟩ | ⟨g, o, cap, rfl, h0, hlt, hb, h1, h2, h3, h4⟩
  · simp at hn
  · have cb := hb.cell
    have fb := hb.frozen
    have HB := hide hb
    have H3 := hide h3
    have H4 := hide h4
    unfold maxLen at h2
    obtain ⟨m, em⟩ : ∃ m, m = xs.length - 1 := ⟨_, rfl⟩
    rw [← em]
    have q1 : IntKind.i64.wrap ((xs.length : Int) - 1) = (m : Int) := by rw [IntKind.wrap_i64]; omega
    have q1' : (xs.length : Int) - 1 = (m : Int) := by omega
    have q2 : (m : Int) ≤ cap := by omega
    have q3 : IntKind.i64.wrap (m : Int) = (m : Int) := by rw [IntKind.wrap_i64]; omega
    have HM := hide em
    clear hb h3 h4 em
    have FIN : Hid (∀ W' : World, W'.heap = (w1.setCell ⟨B, 0, none⟩ (.slice (some ⟨g, o, none⟩) m cap)).heap → W'.os = w1.os → W'.tape = w1.tape → W'.output = w1.output → Stk W' B (some g) xs.dropLast ∧ Kept (fun k => k = B) w W') := by
      intro W' e1 e2 e3 e4
      have hk : Kept (fun k => k = B) w1 (w1.setCell ⟨B, 0, none⟩ (.slice (some ⟨g, o, none⟩) m cap)) := (Kept.refl (fun k => k = B) w1).setCell (p := ⟨B, 0, none⟩) rfl _
      have hm := unhide HM
      refine ⟨?_, (kept_of_below (unhide HB1)).trans ⟨e2, e3, e4, by rw [e1]; exact hk.size, fun k h1 h2 => by rw [e1]; exact hk.block k h1 h2⟩⟩
      have hst : Stk (w1.setCell ⟨B, 0, none⟩ (.slice (some ⟨g, o, none⟩) m cap)) B (some g) xs.dropLast := by
        refine Or.inr ⟨g, o, cap, rfl, h0, by simpa [World.setCell] using hlt, ?_, by simp; omega, by unfold maxLen; omega, fun i hi => ?_, fun i hi => ?_⟩
        · rw [List.length_dropLast, ← hm]; exact (unhide HB).set _
        · rw [List.length_dropLast] at hi
          rw [World.cell?_setCell_other _ _ _ _ (fun e => h0 (by simpa using (congrArg Addr.block e).symm)), unhide H3 i (by omega)]
          simp [List.getD, hi, show i < xs.length by omega]
        · rw [World.cell?_setCell_other _ _ _ _ (fun e => h0 (by simpa using (congrArg Addr.block e).symm)), World.frozen?_setCell]
          exact unhide H4 i hi
      exact hst.same (by rw [e1]) (fun _ _ => by rw [e1])
    have HX : Hid (xs.getD m 0 = xs.getD (xs.length - 1) 0) := by show _ = _; rw [unhide HM]
    generalize xs.getD m 0 = x at *
    go_wp2
    go_region_law (fail)
    all_goals
      go_wp2
      go_ret
      exact ⟨ret_int (unhide HX), unhide FIN _ rfl rfl rfl rfl⟩

/-- A stack that was pushed on. -/
structure Pushed (w w' : World) (B : Nat) (gb gb' : Option Nat) (ys : List Int) : Prop where
  stk : Stk w' B gb' ys
  kept : Kept (fun k => k = B ∨ gb = some k) w w'
  own : gb' = gb ∨ ∃ g, gb' = some g ∧ w.heap.size ≤ g

set_option maxHeartbeats 1600000 in
theorem push_any (B : Nat) (gb : Option Nat) (xs : List Int) (x : Int) (w : World) (h : Stk w B gb xs) (hl : xs.length ≤ 1000) :
    Calls Try.prog 48 #[.pointer (some ⟨B, 0, none⟩), .int .i64 x] w fun e w' => e = .returned (.tuple #[]) ∧ ∃ gb', Pushed w w' B gb gb' (xs ++ [x]) := by
  obtain ⟨i0, hi, hz0, hz1, hz2⟩ := info_parts Try.info3
  have hBlt := h.lt
  have A1 := Below.alloc1 w (.cells #[.int .i64 x] 3)
  -- what the growing arm leaves
  have GROW : ∀ (sv : Value) (v' : Value) (w1 : World), Boxed w B 67 sv → w1.ownsRow (w.alloc (.cells #[.int .i64 x] 3)).heap.size 3 1 v' (xs.length + 1) (ints xs ++ [.int .i64 x]) → (w.alloc (.cells #[.int .i64 x] 3)).grownBy w1 none →
      ∃ g cap, v' = .slice (some ⟨g, 0, none⟩) (xs.length + 1) cap ∧ w1.cell? ⟨B, 0, none⟩ = some sv ∧ w1.frozen? ⟨B, 0, none⟩ = false ∧ ∃ gb', Pushed w (w1.setCell ⟨B, 0, none⟩ (.slice (some ⟨g, 0, none⟩) (xs.length + 1) cap)) B gb gb' (xs ++ [x]) := by
    intro sv v' w1 hb hown hgrow
    obtain ⟨g, cap, rfl⟩ := ownsRow_some hown
    have hb1 : Boxed w1 B 67 sv := (hb.alloc _).kept hgrow (by simp)
    obtain ⟨hge, hglt⟩ := hown.lt g rfl
    simp only [World.size_alloc] at hge
    refine ⟨g, cap, rfl, hb1.cell, hb1.frozen, some g, ⟨?_, ?_, Or.inr ⟨g, rfl, by omega⟩⟩⟩
    · have hgB : g ≠ B := by omega
      rcases hown.2 with ⟨hv, _⟩ | ⟨g', cap', cur, hv, hg, hh, hc, hm, hs, ht⟩
      · cases hv
      simp only [Value.slice.injEq, Option.some.injEq, Addr.mk.injEq, and_true, true_and] at hv
      obtain ⟨rfl, rfl⟩ := hv
      refine Or.inr ⟨g, 0, cap, rfl, hgB, by simpa [World.setCell] using hglt, by simpa using hb1.set _, by simpa using hc, hm, fun i hi => ?_, fun i hi => ?_⟩
      · rw [World.cell?_setCell_other _ _ _ _ (fun e => hgB (by simpa using (congrArg Addr.block e).symm))]
        have := hown.cells (g := g) rfl i (.int .i64 ((xs ++ [x]).getD i 0)) (by rw [← ints_snoc1, ints_get _ hi])
        rwa [Go.WideShapes.add_plain] at this
      · rw [World.cell?_setCell_other _ _ _ _ (fun e => hgB (by simpa using (congrArg Addr.block e).symm)), World.frozen?_setCell]
        have hi' : i < cur.size := by rw [hs]; omega
        refine ⟨?_, by simp [World.frozen?, hh]⟩
        rw [cell_of_row w1 g (0 + i) cur 3 (0, 0) hh]
        simp [hi']
    · refine Kept.setCell ?_ (p := ⟨B, 0, none⟩) (Or.inl rfl) _
      exact ⟨hgrow.os, hgrow.tape, hgrow.output, by have := hgrow.size; simp at this; omega, fun k hk _ => (hgrow.block k (by simp; omega) (by simp)).trans (Below.heap_alloc _ _ _ hk)⟩
  have HG := hide GROW
  clear GROW
  rcases h with ⟨rfl, rfl, hb⟩ | ⟨g, o, cap, rfl, h0, hlt, hb, h1, h2, h3, h4⟩
  · have cb := hb.cell
    have HB := hide hb
    clear hb
    go_enter Try.func48, Try.ntmps48
    go_wp2_with (at_builtin; go_must (refine wpList_append_grows _ rfl _ _ 24 rfl 3 i0 _ 1 8 Try.underlying24 hi hz0 hz1 hz2 rfl (by decide) none 0 0 [] rfl (fun _ => ⟨rfl, rfl⟩) rfl (fun b e => by cases e) ⟨w.heap.size, 0, none⟩ 1 1 [.int .i64 x] rfl rfl (cell_one_new _ _ _) (by simp [Value.oneCell']) (by omega) (by unfold maxLen; omega) (by omega) ?_); intro v' w1 hown hgrow; obtain ⟨g, cap, rfl, cB, fB, hP⟩ := unhide HG _ v' w1 (unhide HB) (by simpa [ints] using hown) hgrow; have HP := hide hP; clear hP hown hgrow)
    go_end0
    exact ⟨rfl, unhide HP⟩
  · have cb := hb.cell
    have fb := hb.frozen
    have HB := hide hb
    have H3 := hide h3
    have H4 := hide h4
    have hB2 : B ≠ g := fun e => h0 e.symm
    have hne1 : ¬ B = w.heap.size := by omega
    have hne2 : ¬ g = w.heap.size := by omega
    have HR : Hid (xs.length + 1 ≤ cap → ∃ gb', Pushed w (((w.alloc (.cells #[.int .i64 x] 3)).setCell ⟨g, o + xs.length, none⟩ (.int .i64 x)).setCell ⟨B, 0, none⟩ (.slice (some ⟨g, o, none⟩) (xs.length + 1) cap)) B (some g) gb' (xs ++ [x])) := by
      intro hroom
      have hA : Boxed ((w.alloc (.cells #[.int .i64 x] 3)).setCell ⟨g, o + xs.length, none⟩ (.int .i64 x)) B 67 (.slice (some ⟨g, o, none⟩) xs.length cap) :=
        (Below.heap_setCell _ _ _ _ hB2).trans ((Below.heap_alloc _ _ _ hBlt).trans hb)
      refine ⟨some g, ⟨Or.inr ⟨g, o, cap, rfl, h0, by simp [World.setCell]; omega, by simpa using hA.set _, by simpa using hroom, h2, fun i hi => ?_, fun i hi => ?_⟩, ?_, Or.inl rfl⟩⟩
      · rw [World.cell?_setCell_other _ _ _ _ (fun e => h0 (by simpa using (congrArg Addr.block e).symm))]
        by_cases e : i = xs.length
        · subst e
          rw [World.cell?_setCell_same' _ _ _ (by rw [World.cell?_of_block (w := w) (a := ⟨g, o + xs.length, none⟩) (Below.heap_alloc _ _ _ hlt)]; exact (h4 xs.length (by omega)).1)]
          simp [List.getD]
        · have hi' : i < xs.length := by simp at hi; omega
          rw [World.cell?_setCell_other _ _ _ _ (by simp only [ne_eq, Addr.mk.injEq]; omega), World.cell?_of_block (w := w) (a := ⟨g, o + i, none⟩) (Below.heap_alloc _ _ _ hlt), h3 i hi']
          simp [List.getD, List.getElem?_append, hi']
      · rw [World.cell?_setCell_other _ _ _ _ (fun e => h0 (by simpa using (congrArg Addr.block e).symm)), World.frozen?_setCell, World.frozen?_setCell, World.frozen?_of_block (w := w) (a := ⟨g, o + i, none⟩) (Below.heap_alloc _ _ _ hlt)]
        refine ⟨?_, (h4 i hi).2⟩
        by_cases e : i = xs.length
        · subst e
          rw [World.cell?_setCell_same' _ _ _ (by rw [World.cell?_of_block (w := w) (a := ⟨g, o + xs.length, none⟩) (Below.heap_alloc _ _ _ hlt)]; exact (h4 xs.length (by omega)).1)]
          rfl
        · rw [World.cell?_setCell_other _ _ _ _ (by simp only [ne_eq, Addr.mk.injEq]; omega), World.cell?_of_block (w := w) (a := ⟨g, o + i, none⟩) (Below.heap_alloc _ _ _ hlt)]
          exact (h4 i hi).1
      · exact Kept.setCell (Kept.setCell (kept_of_below (Below.alloc1 _ _)) (p := ⟨g, o + xs.length, none⟩) (Or.inr rfl) _) (p := ⟨B, 0, none⟩) (Or.inl rfl) _
    have cB2 : ((w.alloc (.cells #[.int .i64 x] 3)).setCell ⟨g, o + xs.length, none⟩ (.int .i64 x)).cell? ⟨B, 0, none⟩ = some (.slice (some ⟨g, o, none⟩) xs.length cap) := by
      rw [World.cell?_setCell_other _ _ _ _ (fun e => h0 (by simpa using congrArg Addr.block e)), World.cell?_of_block (w := w) (a := ⟨B, 0, none⟩) (Below.heap_alloc _ _ _ hBlt)]; exact cb
    have fB2 : ((w.alloc (.cells #[.int .i64 x] 3)).setCell ⟨g, o + xs.length, none⟩ (.int .i64 x)).frozen? ⟨B, 0, none⟩ = false := by
      rw [World.frozen?_setCell, World.frozen?_of_block (w := w) (a := ⟨B, 0, none⟩) (Below.heap_alloc _ _ _ hBlt)]; exact fb
    have HSP : Hid (xs.length + 1 ≤ cap → ∀ j, j < 1 → ((w.alloc (.cells #[.int .i64 x] 3)).cell? ⟨g, o + xs.length * 1 + j, none⟩).isSome = true ∧ (w.alloc (.cells #[.int .i64 x] 3)).frozen? ⟨g, o + xs.length * 1 + j, none⟩ = false) := by
      intro hroom j hj
      obtain rfl : j = 0 := by omega
      rw [Nat.mul_one, Nat.add_zero, World.cell?_of_block (w := w) (a := ⟨g, o + xs.length, none⟩) (Below.heap_alloc _ _ _ hlt), World.frozen?_of_block (w := w) (a := ⟨g, o + xs.length, none⟩) (Below.heap_alloc _ _ _ hlt)]
      exact h4 xs.length (by omega)
    have HOL : Hid (∀ j u, (ints xs)[j]? = some u → (w.alloc (.cells #[.int .i64 x] 3)).cell? ⟨g, o + j, none⟩ = some u) := by
      intro j u hu
      have hj : j < xs.length := by
        rcases Nat.lt_or_ge j xs.length with h | h
        · exact h
        · rw [List.getElem?_eq_none (by rw [ints_length]; exact h)] at hu; cases hu
      rw [World.cell?_of_block (w := w) (a := ⟨g, o + j, none⟩) (Below.heap_alloc _ _ _ hlt), h3 j hj, ← ints_get xs hj]
      exact hu
    unfold maxLen at h2
    clear hb h3 h4
    go_enter Try.func48, Try.ntmps48
    go_wp2_with (at_builtin; go_must (refine wpList_append_arg _ rfl _ _ 24 rfl 3 i0 _ 1 8 Try.underlying24 hi hz0 hz1 hz2 rfl (by decide) g o xs.length cap (ints xs) rfl (by rw [ints_length]; omega) (unhide HOL) ⟨w.heap.size, 0, none⟩ 1 1 [.int .i64 x] rfl rfl (cell_one_new _ _ _) (by simp [Value.oneCell']) (unhide HSP) (by unfold maxLen; omega) (by omega) ?_ ?_))
    · intro hroom
      have hP := unhide HR hroom
      rw [World.setCell_alloc_past (hn := hlt), World.setCell_alloc_past (hn := by simpa [World.setCell] using hBlt)] at hP
      have HP := hide hP
      clear hP
      unfold World.setCells World.setCells
      clear HR
      go_wp2
      go_end0
      exact ⟨rfl, unhide HP⟩
    · intro hfull v' w1 hown hgrow
      obtain ⟨g', cap', rfl, cB, fB, hP⟩ := unhide HG _ v' w1 (unhide HB) (by simpa using hown) hgrow
      have HP := hide hP
      clear hP hown hgrow cB2 fB2
      go_wp2
      go_end0
      exact ⟨rfl, unhide HP⟩

theorem gap_any (a b : Int) (w : World) (h1 : -1000000000 ≤ a) (h2 : a ≤ 1000000000) (h3 : -1000000000 ≤ b) (h4 : b ≤ 1000000000) :
    Calls Try.prog 52 #[.int .i64 a, .int .i64 b] w fun e w' => e = .returned (.int .i64 ((a - b).natAbs : Int)) ∧ w = w' := by
  by_cases h : a ≤ b
  · go_enter Try.func52, Try.ntmps52
    go_wp2
    all_goals
      go_ret
      exact ⟨ret_int (by omega), rfl⟩
  · go_enter Try.func52, Try.ntmps52
    go_wp2
    all_goals
      go_ret
      exact ⟨ret_int (by omega), rfl⟩

end Go.Proofs.Ytliodmahbdmcbaa

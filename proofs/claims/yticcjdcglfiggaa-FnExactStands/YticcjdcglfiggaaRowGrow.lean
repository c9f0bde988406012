/- A hull in a box of the call's own whose rows grow by append, a block a row. No statement about the program stands here. -/
import Derived.Test.YticcjdcglfiggaaOwnCp
import Derived.Test.YticcjdcglfiggaaGrow
import Derived.Test.YticcjdcglfiggaaWalkL
namespace Go.Proofs.Yticcjdcglfiggaa
open Go.RowKit

structure MirSt (w1 wr : World) (step rise : Int) (ov : Value) (M : List (List Int)) : Prop where
  below : Below w1.heap.size w1 wr
  box : OwnV wr w1.heap.size [.int .i64 step, .int .i64 rise, ov]
  grow : Grow 31 (w1.heap.size + 1) wr ov M

theorem MirSt.push {w1 wr w2 w3 : World} {step rise : Int} {ao : Option Addr} {cap : Nat} {M : List (List Int)} {row : List Int} {g rcap g' cap' n : Nat} {vals : List Value} {o : Obj}
    (hn : M.length = n) (h : MirSt w1 wr step rise (.slice ao n cap) M) (hb : Below wr.heap.size wr w2)
    (hr : ∀ r, r < M.length → ∃ g cap', vals[r]? = some (.slice (some ⟨g, 0, none⟩) (M.getD r []).length cap') ∧ (M.getD r []).length ≤ cap' ∧ cap' ≤ maxLen ∧ OwnV wr g (ints (M.getD r [])) ∧ w1.heap.size + 1 ≤ g ∧ (Value.slice ao n cap).ownBlock ≠ some g)
    (hvl : vals.length = M.length) (ho : OwnV w2 g (ints row)) (hg : wr.heap.size ≤ g) (hc1 : row.length ≤ rcap) (hc2 : rcap ≤ maxLen)
    (hbl : ∀ k, (Value.slice ao n cap).ownBlock = some k → w1.heap.size + 1 ≤ k ∧ k < wr.heap.size)
    (hown : w3.ownsRow (w1.heap.size + 1) 31 1 (.slice (some ⟨g', 0, none⟩) (n + 1) cap') (n + 1) (vals ++ [.slice (some ⟨g, 0, none⟩) row.length rcap])) (hgrow : (w2.alloc o).grownBy w3 (Value.slice ao n cap).ownBlock)
    (hat : (Value.slice ao n cap).ownBlock = some g' ∨ g' = w2.heap.size + 1) :
    MirSt w1 (w3.setCell ⟨w1.heap.size, 2, none⟩ (.slice (some ⟨g', 0, none⟩) (n + 1) cap')) step rise (.slice (some ⟨g', 0, none⟩) (n + 1) cap') (M ++ [row]) := by
  subst hn
  have hs2 := hb.size
  have hlt := h.box.lt
  have G2 := Grow.push (w := w2) (fun r hlt => by obtain ⟨g, c, a1, a2, a3, a4, a5, a6⟩ := hr r hlt; exact ⟨g, c, a1, a2, a3, a4.below hb a4.lt, a5, a6⟩) hvl (Below.alloc1 w2 o) ho (by omega) (fun e => by have := (hbl g e).2; omega) hc1 hc2 (by omega) hown hgrow hat
  have K2 : Kept (fun b => w1.heap.size + 1 ≤ b) wr w3 := ((kept_of_below hb).alloc o).grown hgrow (fun k e => (hbl k e).1)
  refine ⟨?_, (h.box.kept K2 (by omega)).set 2 _ (by simp), ?_⟩
  · exact (h.below.trans (K2.below (by omega) (fun k e => by omega))).setCell (Nat.le_refl _) _
  · exact G2.kept ((Kept.refl (fun b => b = w1.heap.size) w3).setCell (p := ⟨w1.heap.size, 2, none⟩) rfl _) (fun x hx _ e => by omega)

theorem mir_inner {w : World} {base m g cap : Nat} {row : List Int} (h : w.ownsRow base 3 1 (.slice (some ⟨g, 0, none⟩) (0 + m) cap) (0 + m) (ints [] ++ ints row)) (hm : 0 < m) (hr : row.length = m) : base ≤ g ∧ m ≤ cap ∧ cap ≤ maxLen ∧ OwnV w g (ints row) := by
  obtain ⟨_, h2⟩ := h
  rcases h2 with ⟨_, h0⟩ | ⟨g', cap', cur, hv, hg, hh, hc, hm', hs, ht⟩
  · omega
  · simp only [Value.slice.injEq, Option.some.injEq, Addr.mk.injEq, and_true, true_and] at hv
    obtain ⟨rfl, rfl⟩ := hv
    refine ⟨hg, by omega, hm', cur, _, hh, fun i hi => ?_⟩
    have e : cur.toList.take ((0 + m) * 1) = ints row := by simpa [ints] using ht
    rw [← e]
    rw [ints_length] at hi
    rw [List.getElem?_take, if_pos (by omega)]
    simp

theorem mir_out (w : World) (N : Nat) (x y z : Value) : Kept (fun b => b = N) w (((w.setCell ⟨N, 0, none⟩ x).setCell ⟨N, 1, none⟩ y).setCell ⟨N, 2, none⟩ z) :=
  (((Kept.refl (fun b => b = N) w).setCell (p := ⟨N, 0, none⟩) rfl _).setCell (p := ⟨N, 1, none⟩) rfl _).setCell (p := ⟨N, 2, none⟩) rfl _

theorem MirSt.step {w1 wr w' : World} {step rise : Int} {ov : Value} {M : List (List Int)} (h : MirSt w1 wr step rise ov M) (hb : Below wr.heap.size wr w') : MirSt w1 w' step rise ov M :=
  ⟨Below.step h.below hb, OwnV.step h.box hb, h.grow.below hb⟩

theorem ints_snoc' (xs : List Int) (x : Int) : ints (xs ++ [x]) = ints xs ++ [.int .i64 x] := by simp [ints]

/-- The row that an append loop has built. -/
theorem row_own {w : World} {base m : Nat} {v : Value} {row : List Int} (h : w.ownsRow base 3 1 v m (ints row)) (hm : 0 < m) (hr : row.length = m) : ∃ g cap, v = .slice (some ⟨g, 0, none⟩) m cap ∧ base ≤ g ∧ m ≤ cap ∧ cap ≤ maxLen ∧ OwnV w g (ints row) := by
  obtain ⟨_, h2⟩ := h
  rcases h2 with ⟨_, h0⟩ | ⟨g1, cap1, cur, hv, hg, hh, hc, hm', hs, ht⟩
  · omega
  · refine ⟨g1, cap1, hv, hg, by omega, hm', cur, _, hh, fun i hi => ?_⟩
    rw [← ht]
    rw [ints_length] at hi
    simp [show i < m by omega]

end Go.Proofs.Yticcjdcglfiggaa

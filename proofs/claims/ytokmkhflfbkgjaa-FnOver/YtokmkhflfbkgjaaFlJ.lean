/- Words for the laws over two structs of floats: two boxes of the call, an answer's box that may be laid anywhere among the calls. -/
import Derived.Test.YtokmkhflfbkgjaaFlH
namespace Go.Proofs.Ytokmkhflfbkgjaa
open Go.RowKit

theorem below_undrew {B W W' : World} (hb : Below B.heap.size W.drew W') : Below B.heap.size W W' := ⟨hb.os, hb.tape, hb.output, hb.size, hb.block⟩
theorem below_undrew' {W W' : World} (hb : Below W.drew.heap.size W.drew W') : Below W.heap.size W W' := ⟨hb.os, hb.tape, hb.output, hb.size, hb.block⟩

theorem two_apart {a g : Nat} (h : a + 1 < g) : (¬ a = g ∧ ¬ g = a) ∧ (¬ a + 1 = g ∧ ¬ g = a + 1) := by omega

theorem OwnV.far {w : World} {g g' : Nat} {vs : List Value} (h : OwnV w g vs) (hne : g ≠ g') (i : Nat) (u : Value) : OwnV (w.setCell ⟨g', i, none⟩ u) g vs := h.other (a := ⟨g', i, none⟩) hne u

/-- The law's two boxes. -/
structure Two (w W : World) (a b c d : Value) : Prop where
  o1 : OwnV W w.heap.size [a, b]
  o2 : OwnV W (w.heap.size + 1) [c, d]
  below : Below w.heap.size w W

theorem two_new (w : World) (a b c d : Value) (t1 t2 : TypeId) : Two w ((w.alloc (.cells #[a, b] t1)).alloc (.cells #[c, d] t2)) a b c d := by
  refine ⟨(ownV_alloc w #[a, b] t1).alloc _, ?_, Below.step (Below.alloc1 _ _) (Below.alloc1 _ _)⟩
  have h := ownV_alloc (w.alloc (.cells #[a, b] t1)) #[c, d] t2
  simp only [World.size_alloc] at h
  exact h

theorem Two.step {w W W' : World} {a b c d : Value} (h : Two w W a b c d) (hb : Below W.heap.size W W') : Two w W' a b c d := ⟨h.o1.step hb, h.o2.step hb, Below.step h.below hb⟩
theorem Two.put {w W : World} {a b c d : Value} {g : Nat} (h : Two w W a b c d) (hg : w.heap.size + 1 < g) (i : Nat) (u : Value) : Two w (W.setCell ⟨g, i, none⟩ u) a b c d :=
  ⟨h.o1.other (by show w.heap.size ≠ g; omega) u, h.o2.other (by show w.heap.size + 1 ≠ g; omega) u, h.below.setCell (p := ⟨g, i, none⟩) (by show w.heap.size ≤ g; omega) u⟩

end Go.Proofs.Ytokmkhflfbkgjaa

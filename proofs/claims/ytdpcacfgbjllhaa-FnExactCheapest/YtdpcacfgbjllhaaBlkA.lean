/- Blocks of the call's own, of any cells: boxes and rows beside one another. No statement about the program stands here. -/
import Derived.Test.YtdpcacfgbjllhaaOwnInts
import Derived.Test.YtdpcacfgbjllhaaExactKit
namespace Go.Proofs.Ytdpcacfgbjllhaa
open Go.RowKit

/-- The blocks L (number and first cells) of the call's own. -/
structure Blks (w W : World) (L : List (Nat × List Value)) : Prop where
  all : ∀ p ∈ L, OwnV W p.1 p.2
  below : Below w.heap.size w W
  own : ∀ p ∈ L, w.heap.size ≤ p.1
theorem Blks.step {w W W' : World} {L : List (Nat × List Value)} (h : Blks w W L) (hb : Below W.heap.size W W') : Blks w W' L := ⟨fun p hp => (h.all p hp).step hb, Below.step h.below hb, h.own⟩
theorem Blks.lt {w W : World} {L : List (Nat × List Value)} (h : Blks w W L) : ∀ p ∈ L, p.1 < W.heap.size := fun p hp => (h.all p hp).lt
theorem Blks.push {w W : World} {L : List (Nat × List Value)} (h : Blks w W L) {g : Nat} {vs : List Value} (ho : OwnV W g vs) (hg : w.heap.size ≤ g) : Blks w W ((g, vs) :: L) :=
  ⟨fun p hp => by rcases List.mem_cons.1 hp with rfl | hp; exact ho; exact h.all p hp, h.below, fun p hp => by rcases List.mem_cons.1 hp with rfl | hp; exact hg; exact h.own p hp⟩
theorem Blks.made {w W : World} {L : List (Nat × List Value)} (h : Blks w W L) (cs : Array Value) (t : TypeId) : Blks w (W.alloc (.cells cs t)) ((W.heap.size, cs.toList) :: L) :=
  (h.step (Below.alloc1 _ _)).push (ownV_alloc _ _ _) h.below.size
theorem Blks.at {w W : World} {L : List (Nat × List Value)} (h : Blks w W L) {g : Nat} {vs : List Value} (hp : (g, vs) ∈ L) : OwnV W g vs := h.all _ hp
theorem Blks.less {w W : World} {L L' : List (Nat × List Value)} (h : Blks w W L) (hs : ∀ p ∈ L', p ∈ L) : Blks w W L' := ⟨fun p hp => h.all p (hs p hp), h.below, fun p hp => h.own p (hs p hp)⟩
theorem Blks.apart {w W : World} {L : List (Nat × List Value)} (h : Blks w W L) {g : Nat} {vs : List Value} (hp : (g, vs) ∈ L) : ¬ W.heap.size = g ∧ ¬ g = W.heap.size := by
  have : g < W.heap.size := h.lt _ hp
  omega
theorem Blks.drew {w W : World} {L : List (Nat × List Value)} (h : Blks w W L) : Blks w W.drew L := ⟨fun p hp => (h.all p hp).drew, h.below.drew, h.own⟩
theorem Blks.kept {T : Nat → Prop} {w W W' : World} {L L' : List (Nat × List Value)} (h : Blks w W L) (hk : Kept T W W') (hT : ∀ b, T b → w.heap.size ≤ b) (hs : ∀ p ∈ L', p ∈ L ∧ ¬ T p.1) : Blks w W' L' :=
  ⟨fun p hp => (h.all p (hs p hp).1).kept hk (hs p hp).2, h.below.trans (hk.below h.below.size hT), fun p hp => h.own p (hs p hp).1⟩
theorem blks_nil (w : World) : Blks w w [] := ⟨fun p hp => by simp at hp, Below.refl _ _, fun p hp => by simp at hp⟩

end Go.Proofs.Ytdpcacfgbjllhaa

/- Boxes of two floats that lie apart, and a new one beside them. No statement about the program stands here. -/
import Derived.Test.YtokmkhflfbkgjaaFoA
import Derived.Test.YtokmkhflfbkgjaaFlJ
namespace Go.Proofs.Ytokmkhflfbkgjaa
open Go.RowKit

theorem fop_of' {op : BinOp} {x y r : Nat} (h : floatBits op .f64 x y = some r) : fop op .f64 x y = r := by unfold fop; rw [h]; rfl
theorem mul_le128 {x y : Int} (hx0 : -128 ≤ x) (hx1 : x ≤ 127) (hy0 : -128 ≤ y) (hy1 : y ≤ 127) : -16384 ≤ x * y ∧ x * y ≤ 16384 := by
  have e : (x * y).natAbs = x.natAbs * y.natAbs := Int.natAbs_mul x y
  have h1 : x.natAbs ≤ 128 := by omega
  have h2 : y.natAbs ≤ 128 := by omega
  have := Nat.mul_le_mul h1 h2
  omega

/-- The boxes L (block and two floats) of the call's own. -/
structure Bxs (w W : World) (L : List (Nat × Nat × Nat)) : Prop where
  all : ∀ p ∈ L, OwnV W p.1 [.float .f64 p.2.1, .float .f64 p.2.2]
  below : Below w.heap.size w W
  own : ∀ p ∈ L, w.heap.size ≤ p.1
theorem Bxs.step {w W W' : World} {L : List (Nat × Nat × Nat)} (h : Bxs w W L) (hb : Below W.heap.size W W') : Bxs w W' L := ⟨fun p hp => (h.all p hp).step hb, Below.step h.below hb, h.own⟩
theorem Bxs.lt {w W : World} {L : List (Nat × Nat × Nat)} (h : Bxs w W L) : ∀ p ∈ L, p.1 < W.heap.size := fun p hp => (h.all p hp).lt
theorem Bxs.push {w W : World} {L : List (Nat × Nat × Nat)} (h : Bxs w W L) {g a b : Nat} (ho : OwnV W g [.float .f64 a, .float .f64 b]) (hg : w.heap.size ≤ g) : Bxs w W ((g, a, b) :: L) :=
  ⟨fun p hp => by rcases List.mem_cons.1 hp with rfl | hp; exact ho; exact h.all p hp, h.below, fun p hp => by rcases List.mem_cons.1 hp with rfl | hp; exact hg; exact h.own p hp⟩
theorem Bxs.put {w W : World} {L : List (Nat × Nat × Nat)} (h : Bxs w W L) {g : Nat} (hL : ∀ p ∈ L, p.1 < g) (hg : w.heap.size ≤ g) (i : Nat) (u : Value) : Bxs w (W.setCell ⟨g, i, none⟩ u) L :=
  ⟨fun p hp => (h.all p hp).far (by have := hL p hp; omega) i u, h.below.setCell (p := ⟨g, i, none⟩) hg u, h.own⟩
theorem Bxs.made {w W : World} {L : List (Nat × Nat × Nat)} (h : Bxs w W L) (a b : Nat) (t : TypeId) : Bxs w (W.alloc (.cells #[.float .f64 a, .float .f64 b] t)) ((W.heap.size, a, b) :: L) :=
  (h.step (Below.alloc1 _ _)).push (ownV_alloc _ _ _) h.below.size
theorem Bxs.fill {w W : World} {L : List (Nat × Nat × Nat)} (h : Bxs w W L) {g : Nat} {z z' : Value} (hL : ∀ p ∈ L, p.1 < g) (hg : w.heap.size ≤ g) (ho : OwnV W g [z, z']) (a b : Nat) :
    Bxs w ((W.setCell ⟨g, 0, none⟩ (.float .f64 a)).setCell ⟨g, 1, none⟩ (.float .f64 b)) ((g, a, b) :: L) :=
  ((h.put hL hg 0 _).put hL hg 1 _).push (by have := (ho.set 0 (.float .f64 a) (by simp)).set 1 (.float .f64 b) (by simp); simpa using this) hg
theorem Bxs.apart {w W : World} {L : List (Nat × Nat × Nat)} (h : Bxs w W L) {g a b : Nat} (hp : (g, a, b) ∈ L) : ¬ W.heap.size = g ∧ ¬ g = W.heap.size := by
  have : g < W.heap.size := h.lt _ hp
  omega
theorem Bxs.c0 {w W : World} {L : List (Nat × Nat × Nat)} (h : Bxs w W L) {g a b : Nat} (hp : (g, a, b) ∈ L) : W.cell? ⟨g, 0, none⟩ = some (.float .f64 a) := (h.all _ hp).cell (i := 0) rfl
theorem Bxs.c1 {w W : World} {L : List (Nat × Nat × Nat)} (h : Bxs w W L) {g a b : Nat} (hp : (g, a, b) ∈ L) : W.cell? ⟨g, 1, none⟩ = some (.float .f64 b) := (h.all _ hp).cell (i := 1) rfl

end Go.Proofs.Ytokmkhflfbkgjaa

/- What the specification's Swings holds: what it told, its stack and the turns, each in memory of its own; contract of l3Size. -/
import Derived.Test.YtliodmahbdmcbaaSwD
import Derived.Test.YtliodmahbdmcbaaSgT5
namespace Go.Proofs.Ytliodmahbdmcbaa
open Go.RowKit

theorem l3Size_any (x : Int) (w : World) (h1 : -9000000000 ≤ x) (h2 : x ≤ 9000000000) :
    Calls Try.prog 64 #[.int .i64 x] w fun e w' => e = .returned (.int .i64 (x.natAbs : Int)) ∧ w' = w := by
  by_cases h : x < 0
  · go_enter Try.func64, Try.ntmps64
    go_wp2
    go_ret
    exact ⟨ret_int (by omega), rfl⟩
  · go_enter Try.func64, Try.ntmps64
    go_wp2
    go_ret
    exact ⟨ret_int (by omega), rfl⟩

/-- What was told, the stack, the turns. -/
structure Sp (w : World) (T : List Int) (ta : Option Addr) (ov sv : Value) (out : List Sw) (xs : List Int) (A : World) : Prop where
  o : A.ownsRow w.heap.size 38 2 ov out.length (recCells 2 eSw out)
  s : A.ownsRow w.heap.size 3 1 sv xs.length (ints xs)
  os : ∀ g, ov.ownBlock = some g → sv.ownBlock ≠ some g
  t : ∀ i, i < T.length → ∃ b o, ta = some ⟨b, o, none⟩ ∧ A.cell? ⟨b, o + i, none⟩ = some (.int .i64 (T.getD i 0)) ∧ ov.ownBlock ≠ some b ∧ sv.ownBlock ≠ some b
  below : Below w.heap.size w A

section
variable {w : World} {T : List Int} {ta : Option Addr} {ov sv : Value} {out : List Sw} {xs : List Int} {A : World}

theorem Sp.grow (h : Sp w T ta ov sv out xs A) {A' : World} (hb : Below A.heap.size A A') : Sp w T ta ov sv out xs A' :=
  ⟨ownsRow_keptT (T := fun _ => False) h.o (kept_of_below hb) (fun _ _ h => h), ownsRow_keptT (T := fun _ => False) h.s (kept_of_below hb) (fun _ _ h => h), h.os, fun i hi => by
    obtain ⟨b, o, e, hc, r⟩ := h.t i hi
    exact ⟨b, o, e, (hb.cell (lt_of_cell hc)).trans hc, r⟩, h.below.trans (hb.mono h.below.size)⟩

/-- What an append to one row leaves of a row that lies apart. -/
theorem ownsRow_far {e : TypeId} {size n : Nat} {v u : Value} {vs : List Value} {N : Nat} {A A1 A2 : World} (h : A.ownsRow N e size u n vs) (hb : Below A.heap.size A A1) (hg : A1.grownBy A2 v.ownBlock) (hne : ∀ g, v.ownBlock = some g → u.ownBlock ≠ some g) : A2.ownsRow N e size u n vs := by
  obtain ⟨h1, h2⟩ := h
  refine ⟨h1, ?_⟩
  rcases h2 with h2 | ⟨g, cap, cur, hv, hg', hh, r⟩
  · exact Or.inl h2
  · obtain ⟨hlt, _⟩ := Array.getElem?_eq_some_iff.1 hh
    exact Or.inr ⟨g, cap, cur, hv, hg', ((hg.block g (by have := hb.size; omega) (fun e => hne g e.symm (by rw [hv]; rfl))).trans (hb.block g hlt)).trans hh, r⟩

theorem Sp.pushO (h : Sp w T ta ov sv out xs A) {A1 A2 : World} {v' : Value} {s : Sw} (hb : Below A.heap.size A A1) (hown : A2.ownsRow w.heap.size 38 2 v' (out.length + 1) (recCells 2 eSw out ++ [.int .i64 s.1, .bool s.2])) (hg : A1.grownBy A2 ov.ownBlock) (hat : v'.ownBlock = ov.ownBlock ∨ v'.ownBlock = some A1.heap.size) :
    Sp w T ta v' sv (out ++ [s]) xs A2 := by
  have hz := hb.size
  have hw := h.below.size
  refine ⟨by rw [recCells_snocS]; simpa using hown, ownsRow_far h.s hb hg h.os, fun g e => ?_, fun i hi => ?_, ?_⟩
  · rcases hat with q | q
    · exact h.os g (by rw [← q]; exact e)
    · rw [q] at e; cases e
      exact fun e => by have := (h.s.lt _ e).2; omega
  · obtain ⟨b, o, e, hc, r1, r2⟩ := h.t i hi
    have hlt := lt_of_cell hc
    refine ⟨b, o, e, ?_, ?_, r2⟩
    · exact (World.cell?_of_block (w := A) (a := ⟨b, o + i, none⟩) ((hg.block b (by simp at hlt; omega) (fun e => r1 e.symm)).trans (hb.block b hlt))).trans hc
    · rcases hat with q | q
      · rw [q]; exact r1
      · rw [q]; intro e; cases e; simp at hlt; omega
  · exact (h.below.trans (hb.mono hw)).grown hg (by omega) (fun g hg' => (h.o.lt g hg').1)

theorem Sp.pushS (h : Sp w T ta ov sv out xs A) {A1 A2 : World} {v' : Value} {x : Int} (hb : Below A.heap.size A A1) (hown : A2.ownsRow w.heap.size 3 1 v' (xs.length + 1) (ints xs ++ [.int .i64 x])) (hg : A1.grownBy A2 sv.ownBlock) (hat : v'.ownBlock = sv.ownBlock ∨ v'.ownBlock = some A1.heap.size) :
    Sp w T ta ov v' out (xs ++ [x]) A2 := by
  have hz := hb.size
  have hw := h.below.size
  refine ⟨ownsRow_far h.o hb hg (fun g e e' => h.os g e' e), by rw [ints_snoc]; simpa using hown, fun g e => ?_, fun i hi => ?_, ?_⟩
  · rcases hat with q | q
    · rw [q]; exact h.os g e
    · rw [q]; intro e'; cases e'
      have := (h.o.lt _ e).2; omega
  · obtain ⟨b, o, e, hc, r1, r2⟩ := h.t i hi
    have hlt := lt_of_cell hc
    refine ⟨b, o, e, ?_, r1, ?_⟩
    · exact (World.cell?_of_block (w := A) (a := ⟨b, o + i, none⟩) ((hg.block b (by simp at hlt; omega) (fun e => r2 e.symm)).trans (hb.block b hlt))).trans hc
    · rcases hat with q | q
      · rw [q]; exact r2
      · rw [q]; intro e; cases e; simp at hlt; omega
  · exact (h.below.trans (hb.mono hw)).grown hg (by omega) (fun g hg' => (h.s.lt g hg').1)

theorem Sp.newS (h : Sp w T ta ov sv out xs A) {A' : World} {v' : Value} {ys : List Int} (hb : Below A.heap.size A A') (hown : A'.ownsRow A.heap.size 3 1 v' ys.length (ints ys)) : Sp w T ta ov v' out ys A' := by
  have h' := h.grow hb
  have hw := h.below.size
  refine ⟨h'.o, ⟨hown.1, ?_⟩, fun g e e' => ?_, fun i hi => ?_, h'.below⟩
  · rcases hown.2 with q | ⟨g, cap, cur, hv, hg, r⟩
    · exact Or.inl q
    · exact Or.inr ⟨g, cap, cur, hv, by omega, r⟩
  · have h1 := (h.o.lt g e).2
    have h2 := (hown.lt g e').1
    omega
  · obtain ⟨b, o, e, hc, r1, r2⟩ := h'.t i hi
    obtain ⟨b0, o0, e0, hc0, _⟩ := h.t i hi
    rw [e] at e0
    cases e0
    have hlt := lt_of_cell hc0
    exact ⟨b, o, e, hc, r1, fun e => by have := (hown.lt b e).1; simp at hlt; omega⟩

/-- The stack's numbers, where it has some. -/
theorem Sp.stack (h : Sp w T ta ov sv out xs A) (hn : 0 < xs.length) : ∃ g cap, sv = .slice (some ⟨g, 0, none⟩) xs.length cap ∧ xs.length ≤ cap ∧ cap ≤ maxLen ∧ ∀ j, j < xs.length → A.cell? ⟨g, j, none⟩ = some (.int .i64 (xs.getD j 0)) := by
  have hs := h.s
  rcases hs.2 with ⟨_, h0⟩ | ⟨g, cap, cur, rfl, hg, hh, hc, hm, hsz, ht⟩
  · omega
  · refine ⟨g, cap, rfl, hc, hm, fun j hj => ?_⟩
    have := hs.cells (g := g) rfl j (.int .i64 (xs.getD j 0)) (ints_get xs hj)
    rwa [Go.WideShapes.add_plain, Nat.zero_add] at this

theorem Sp.cellAt {g n cap : Nat} (h : Sp w T ta ov (.slice (some ⟨g, 0, none⟩) n cap) out xs A) {j : Nat} (hj : j < xs.length) {x : Int} (hx : xs.getD j 0 = x) : A.cell? ⟨g, j, none⟩ = some (.int .i64 x) := by
  obtain ⟨g', cap', e, _, _, hc⟩ := h.stack (by omega)
  simp only [Value.slice.injEq, Option.some.injEq, Addr.mk.injEq, and_true] at e
  obtain ⟨rfl, _, _⟩ := e
  rw [← hx]
  exact hc j hj

theorem Sp.form (h : Sp w T ta ov sv out xs A) : ∃ ao cap, sv = .slice ao xs.length cap := by
  obtain ⟨_, a, c, e⟩ := ownsRow_ownSl h.s
  exact ⟨a, c, e⟩

end

end Go.Proofs.Ytliodmahbdmcbaa

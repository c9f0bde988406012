/- The specification's CargoStep: words. Written by wip/mkcgn.py. -/
import Derived.Test.YtfokocpdngokfaaCgA
import Derived.Test.YtfokocpdngokfaaCgL
import Derived.Deep.RegionWith
import Derived.Deep.DeepMust
namespace Go.Proofs.Ytfokocpdngokfaa
open Go.RowKit

theorem inBlock_then {id : Nat} {K : Act → World → Prop} {Q : Exit → Act → World → Prop} : Exit.inBlock id (Exit.then K Q) = Exit.then K (Exit.inBlock id (Exit.then K Q)) := by
  funext e a w
  cases e <;> rfl
theorem onRow_belowC {B B' : Nat} {w W w' : World} {ao : Option Addr} {m cap : Nat} {L : List CargoTankT} (hW : Below B w W) (h : RowB 33 5 eCargoTank B' W ao m cap L) (hB' : B ≤ B') (hB : B ≤ W.heap.size) (hK : Kept (fun k => ao = some ⟨k, 0, none⟩) W w') : Below B w w' := by
  refine Below.trans hW (hK.below hB (fun q hq => ?_))
  rcases h.parts (by decide) with ⟨e, _⟩ | ⟨g, e, hg, _⟩
  · rw [hq] at e; cases e
  · rw [hq] at e; simp only [Option.some.injEq, Addr.mk.injEq, and_true] at e; omega
theorem keptRow {B' g : Nat} {W w' : World} {ao : Option Addr} {m cap : Nat} {L : List CargoTankT} {vs : List Value} (h : RowB 33 5 eCargoTank B' W ao m cap L) (hg : g < B') (hK : Kept (fun k => ao = some ⟨k, 0, none⟩) W w') (ho : OwnV W g vs) : OwnV w' g vs :=
  ho.kept hK (fun e => by
    rcases h.parts (by decide) with ⟨e', _⟩ | ⟨g', e', hg', _⟩
    · rw [e] at e'; cases e'
    · rw [e] at e'; simp only [Option.some.injEq, Addr.mk.injEq, and_true] at e'; omega)
/-- What the specification's step holds: the op, the list as it was, the list that is changed, who is named. -/
structure G5 (w W : World) (g1 go gn : Nat) (op : List Value) (sa : Option Addr) (sm sc : Nat) (L O : List CargoTankT) (nm : List Value) : Prop where
  below : Below w.heap.size w W
  o : OwnV W g1 op
  s : RowB 33 5 eCargoTank (w.heap.size + 1) W sa sm sc L
  r : OwnV W go (recCells 5 eCargoTank O)
  n : OwnV W gn nm
section
variable {w W W' : World} {g1 go gn : Nat} {op : List Value} {sa : Option Addr} {sm sc : Nat} {L O : List CargoTankT} {nm : List Value}
theorem G5.step (h : G5 w W g1 go gn op sa sm sc L O nm) (hb : Below W.heap.size W W') : G5 w W' g1 go gn op sa sm sc L O nm := ⟨Below.step h.below hb, h.o.step hb, h.s.below hb, h.r.step hb, h.n.step hb⟩
theorem G5.drewN (h : G5 w W g1 go gn op sa sm sc L O nm) (n : Nat) : G5 w (W.drewN n) g1 go gn op sa sm sc L O nm := h.step (below_drewN (Below.refl _ _) n)
/-- Where the blocks lie. -/
structure A5 (w : World) (g1 go gn : Nat) (sa : Option Addr) : Prop where
  wo : w.heap.size ≤ go
  o1 : g1 ≠ go
  on : gn ≠ go
  so : ∀ g, sa = some ⟨g, 0, none⟩ → g ≠ go
theorem own_put {g i j : Nat} {M : List CargoTankT} (h : OwnV W g (recCells 5 eCargoTank M)) (hi : i < M.length) (hj : j < 5) (y : CargoTankT) (v : Value) (hv : eCargoTank y j = v) (hy : ∀ j', j' < 5 → j' ≠ j → eCargoTank y j' = eCargoTank (tkA M i) j') :
    OwnV (W.setCell ⟨g, i * 5 + j, none⟩ v) g (recCells 5 eCargoTank (M.set i y)) := by
  rw [← rec_set M hj y hy, hv]
  exact h.set _ _ (by rw [recCells_length]; omega)
theorem own_put5 {g i : Nat} {M : List CargoTankT} (h : OwnV W g (recCells 5 eCargoTank M)) (hi : i < M.length) (y0 y1 y2 y3 y4 : Int) :
    OwnV (((((W.setCell ⟨g, i * 5, none⟩ (.int .i64 y0)).setCell ⟨g, i * 5 + 1, none⟩ (.int .i64 y1)).setCell ⟨g, i * 5 + 2, none⟩ (.int .i64 y2)).setCell ⟨g, i * 5 + 3, none⟩ (.int .i64 y3)).setCell ⟨g, i * 5 + 4, none⟩ (.int .i64 y4)) g (recCells 5 eCargoTank (M.set i (y0, y1, y2, y3, y4))) := by
  have e1 := own_put h (i := i) (j := 0) hi (by omega) (y0, (tkA M i).2) (.int .i64 y0) rfl (fun j' h1 h2 => by
    have : j' = 1 ∨ j' = 2 ∨ j' = 3 ∨ j' = 4 := by omega
    rcases this with rfl | rfl | rfl | rfl <;> rfl)
  have t1 : tkA (M.set i (y0, (tkA M i).2)) i = (y0, (tkA M i).2) := by rw [tk_set _ hi, if_pos rfl]
  have e2 := own_put e1 (i := i) (j := 1) (by rw [List.length_set]; exact hi) (by omega) (y0, y1, (tkA M i).2.2) (.int .i64 y1) rfl (fun j' h1 h2 => by
    rw [t1]
    have : j' = 0 ∨ j' = 2 ∨ j' = 3 ∨ j' = 4 := by omega
    rcases this with rfl | rfl | rfl | rfl <;> rfl)
  rw [set_set] at e2
  have t2 : tkA (M.set i (y0, y1, (tkA M i).2.2)) i = (y0, y1, (tkA M i).2.2) := by rw [tk_set _ hi, if_pos rfl]
  have e3 := own_put e2 (i := i) (j := 2) (by rw [List.length_set]; exact hi) (by omega) (y0, y1, y2, (tkA M i).2.2.2) (.int .i64 y2) rfl (fun j' h1 h2 => by
    rw [t2]
    have : j' = 0 ∨ j' = 1 ∨ j' = 3 ∨ j' = 4 := by omega
    rcases this with rfl | rfl | rfl | rfl <;> rfl)
  rw [set_set] at e3
  have t3 : tkA (M.set i (y0, y1, y2, (tkA M i).2.2.2)) i = (y0, y1, y2, (tkA M i).2.2.2) := by rw [tk_set _ hi, if_pos rfl]
  have e4 := own_put e3 (i := i) (j := 3) (by rw [List.length_set]; exact hi) (by omega) (y0, y1, y2, y3, (tkA M i).2.2.2.2) (.int .i64 y3) rfl (fun j' h1 h2 => by
    rw [t3]
    have : j' = 0 ∨ j' = 1 ∨ j' = 2 ∨ j' = 4 := by omega
    rcases this with rfl | rfl | rfl | rfl <;> rfl)
  rw [set_set] at e4
  have t4 : tkA (M.set i (y0, y1, y2, y3, (tkA M i).2.2.2.2)) i = (y0, y1, y2, y3, (tkA M i).2.2.2.2) := by rw [tk_set _ hi, if_pos rfl]
  have e5 := own_put e4 (i := i) (j := 4) (by rw [List.length_set]; exact hi) (by omega) (y0, y1, y2, y3, y4) (.int .i64 y4) rfl (fun j' h1 h2 => by
    rw [t4]
    have : j' = 0 ∨ j' = 1 ∨ j' = 2 ∨ j' = 3 := by omega
    rcases this with rfl | rfl | rfl | rfl <;> rfl)
  rw [set_set] at e5
  exact e5
theorem G5.kept {O' : List CargoTankT} (h : G5 w W g1 go gn op sa sm sc L O nm) (ha : A5 w g1 go gn sa) (hk : Kept (fun b => b = go) W W') (hr : OwnV W' go (recCells 5 eCargoTank O')) : G5 w W' g1 go gn op sa sm sc L O' nm :=
  ⟨h.below.trans (hk.below (B := w.heap.size) h.below.size (fun b e => by rw [e]; exact ha.wo)), h.o.kept hk ha.o1, h.s.kept hk (fun g e _ _ => ha.so g e), hr, h.n.kept hk ha.on⟩
theorem G5.put5 {i : Nat} (h : G5 w W g1 go gn op sa sm sc L O nm) (ha : A5 w g1 go gn sa) (hi : i < O.length) (y0 y1 y2 y3 y4 : Int) :
    G5 w (((((W.setCell ⟨go, i * 5, none⟩ (.int .i64 y0)).setCell ⟨go, i * 5 + 1, none⟩ (.int .i64 y1)).setCell ⟨go, i * 5 + 2, none⟩ (.int .i64 y2)).setCell ⟨go, i * 5 + 3, none⟩ (.int .i64 y3)).setCell ⟨go, i * 5 + 4, none⟩ (.int .i64 y4)) g1 go gn op sa sm sc L (O.set i (y0, y1, y2, y3, y4)) nm :=
  h.kept ha ((((((Kept.refl (fun b => b = go) W).setCell (p := ⟨go, i * 5, none⟩) rfl _).setCell (p := ⟨go, i * 5 + 1, none⟩) rfl _).setCell (p := ⟨go, i * 5 + 2, none⟩) rfl _).setCell (p := ⟨go, i * 5 + 3, none⟩) rfl _).setCell (p := ⟨go, i * 5 + 4, none⟩) rfl _) (own_put5 h.r hi y0 y1 y2 y3 y4)
theorem G5.put {i : Nat} (h : G5 w W g1 go gn op sa sm sc L O nm) (ha : A5 w g1 go gn sa) (hi : i < O.length) (j : Nat) (hj : j < 5) (y : CargoTankT) (v : Value) (hv : eCargoTank y j = v) (hy : ∀ j', j' < 5 → j' ≠ j → eCargoTank y j' = eCargoTank (tkA O i) j') :
    G5 w (W.setCell ⟨go, i * 5 + j, none⟩ v) g1 go gn op sa sm sc L (O.set i y) nm :=
  h.kept ha ((Kept.refl (fun b => b = go) W).setCell (p := ⟨go, i * 5 + j, none⟩) rfl _) (own_put h.r hi hj y v hv hy)
theorem G5.cells {i : Nat} (h : G5 w W g1 go gn op sa sm sc L O nm) (hi : i < O.length) {x0 x1 x2 x3 x4 : Int} (e : tkA O i = (x0, x1, x2, x3, x4)) :
    W.cell? ⟨go, i * 5, none⟩ = some (.int .i64 x0) ∧ W.cell? ⟨go, i * 5 + 1, none⟩ = some (.int .i64 x1) ∧ W.cell? ⟨go, i * 5 + 2, none⟩ = some (.int .i64 x2) ∧ W.cell? ⟨go, i * 5 + 3, none⟩ = some (.int .i64 x3) ∧ W.cell? ⟨go, i * 5 + 4, none⟩ = some (.int .i64 x4) := by
  have c : ∀ j, j < 5 → W.cell? ⟨go, i * 5 + j, none⟩ = some (eCargoTank (x0, x1, x2, x3, x4) j) := fun j hj => by
    have := h.r.cell (recCells_get (j := j) hi hj)
    rw [show O.getD i default = (x0, x1, x2, x3, x4) from e] at this
    exact this
  exact ⟨c 0 (by omega), c 1 (by omega), c 2 (by omega), c 3 (by omega), c 4 (by omega)⟩
end
/-- What a step answers. -/
def StepAns (L : List CargoTankT) (k a b m lean : Int) (w : World) (e : Ending) (w' : World) : Prop := ∃ r n cp, e = .returned (.tuple #[.slice r n cp, .int .i64 (cgC L k a b m lean)]) ∧ OwnR 5 eCargoTank w.heap.size w' (.slice r n cp) (cgL L k a b m lean) ∧ Below w.heap.size w w'
theorem stepAns_same {L : List CargoTankT} {k a b m lean c : Int} {w W : World} {sa : Option Addr} {sm sc : Nat} (hc : cgC L k a b m lean = c) (h0 : c ≠ 0) (hW : Below w.heap.size w W) (h : RowB 33 5 eCargoTank (w.heap.size + 1) W sa sm sc L) : StepAns L k a b m lean w (.returned (.tuple #[.slice sa sm sc, .int .i64 c])) W :=
  ⟨_, _, _, by rw [hc], by rw [cgL_bad (by rw [hc]; exact h0)]; exact (h.mono (Nat.le_succ _)).own (by decide), hW⟩
theorem stepAns_done {L N : List CargoTankT} {k a b m lean : Int} {w W : World} {go cp : Nat} (hc : cgC L k a b m lean = 0) (hN : cgL L k a b m lean = N) (hW : Below w.heap.size w W) (hg : w.heap.size ≤ go) (h : OwnV W go (recCells 5 eCargoTank N)) (hl : N.length ≤ cp) (hm : cp ≤ maxLen) : StepAns L k a b m lean w (.returned (.tuple #[.slice (some ⟨go, 0, none⟩) N.length cp, .int .i64 0])) W :=
  ⟨_, _, _, by rw [hc], by rw [hN]; exact ⟨_, _, rfl, hl, hm, fun _ => ⟨go, rfl, hg, h⟩⟩, hW⟩

end Go.Proofs.Ytfokocpdngokfaa

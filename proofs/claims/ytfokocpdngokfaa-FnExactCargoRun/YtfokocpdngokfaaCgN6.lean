/- The specification's CargoStep: words for who is named by two. Written by wip/mkcgn.py. -/
import Derived.Test.YtfokocpdngokfaaCgN0
namespace Go.Proofs.Ytfokocpdngokfaa
open Go.RowKit

def eI1 (x : Int) (_ : Nat) : Value := .int .i64 x
theorem Try.infoI1 : (Try.prog.info? 3).map (fun i => (i.zero, i.size, i.bytes)) = some (some (Value.int .i64 0), 1, 8) := by kernel_rfl
theorem tyI1 : RecTy 35 3 1 eI1 := recTy_mk Try.underlying35 Try.infoI1 rfl (by decide) (by decide) (fun _ _ _ => rfl)
theorem rowI1 {W : World} {g B : Nat} {x : Int} (h : W.heap[g]? = some (.cells #[.int .i64 x] 3 (0, 0))) (hB : B ≤ g) : RowB 3 1 eI1 B W (some ⟨g, 0, none⟩) 1 1 [x] :=
  ⟨rfl, Or.inr ⟨g, 1, #[.int .i64 x], rfl, hB, h, Nat.le_refl _, by unfold maxLen; omega, rfl, by simp [recCells, eI1, List.range, List.range.loop]⟩⟩
theorem cells_two (x y : Int) : recCells 1 eI1 [x, y] = [.int .i64 x, .int .i64 y] := by simp [recCells, eI1, List.range, List.range.loop]
structure G6 (x : Int) (w W : World) (g1 go gn : Nat) (op : List Value) (sa : Option Addr) (sm sc : Nat) (L O : List CargoTankT) (nm : List Value) : Prop where
  g : G5 w W g1 go gn op sa sm sc L O nm
  h : W.heap[gn]? = some (.cells #[.int .i64 x] 3 (0, 0))
section
variable {x : Int} {w W W' : World} {g1 go gn : Nat} {op : List Value} {sa : Option Addr} {sm sc : Nat} {L O : List CargoTankT} {nm : List Value}
theorem G6.step (h : G6 x w W g1 go gn op sa sm sc L O nm) (hb : Below W.heap.size W W') : G6 x w W' g1 go gn op sa sm sc L O nm := ⟨h.g.step hb, (hb.block gn h.g.n.lt).trans h.h⟩
theorem G6.put5 {i : Nat} (h : G6 x w W g1 go gn op sa sm sc L O nm) (ha : A5 w g1 go gn sa) (hi : i < O.length) (y0 y1 y2 y3 y4 : Int) :
    G6 x w (((((W.setCell ⟨go, i * 5, none⟩ (.int .i64 y0)).setCell ⟨go, i * 5 + 1, none⟩ (.int .i64 y1)).setCell ⟨go, i * 5 + 2, none⟩ (.int .i64 y2)).setCell ⟨go, i * 5 + 3, none⟩ (.int .i64 y3)).setCell ⟨go, i * 5 + 4, none⟩ (.int .i64 y4)) g1 go gn op sa sm sc L (O.set i (y0, y1, y2, y3, y4)) nm :=
  ⟨h.g.put5 ha hi y0 y1 y2 y3 y4, by
    have hk := (((((Kept.refl (fun b => b = go) W).setCell (p := ⟨go, i * 5, none⟩) rfl (.int .i64 y0)).setCell (p := ⟨go, i * 5 + 1, none⟩) rfl (.int .i64 y1)).setCell (p := ⟨go, i * 5 + 2, none⟩) rfl (.int .i64 y2)).setCell (p := ⟨go, i * 5 + 3, none⟩) rfl (.int .i64 y3)).setCell (p := ⟨go, i * 5 + 4, none⟩) rfl (.int .i64 y4)
    exact (hk.block gn h.g.n.lt ha.on).trans h.h⟩
/-- Who is named is two. -/
theorem G6.named {g' cap' : Nat} {y : Int} {nm' : List Value} (h : G6 x w W g1 go gn op sa sm sc L O nm) (hg : w.heap.size ≤ gn) (h1 : g1 ≠ gn) (h2 : go ≠ gn) (h3 : ∀ g, sa = some ⟨g, 0, none⟩ → g ≠ gn) {B : Nat} (hr : RowB 3 1 eI1 B W' (some ⟨g', 0, none⟩) 2 cap' [x, y]) (hk : Kept (fun b => some (⟨gn, 0, none⟩ : Addr) = some ⟨b, 0, none⟩) W W') (e : nm' = [.int .i64 x, .int .i64 y]) : G5 w W' g1 go g' op sa sm sc L O nm' := by
  have hk' : Kept (fun b => b = gn) W W' := hk.mono (fun b _ e => by simp only [Option.some.injEq, Addr.mk.injEq, and_true] at e; exact e.symm)
  refine ⟨h.g.below.trans (hk'.below (B := w.heap.size) h.g.below.size (fun b e => by rw [e]; exact hg)), h.g.o.kept hk' h1, h.g.s.kept hk' (fun g e _ _ => h3 g e), h.g.r.kept hk' h2, ?_⟩
  rcases hr.parts (by decide) with ⟨e', _⟩ | ⟨g, e', _, _, _, _, ho⟩
  · cases e'
  · simp only [Option.some.injEq, Addr.mk.injEq, and_true] at e'
    subst e'
    rw [e, ← cells_two]
    exact ho
end

end Go.Proofs.Ytfokocpdngokfaa

/- Contracts of l13In, l13Out over tanks told by letters. Written by wip/mkcgn.py. -/
import Derived.Test.YtfokocpdngokfaaCgN
namespace Go.Proofs.Ytfokocpdngokfaa
open Go.RowKit

theorem l13InY_any (x0 x1 x2 x3 x4 m y0 y1 y2 y3 y4 : Int) (w : World) (h0 : -100000 ≤ x0) (h1 : x0 ≤ 200000) (hm1 : 1 ≤ m) (hm2 : m ≤ 100000) (hy : inT (x0, x1, x2, x3, x4) m = (y0, y1, y2, y3, y4)) :
    Calls Try.prog 54 #[vCargoTank x0 x1 x2 x3 x4, .int .i64 m] w fun e w' => e = .returned (vCargoTank y0 y1 y2 y3 y4) ∧ Below w.heap.size w w' := by
  simp only [inT, Prod.mk.injEq] at hy
  obtain ⟨rfl, rfl, rfl, rfl, rfl⟩ := hy
  exact l13In_any x0 x1 x2 x3 x4 m w h0 h1 hm1 hm2

end Go.Proofs.Ytfokocpdngokfaa

/- Words for the walks of stage 16's laws. Written by wip/mk16.py. -/
import Derived.Test.YtojlkdmlelgcbaaHsB
import Derived.Test.YtojlkdmlelgcbaaExactKit
namespace Go.Proofs.Ytojlkdmlelgcbaa
open Go.RowKit

theorem below_undrewA {W W' : World} (hb : Below W.drew.heap.size W.drew W') : Below W.heap.size W W' := ⟨hb.os, hb.tape, hb.output, hb.size, hb.block⟩
theorem OwnV.hsIn {V : World} {g1 g2 : Nat} {L : List LotT} {T : List TraderT} (tk : Int) (h1 : OwnV V g1 (recCells 7 eLot L)) (h2 : OwnV V g2 (recCells 3 eTrader T)) (hL : L.length ≤ 1048576) (hT : T.length ≤ 1048576) : HsIn V (.slice (some ⟨g1, 0, none⟩) L.length L.length) (.slice (some ⟨g2, 0, none⟩) T.length T.length) (L, T, tk) :=
  ⟨OwnV.recsIn h1 (Nat.le_refl _) (by unfold maxLen; omega), OwnV.recsIn h2 (Nat.le_refl _) (by unfold maxLen; omega)⟩
theorem eqHouse_h (tk : Int) (g1 g2 : Option Addr) (n1 c1 n2 c2 : Nat) (q1 q2 : Option Addr) (m1 d1 m2 d2 : Nat) (h : HsT) (V : World) (h1 : HsIn V (.slice g1 n1 c1) (.slice g2 n2 c2) h) (h2 : HsIn V (.slice q1 m1 d1) (.slice q2 m2 d2) h) :
    Calls Try.prog 22 #[vHouse (.slice g1 n1 c1) (.slice g2 n2 c2) tk, vHouse (.slice q1 m1 d1) (.slice q2 m2 d2) tk] V fun e w' => e = .returned (.bool true) ∧ Below V.heap.size V w' :=
  eqHouse_any tk _ _ _ _ _ _ _ _ _ _ _ _ h.1 h.2.1 V h1.1 h1.2 h2.1 h2.2

end Go.Proofs.Ytojlkdmlelgcbaa

/- Records of Ship (ints and texts): words; contracts of the laws' own szShip, szShipS, toShip, toShipS, eqShip, eqShipS, markShipS, heldShipS. Written by wip/mkrecm.py. -/
import Derived.Test.YtcljgaofpeaplaaWalkF
import Derived.Test.YtcljgaofpeaplaaMrA
import Derived.Test.YtcljgaofpeaplaaMtA
import Derived.Test.YtcljgaofpeaplaaExactKit
namespace Go.Proofs.Ytcljgaofpeaplaa
open Go.RowKit

abbrev ShipT := Int × Int × Int × Int × Int × Int
def eShip (x : ShipT) : Nat → Value
  | 0 => .int .i64 x.1
  | 1 => .int .i64 x.2.1
  | 2 => .int .i64 x.2.2.1
  | 3 => .int .i64 x.2.2.2.1
  | 4 => .int .i64 x.2.2.2.2.1
  | _ => .int .i64 x.2.2.2.2.2
def vShip (x0 : Int) (x1 : Int) (x2 : Int) (x3 : Int) (x4 : Int) (x5 : Int) : Value := .agg #[.int .i64 x0, .int .i64 x1, .int .i64 x2, .int .i64 x3, .int .i64 x4, .int .i64 x5]
abbrev RShip := RecsIn 6 eShip
theorem recShipAt {w : World} {ao : Option Addr} {L : List ShipT} {k : Nat} (h : ∀ i, i < L.length → ∃ b o, ao = some ⟨b, o, none⟩ ∧ ∀ j, j < 6 → w.cell? ⟨b, o + (i * 6 + j), none⟩ = some (eShip (L.getD i default) j)) (hk : k < L.length) :
    ∃ b o x0 x1 x2 x3 x4 x5, ao = some ⟨b, o, none⟩ ∧ w.cell? ⟨b, o + k * 6, none⟩ = some (.int .i64 x0) ∧ w.cell? ⟨b, o + k * 6 + 1, none⟩ = some (.int .i64 x1) ∧ w.cell? ⟨b, o + k * 6 + 2, none⟩ = some (.int .i64 x2) ∧ w.cell? ⟨b, o + k * 6 + 3, none⟩ = some (.int .i64 x3) ∧ w.cell? ⟨b, o + k * 6 + 4, none⟩ = some (.int .i64 x4) ∧ w.cell? ⟨b, o + k * 6 + 5, none⟩ = some (.int .i64 x5) ∧ Hid (L.getD k default = (x0, x1, x2, x3, x4, x5)) := by
  obtain ⟨b, o, e, hc⟩ := h k hk
  exact ⟨b, o, _, _, _, _, _, _, e, hc 0 (by omega), hc 1 (by omega), hc 2 (by omega), hc 3 (by omega), hc 4 (by omega), hc 5 (by omega), rfl⟩
theorem Try.infoShip : (Try.prog.info? 25).map (fun i => (i.zero, i.size, i.bytes)) = some (some (vShip 0 0 0 0 0 0), 6, 48) := by kernel_rfl

/-- The marks of ShipS, from k on. -/
def mkShip (k : Int) (q : Nat) : Value := .int .i64 (k + (q : Int))

end Go.Proofs.Ytcljgaofpeaplaa

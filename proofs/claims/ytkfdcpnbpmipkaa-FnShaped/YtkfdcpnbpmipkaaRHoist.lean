/- Records of Hoist (ints and texts): words; contracts of the laws' own szHoist, szHoistS, toHoist, toHoistS, eqHoist, eqHoistS, markHoistS, heldHoistS. Written by wip/mkrecm.py. -/
import Derived.Test.YtkfdcpnbpmipkaaWalkF
import Derived.Test.YtkfdcpnbpmipkaaMrA
import Derived.Test.YtkfdcpnbpmipkaaMtA
import Derived.Test.YtkfdcpnbpmipkaaExactKit
namespace Go.Proofs.Ytkfdcpnbpmipkaa
open Go.RowKit

abbrev HoistT := Int × Int × Int × Int × Int × Int × Int
def eHoist (x : HoistT) : Nat → Value
  | 0 => .int .i64 x.1
  | 1 => .int .i64 x.2.1
  | 2 => .int .i64 x.2.2.1
  | 3 => .int .i64 x.2.2.2.1
  | 4 => .int .i64 x.2.2.2.2.1
  | 5 => .int .i64 x.2.2.2.2.2.1
  | _ => .int .i64 x.2.2.2.2.2.2
def vHoist (x0 : Int) (x1 : Int) (x2 : Int) (x3 : Int) (x4 : Int) (x5 : Int) (x6 : Int) : Value := .agg #[.int .i64 x0, .int .i64 x1, .int .i64 x2, .int .i64 x3, .int .i64 x4, .int .i64 x5, .int .i64 x6]
abbrev RHoist := RecsIn 7 eHoist
theorem recHoistAt {w : World} {ao : Option Addr} {L : List HoistT} {k : Nat} (h : ∀ i, i < L.length → ∃ b o, ao = some ⟨b, o, none⟩ ∧ ∀ j, j < 7 → w.cell? ⟨b, o + (i * 7 + j), none⟩ = some (eHoist (L.getD i default) j)) (hk : k < L.length) :
    ∃ b o x0 x1 x2 x3 x4 x5 x6, ao = some ⟨b, o, none⟩ ∧ w.cell? ⟨b, o + k * 7, none⟩ = some (.int .i64 x0) ∧ w.cell? ⟨b, o + k * 7 + 1, none⟩ = some (.int .i64 x1) ∧ w.cell? ⟨b, o + k * 7 + 2, none⟩ = some (.int .i64 x2) ∧ w.cell? ⟨b, o + k * 7 + 3, none⟩ = some (.int .i64 x3) ∧ w.cell? ⟨b, o + k * 7 + 4, none⟩ = some (.int .i64 x4) ∧ w.cell? ⟨b, o + k * 7 + 5, none⟩ = some (.int .i64 x5) ∧ w.cell? ⟨b, o + k * 7 + 6, none⟩ = some (.int .i64 x6) ∧ Hid (L.getD k default = (x0, x1, x2, x3, x4, x5, x6)) := by
  obtain ⟨b, o, e, hc⟩ := h k hk
  exact ⟨b, o, _, _, _, _, _, _, _, e, hc 0 (by omega), hc 1 (by omega), hc 2 (by omega), hc 3 (by omega), hc 4 (by omega), hc 5 (by omega), hc 6 (by omega), rfl⟩
/-- The marks of HoistS, from k on. -/
def mkHoist (k : Int) (q : Nat) : Value := .int .i64 (k + (q : Int))

end Go.Proofs.Ytkfdcpnbpmipkaa

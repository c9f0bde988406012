/- Records of Stow (ints and texts): words; contracts of the laws' own szStow, szStowS, toStow, toStowS, eqStow, eqStowS, markStowS, heldStowS. Written by wip/mkrecm.py. -/
import Derived.Test.YtnfdokcpjcnknaaWalkF
import Derived.Test.YtnfdokcpjcnknaaMrA
import Derived.Test.YtnfdokcpjcnknaaMtA
import Derived.Test.YtnfdokcpjcnknaaExactKit
import Derived.Test.YtnfdokcpjcnknaaRBox
import Derived.Test.YtnfdokcpjcnknaaFlatX
namespace Go.Proofs.Ytnfdokcpjcnknaa
open Go.RowKit

abbrev StowT := ByteArray × Int × Int × Bool × Int × Int × Int × Int × Int
def eStow (x : StowT) : Nat → Value
  | 0 => .string x.1
  | 1 => .int .i64 x.2.1
  | 2 => .int .i64 x.2.2.1
  | 3 => .bool x.2.2.2.1
  | 4 => .int .i64 x.2.2.2.2.1
  | 5 => .int .i64 x.2.2.2.2.2.1
  | 6 => .int .i64 x.2.2.2.2.2.2.1
  | 7 => .int .i64 x.2.2.2.2.2.2.2.1
  | _ => .int .i64 x.2.2.2.2.2.2.2.2
def vStow (x0 : ByteArray) (x1 : Int) (x2 : Int) (x3 : Bool) (x4 : Int) (x5 : Int) (x6 : Int) (x7 : Int) (x8 : Int) : Value := .agg #[.string x0, .int .i64 x1, .int .i64 x2, .bool x3, .int .i64 x4, .int .i64 x5, .int .i64 x6, .int .i64 x7, .int .i64 x8]
abbrev RStow := RecsIn 9 eStow
theorem recStowAt {w : World} {ao : Option Addr} {L : List StowT} {k : Nat} (h : ∀ i, i < L.length → ∃ b o, ao = some ⟨b, o, none⟩ ∧ ∀ j, j < 9 → w.cell? ⟨b, o + (i * 9 + j), none⟩ = some (eStow (L.getD i default) j)) (hk : k < L.length) :
    ∃ b o x0 x1 x2 x3 x4 x5 x6 x7 x8, ao = some ⟨b, o, none⟩ ∧ w.cell? ⟨b, o + k * 9, none⟩ = some (.string x0) ∧ w.cell? ⟨b, o + k * 9 + 1, none⟩ = some (.int .i64 x1) ∧ w.cell? ⟨b, o + k * 9 + 2, none⟩ = some (.int .i64 x2) ∧ w.cell? ⟨b, o + k * 9 + 3, none⟩ = some (.bool x3) ∧ w.cell? ⟨b, o + k * 9 + 4, none⟩ = some (.int .i64 x4) ∧ w.cell? ⟨b, o + k * 9 + 5, none⟩ = some (.int .i64 x5) ∧ w.cell? ⟨b, o + k * 9 + 6, none⟩ = some (.int .i64 x6) ∧ w.cell? ⟨b, o + k * 9 + 7, none⟩ = some (.int .i64 x7) ∧ w.cell? ⟨b, o + k * 9 + 8, none⟩ = some (.int .i64 x8) ∧ Hid (L.getD k default = (x0, x1, x2, x3, x4, x5, x6, x7, x8)) := by
  obtain ⟨b, o, e, hc⟩ := h k hk
  exact ⟨b, o, _, _, _, _, _, _, _, _, _, e, hc 0 (by omega), hc 1 (by omega), hc 2 (by omega), hc 3 (by omega), hc 4 (by omega), hc 5 (by omega), hc 6 (by omega), hc 7 (by omega), hc 8 (by omega), rfl⟩
theorem Try.infoStow : (Try.prog.info? 40).map (fun i => (i.zero, i.size, i.bytes)) = some (some (vStow ⟨#[]⟩ 0 0 false 0 0 0 0 0), 9, 80) := by kernel_rfl

def txtStow (x : StowT) : ByteArray := x.1
end Go.Proofs.Ytnfdokcpjcnknaa

/- Records of Box (ints and texts): words; contracts of the laws' own szBox, szBoxS, toBox, toBoxS, eqBox, eqBoxS, markBoxS, heldBoxS. Written by wip/mkrecm.py. -/
import Derived.Test.YtnfdokcpjcnknaaWalkF
import Derived.Test.YtnfdokcpjcnknaaMrA
import Derived.Test.YtnfdokcpjcnknaaMtA
import Derived.Test.YtnfdokcpjcnknaaExactKit
namespace Go.Proofs.Ytnfdokcpjcnknaa
open Go.RowKit

abbrev BoxT := ByteArray × Int × Int × Bool × Int × Int
def eBox (x : BoxT) : Nat → Value
  | 0 => .string x.1
  | 1 => .int .i64 x.2.1
  | 2 => .int .i64 x.2.2.1
  | 3 => .bool x.2.2.2.1
  | 4 => .int .i64 x.2.2.2.2.1
  | _ => .int .i64 x.2.2.2.2.2
def vBox (x0 : ByteArray) (x1 : Int) (x2 : Int) (x3 : Bool) (x4 : Int) (x5 : Int) : Value := .agg #[.string x0, .int .i64 x1, .int .i64 x2, .bool x3, .int .i64 x4, .int .i64 x5]
abbrev RBox := RecsIn 6 eBox
theorem recBoxAt {w : World} {ao : Option Addr} {L : List BoxT} {k : Nat} (h : ∀ i, i < L.length → ∃ b o, ao = some ⟨b, o, none⟩ ∧ ∀ j, j < 6 → w.cell? ⟨b, o + (i * 6 + j), none⟩ = some (eBox (L.getD i default) j)) (hk : k < L.length) :
    ∃ b o x0 x1 x2 x3 x4 x5, ao = some ⟨b, o, none⟩ ∧ w.cell? ⟨b, o + k * 6, none⟩ = some (.string x0) ∧ w.cell? ⟨b, o + k * 6 + 1, none⟩ = some (.int .i64 x1) ∧ w.cell? ⟨b, o + k * 6 + 2, none⟩ = some (.int .i64 x2) ∧ w.cell? ⟨b, o + k * 6 + 3, none⟩ = some (.bool x3) ∧ w.cell? ⟨b, o + k * 6 + 4, none⟩ = some (.int .i64 x4) ∧ w.cell? ⟨b, o + k * 6 + 5, none⟩ = some (.int .i64 x5) ∧ Hid (L.getD k default = (x0, x1, x2, x3, x4, x5)) := by
  obtain ⟨b, o, e, hc⟩ := h k hk
  exact ⟨b, o, _, _, _, _, _, _, e, hc 0 (by omega), hc 1 (by omega), hc 2 (by omega), hc 3 (by omega), hc 4 (by omega), hc 5 (by omega), rfl⟩
theorem Try.infoBox : (Try.prog.info? 36).map (fun i => (i.zero, i.size, i.bytes)) = some (some (vBox ⟨#[]⟩ 0 0 false 0 0), 6, 56) := by kernel_rfl

def txtBox (x : BoxT) : ByteArray := x.1
end Go.Proofs.Ytnfdokcpjcnknaa

/- Records of Hatch (ints and texts): words; contracts of the laws' own szHatch, szHatchS, toHatch, toHatchS, eqHatch, eqHatchS, markHatchS, heldHatchS. Written by wip/mkrecm.py. -/
import Derived.Test.YtnfdokcpjcnknaaWalkF
import Derived.Test.YtnfdokcpjcnknaaMrA
import Derived.Test.YtnfdokcpjcnknaaMtA
import Derived.Test.YtnfdokcpjcnknaaExactKit
namespace Go.Proofs.Ytnfdokcpjcnknaa
open Go.RowKit

abbrev HatchT := Int × Int × Int × Int
def eHatch (x : HatchT) : Nat → Value
  | 0 => .int .i64 x.1
  | 1 => .int .i64 x.2.1
  | 2 => .int .i64 x.2.2.1
  | _ => .int .i64 x.2.2.2
def vHatch (x0 : Int) (x1 : Int) (x2 : Int) (x3 : Int) : Value := .agg #[.int .i64 x0, .int .i64 x1, .int .i64 x2, .int .i64 x3]
abbrev RHatch := RecsIn 4 eHatch
theorem recHatchAt {w : World} {ao : Option Addr} {L : List HatchT} {k : Nat} (h : ∀ i, i < L.length → ∃ b o, ao = some ⟨b, o, none⟩ ∧ ∀ j, j < 4 → w.cell? ⟨b, o + (i * 4 + j), none⟩ = some (eHatch (L.getD i default) j)) (hk : k < L.length) :
    ∃ b o x0 x1 x2 x3, ao = some ⟨b, o, none⟩ ∧ w.cell? ⟨b, o + k * 4, none⟩ = some (.int .i64 x0) ∧ w.cell? ⟨b, o + k * 4 + 1, none⟩ = some (.int .i64 x1) ∧ w.cell? ⟨b, o + k * 4 + 2, none⟩ = some (.int .i64 x2) ∧ w.cell? ⟨b, o + k * 4 + 3, none⟩ = some (.int .i64 x3) ∧ Hid (L.getD k default = (x0, x1, x2, x3)) := by
  obtain ⟨b, o, e, hc⟩ := h k hk
  exact ⟨b, o, _, _, _, _, e, hc 0 (by omega), hc 1 (by omega), hc 2 (by omega), hc 3 (by omega), rfl⟩
theorem Try.infoHatch : (Try.prog.info? 65).map (fun i => (i.zero, i.size, i.bytes)) = some (some (vHatch 0 0 0 0), 4, 32) := by kernel_rfl

/-- The marks of HatchS, from k on. -/
def mkHatch (k : Int) (q : Nat) : Value := .int .i64 (k + (q : Int))

end Go.Proofs.Ytnfdokcpjcnknaa

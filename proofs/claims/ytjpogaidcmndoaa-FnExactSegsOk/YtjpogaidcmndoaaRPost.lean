/- Records of Post (ints and texts): words; contracts of the laws' own szPost, szPostS, toPost, toPostS, eqPost, eqPostS, markPostS, heldPostS. Written by wip/mkrecm.py. -/
import Derived.Test.YtjpogaidcmndoaaWalkF
import Derived.Test.YtjpogaidcmndoaaMrA
import Derived.Test.YtjpogaidcmndoaaMtA
import Derived.Test.YtjpogaidcmndoaaExactKit
namespace Go.Proofs.Ytjpogaidcmndoaa
open Go.RowKit

abbrev PostT := Int × Int × Int × ByteArray
def ePost (x : PostT) : Nat → Value
  | 0 => .int .i64 x.1
  | 1 => .int .i64 x.2.1
  | 2 => .int .i64 x.2.2.1
  | _ => .string x.2.2.2
def vPost (x0 : Int) (x1 : Int) (x2 : Int) (x3 : ByteArray) : Value := .agg #[.int .i64 x0, .int .i64 x1, .int .i64 x2, .string x3]
abbrev RPost := RecsIn 4 ePost
theorem recPostAt {w : World} {ao : Option Addr} {L : List PostT} {k : Nat} (h : ∀ i, i < L.length → ∃ b o, ao = some ⟨b, o, none⟩ ∧ ∀ j, j < 4 → w.cell? ⟨b, o + (i * 4 + j), none⟩ = some (ePost (L.getD i default) j)) (hk : k < L.length) :
    ∃ b o x0 x1 x2 x3, ao = some ⟨b, o, none⟩ ∧ w.cell? ⟨b, o + k * 4, none⟩ = some (.int .i64 x0) ∧ w.cell? ⟨b, o + k * 4 + 1, none⟩ = some (.int .i64 x1) ∧ w.cell? ⟨b, o + k * 4 + 2, none⟩ = some (.int .i64 x2) ∧ w.cell? ⟨b, o + k * 4 + 3, none⟩ = some (.string x3) ∧ Hid (L.getD k default = (x0, x1, x2, x3)) := by
  obtain ⟨b, o, e, hc⟩ := h k hk
  exact ⟨b, o, _, _, _, _, e, hc 0 (by omega), hc 1 (by omega), hc 2 (by omega), hc 3 (by omega), rfl⟩
def txtPost (x : PostT) : ByteArray := x.2.2.2
/-- The marks of PostS, from k on. -/
def mkPost (k : Int) (q : Nat) : Value := if q % 4 = 3 then .string (mt (k + (q : Int))) else .int .i64 (k + (q : Int))

end Go.Proofs.Ytjpogaidcmndoaa

/- Records of Signal (ints and texts): words; contracts of the laws' own szSignal, szSignalS, toSignal, toSignalS, eqSignal, eqSignalS, markSignalS, heldSignalS. Written by wip/mkrecm.py. -/
import Derived.Test.YtkfdcpnbpmipkaaWalkF
import Derived.Test.YtkfdcpnbpmipkaaMrA
import Derived.Test.YtkfdcpnbpmipkaaMtA
import Derived.Test.YtkfdcpnbpmipkaaExactKit
namespace Go.Proofs.Ytkfdcpnbpmipkaa
open Go.RowKit

abbrev SignalT := Int × Int
def eSignal (x : SignalT) : Nat → Value
  | 0 => .int .i64 x.1
  | _ => .int .i64 x.2
def vSignal (x0 : Int) (x1 : Int) : Value := .agg #[.int .i64 x0, .int .i64 x1]
abbrev RSignal := RecsIn 2 eSignal
theorem recSignalAt {w : World} {ao : Option Addr} {L : List SignalT} {k : Nat} (h : ∀ i, i < L.length → ∃ b o, ao = some ⟨b, o, none⟩ ∧ ∀ j, j < 2 → w.cell? ⟨b, o + (i * 2 + j), none⟩ = some (eSignal (L.getD i default) j)) (hk : k < L.length) :
    ∃ b o x0 x1, ao = some ⟨b, o, none⟩ ∧ w.cell? ⟨b, o + k * 2, none⟩ = some (.int .i64 x0) ∧ w.cell? ⟨b, o + k * 2 + 1, none⟩ = some (.int .i64 x1) ∧ Hid (L.getD k default = (x0, x1)) := by
  obtain ⟨b, o, e, hc⟩ := h k hk
  exact ⟨b, o, _, _, e, hc 0 (by omega), hc 1 (by omega), rfl⟩
/-- The marks of SignalS, from k on. -/
def mkSignal (k : Int) (q : Nat) : Value := .int .i64 (k + (q : Int))

end Go.Proofs.Ytkfdcpnbpmipkaa

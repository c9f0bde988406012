/- Records of Sway (ints and texts): words; contracts of the laws' own szSway, szSwayS, toSway, toSwayS, eqSway, eqSwayS, markSwayS, heldSwayS. Written by wip/mkrecm.py. -/
import Derived.Test.YtkfdcpnbpmipkaaWalkF
import Derived.Test.YtkfdcpnbpmipkaaMrA
import Derived.Test.YtkfdcpnbpmipkaaMtA
import Derived.Test.YtkfdcpnbpmipkaaExactKit
namespace Go.Proofs.Ytkfdcpnbpmipkaa
open Go.RowKit

abbrev SwayT := Int × Int × Int
def eSway (x : SwayT) : Nat → Value
  | 0 => .int .i64 x.1
  | 1 => .int .i64 x.2.1
  | _ => .int .i64 x.2.2
def vSway (x0 : Int) (x1 : Int) (x2 : Int) : Value := .agg #[.int .i64 x0, .int .i64 x1, .int .i64 x2]
abbrev RSway := RecsIn 3 eSway
theorem recSwayAt {w : World} {ao : Option Addr} {L : List SwayT} {k : Nat} (h : ∀ i, i < L.length → ∃ b o, ao = some ⟨b, o, none⟩ ∧ ∀ j, j < 3 → w.cell? ⟨b, o + (i * 3 + j), none⟩ = some (eSway (L.getD i default) j)) (hk : k < L.length) :
    ∃ b o x0 x1 x2, ao = some ⟨b, o, none⟩ ∧ w.cell? ⟨b, o + k * 3, none⟩ = some (.int .i64 x0) ∧ w.cell? ⟨b, o + k * 3 + 1, none⟩ = some (.int .i64 x1) ∧ w.cell? ⟨b, o + k * 3 + 2, none⟩ = some (.int .i64 x2) ∧ Hid (L.getD k default = (x0, x1, x2)) := by
  obtain ⟨b, o, e, hc⟩ := h k hk
  exact ⟨b, o, _, _, _, e, hc 0 (by omega), hc 1 (by omega), hc 2 (by omega), rfl⟩
theorem Try.infoSway : (Try.prog.info? 31).map (fun i => (i.zero, i.size, i.bytes)) = some (some (vSway 0 0 0), 3, 24) := by kernel_rfl

set_option maxHeartbeats 800000 in
theorem toSway_any (x0 : Int) (x1 : Int) (x2 : Int) (w : World) :
    Calls Try.prog 16 #[vSway x0 x1 x2] w fun e w' => e = .returned (vSway x0 x1 x2) ∧ Below w.heap.size w w' := by
  unfold vSway
  go_enter Try.func16, Try.ntmps16
  go_wp2
  refine bodyPost_ret (v := vSway x0 x1 x2) (by simp [results, Try.results16, go_sem, vSway]) rfl ⟨rfl, ?_⟩
  exact (((Below.refl _ _).alloc (Nat.le_refl _) _).alloc (by simp) _).alloc (by simp; omega) _

set_option maxHeartbeats 800000 in
theorem eqSway_any (x0 : Int) (x1 : Int) (x2 : Int) (w : World) :
    Calls Try.prog 18 #[vSway x0 x1 x2, vSway x0 x1 x2] w fun e w' => e = .returned (.bool true) ∧ Below w.heap.size w w' := by
  unfold vSway
  go_enter Try.func18, Try.ntmps18
  go_wp2
  go_ret
  exact ⟨rfl, ((Below.refl _ _).alloc (Nat.le_refl _) _).alloc (by simp) _⟩

/-- The marks of SwayS, from k on. -/
def mkSway (k : Int) (q : Nat) : Value := .int .i64 (k + (q : Int))

end Go.Proofs.Ytkfdcpnbpmipkaa

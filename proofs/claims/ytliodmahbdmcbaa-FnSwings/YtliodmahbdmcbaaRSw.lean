/- Lists of swings (a whole number and a bool each): contracts of the laws' own eqSwingS, markSwingS and heldSwingS over them. -/
import Derived.Test.YtliodmahbdmcbaaRecs
import Derived.Test.YtliodmahbdmcbaaWalkC
import Derived.Test.YtliodmahbdmcbaaKept
import Derived.Deep.RegionHeld3
namespace Go.Proofs.Ytliodmahbdmcbaa
open Go.RowKit

abbrev Sw := Int × Bool
def eSw (x : Sw) : Nat → Value
  | 0 => .int .i64 x.1
  | _ => .bool x.2
def vSw (x : Sw) : Value := .agg #[.int .i64 x.1, .bool x.2]
abbrev SwIn := RecsIn 2 eSw

theorem swAt {w : World} {ao : Option Addr} {L : List Sw} {k : Nat} (h : ∀ i, i < L.length → ∃ b o, ao = some ⟨b, o, none⟩ ∧ ∀ j, j < 2 → w.cell? ⟨b, o + (i * 2 + j), none⟩ = some (eSw (L.getD i default) j)) (hk : k < L.length) :
    ∃ b o x y, ao = some ⟨b, o, none⟩ ∧ w.cell? ⟨b, o + k * 2, none⟩ = some (.int .i64 x) ∧ w.cell? ⟨b, o + k * 2 + 1, none⟩ = some (.bool y) ∧ Hid (L.getD k default = (x, y)) := by
  obtain ⟨b, o, e, hc⟩ := h k hk
  exact ⟨b, o, _, _, e, hc 0 (by omega), hc 1 (by omega), rfl⟩

set_option maxHeartbeats 400000 in
theorem eqSwing_any (x : Int) (y : Bool) (w : World) :
    Calls Try.prog 65 #[vSw (x, y), vSw (x, y)] w fun e w' => e = .returned (.bool true) ∧ Below w.heap.size w w' := by
  unfold vSw
  cases y
  all_goals
    go_enter Try.func65, Try.ntmps65
    go_wp2
    go_ret
    exact ⟨rfl, Below.step (Below.alloc1 _ _) (Below.alloc1 _ _)⟩

set_option maxHeartbeats 800000 in
theorem eqSwingS_o (v v' : Value) (L : List Sw) (w : World) (h : SwIn w v L) (h' : SwIn w v' L) :
    Calls Try.prog 39 #[v, v'] w fun e w' => e = .returned (.bool true) ∧ Below w.heap.size w w' := by
  obtain ⟨ao, cap, rfl, hl, hm, hc⟩ := h
  obtain ⟨ao', cap', rfl, hl', hm', hc'⟩ := h'
  unfold maxLen at hm hm'
  have HC := hide hc
  have HC' := hide hc'
  clear hc hc'
  go_enter Try.func39, Try.ntmps39
  go_wp2
  go_loopg [5] L.length (fun g i wr => Below w.heap.size w wr ∧ ∃ k : Nat, k ≤ L.length ∧ g = L.length - k ∧ i = .int .i64 k)
  case atStart => exact ⟨Below.refl _ _, 0, Nat.zero_le _, rfl, rfl⟩
  case round =>
    obtain ⟨hW, k, hk, rfl, rfl⟩ := hrel
    by_cases hkn : k < L.length
    · obtain ⟨b, o, x, y, rfl, hc0, hc1, EX⟩ := swAt (unhide HC) hkn
      obtain ⟨b', o', x', y', rfl, hc0', hc1', EX'⟩ := swAt (unhide HC') hkn
      have e := (unhide EX).symm.trans (unhide EX')
      simp only [Prod.mk.injEq] at e
      obtain ⟨rfl, rfl⟩ := e
      have g0 := (hW.cell (lt_of_cell hc0)).trans hc0
      have g1 := (hW.cell (lt_of_cell hc1)).trans hc1
      have g0' := (hW.cell (lt_of_cell hc0')).trans hc0'
      have g1' := (hW.cell (lt_of_cell hc1')).trans hc1'
      have HW := hide hW
      have HE := hide fun V => eqSwing_any x y V
      clear hc0 hc1 hc0' hc1' hW EX EX'
      have hki : (k : Int) < L.length := by omega
      unfold vSw at HE
      go_wp2
      go_region_held3 (fun w' => w'.cell? ⟨b, o + k * 2, none⟩ = some (.int .i64 x) ∧ w'.cell? ⟨b, o + k * 2 + 1, none⟩ = some (.bool y) ∧ w'.cell? ⟨b', o' + k * 2, none⟩ = some (.int .i64 x) ∧ w'.cell? ⟨b', o' + k * 2 + 1, none⟩ = some (.bool y)) (go_keep) (first | (go_at_call 65; refine (unhide HE _).mono ?_; rintro e w1 ⟨rfl, hb⟩; have HW1 := hide (Below.step (unhide HW).drew hb); have f0 := (hb.cell (lt_of_cell g0)).trans g0; have f1 := (hb.cell (lt_of_cell g1)).trans g1; have f2 := (hb.cell (lt_of_cell g0')).trans g0'; have f3 := (hb.cell (lt_of_cell g1')).trans g1'; clear hb))
      go_wp2
      go_roundg (L.length - (k + 1))
      case measure => omega
      case rel => exact ⟨unhide HW1, k + 1, by omega, rfl, by go_num⟩
    · go_wp2
      go_ret
      exact ⟨rfl, hW⟩

end Go.Proofs.Ytliodmahbdmcbaa

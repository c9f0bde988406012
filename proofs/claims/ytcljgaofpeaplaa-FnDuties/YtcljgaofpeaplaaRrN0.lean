/- Lists of ships: the program's shipsOk; the duties of a list in numbers. -/
import Derived.Test.YtcljgaofpeaplaaRrK
namespace Go.Proofs.Ytcljgaofpeaplaa
open Go.RowKit

def okT (s : ShipT) : Bool := shipB s.1 s.2.1 s.2.2.1 s.2.2.2.1 s.2.2.2.2.1 s.2.2.2.2.2
def dutT (s t : ShipT) : Int := duty s.1 s.2.1 s.2.2.1 s.2.2.2.1 s.2.2.2.2.1 s.2.2.2.2.2 t.1 t.2.1 t.2.2.1 t.2.2.2.1 t.2.2.2.2.1 t.2.2.2.2.2
def shipsB (L : List ShipT) : Bool := decide (L.length ≤ 20) && L.all okT
/-- The duty of the ship at i about the one at j; none about itself. -/
def dutN (L : List ShipT) (i j : Nat) : Int := if j = i then 0 else dutT (L.getD i default) (L.getD j default)
def dutRow (L : List ShipT) (i : Nat) : List Int := (List.range L.length).map (dutN L i)
def dutRows (L : List ShipT) : List (List Int) := (List.range L.length).map (dutRow L)
def dutiesR (L : List ShipT) : List (List Int) := bif shipsB L then dutRows L else []
theorem shipsB_bad {L : List ShipT} {k : Nat} (hk : k < L.length) (h : okT (L.getD k default) = false) : shipsB L = false := by
  unfold shipsB
  rw [all_false (p := okT) hk h]
  simp
theorem dutRow_len (L : List ShipT) (i : Nat) : (dutRow L i).length = L.length := by simp [dutRow]
theorem dutRows_len (L : List ShipT) : (dutRows L).length = L.length := by simp [dutRows]
theorem dutRows_get (L : List ShipT) {i : Nat} (h : i < L.length) : (dutRows L).getD i [] = dutRow L i := by simp [dutRows, h]

set_option maxHeartbeats 3200000 in
theorem shipsOk_any (v : Value) (L : List ShipT) (w : World) (h : RShip w v L) :
    Calls Try.prog 27 #[v] w fun e w' => e = .returned (.bool (shipsB L)) ∧ Below w.heap.size w w' := by
  obtain ⟨ao, cap, rfl, hl, hm, hc⟩ := h
  unfold maxLen at hm
  have HC := hide hc
  clear hc
  by_cases h20 : L.length ≤ 20
  case neg =>
    have h20' : (20 : Int) < L.length := by omega
    have HN : Hid (shipsB L = false) := by show _ = _; unfold shipsB; rw [decide_eq_false h20]; rfl
    go_enter Try.func27, Try.ntmps27
    go_wp2
    go_ret
    exact ⟨ret_bool (unhide HN).symm, Below.refl _ _⟩
  have h20' : (L.length : Int) ≤ 20 := by omega
  go_enter Try.func27, Try.ntmps27
  go_wp2
  go_loopg [10] L.length (fun g i wr => Hid (Below w.heap.size w wr) ∧ ∃ k : Nat, k ≤ L.length ∧ g = L.length - k ∧ i = .int .i64 k ∧ Hid (∀ r, r < k → okT (L.getD r default) = true))
  case atStart => exact ⟨Below.refl _ _, 0, Nat.zero_le _, rfl, rfl, fun r hr => by omega⟩
  case round =>
    obtain ⟨HW, k, hk, rfl, rfl, HK⟩ := hrel
    by_cases hkn : k < L.length
    · obtain ⟨b, o, x0, x1, x2, x3, x4, x5, rfl, hc0, hc1, hc2, hc3, hc4, hc5, EX⟩ := recShipAt (unhide HC) hkn
      have r0 := wcell3 hc0 (unhide HW)
      have r1 := wcell3 hc1 (unhide HW)
      have r2 := wcell3 hc2 (unhide HW)
      have r3 := wcell3 hc3 (unhide HW)
      have r4 := wcell3 hc4 (unhide HW)
      have r5 := wcell3 hc5 (unhide HW)
      clear hc0 hc1 hc2 hc3 hc4 hc5
      have hkni : (k : Int) < L.length := by omega
      have HS := hide fun W => implShipOk_any x0 x1 x2 x3 x4 x5 W
      have HT : Hid (okT (L.getD k default) = shipB x0 x1 x2 x3 x4 x5) := by show _ = _; rw [unhide EX]; rfl
      generalize shipB x0 x1 x2 x3 x4 x5 = t at HS HT
      unfold vShip at HS
      have HN := hide (Below.step (unhide HW) (Below.alloc1 wr (.cells #[.int .i64 x0, .int .i64 x1, .int .i64 x2, .int .i64 x3, .int .i64 x4, .int .i64 x5] 25)))
      clear HW EX
      go_wp2_with fail
      refine (unhide HS _).mono ?_
      rintro e w1 ⟨rfl, hb⟩
      replace HN := hide (Below.step (unhide HN) hb)
      clear hb HS r0 r1 r2 r3 r4 r5
      cases t
      · have HF := hide (shipsB_bad hkn (unhide HT))
        go_wp2
        go_ret
        exact ⟨ret_bool (unhide HF).symm, unhide HN⟩
      have HK' : Hid (∀ r, r < k + 1 → okT (L.getD r default) = true) := fun r hr => by
        by_cases e : r = k
        · subst e; exact unhide HT
        · exact HK.out r (by omega)
      clear HK HT
      go_wp2
      go_roundg (L.length - (k + 1))
      case measure => omega
      case rel => exact ⟨HN, k + 1, by omega, rfl, by go_num, HK'⟩
    · have hkni : ¬ (k : Int) < L.length := by omega
      have HF : Hid (shipsB L = true) := by
        show _ = _
        unfold shipsB
        rw [decide_eq_true h20, all_true (d := default) (fun r hr => HK.out r (by omega))]
        rfl
      go_wp2
      go_ret
      exact ⟨ret_bool (unhide HF).symm, unhide HW⟩

end Go.Proofs.Ytcljgaofpeaplaa

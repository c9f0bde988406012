/- Contracts of both Burn. -/
import Derived.Test.YtfokocpdngokfaaWalkD
import Derived.Test.YtfokocpdngokfaaExactKit
import Derived.Test.YtfokocpdngokfaaWalkC
import Derived.Test.YtfokocpdngokfaaOwnInts
import Derived.Deep.QuietTactic
import Derived.BigQuiet
namespace Go.Proofs.Ytfokocpdngokfaa
open Go.RowKit

def Cv (C : List Int) : Prop := 2 ≤ C.length ∧ C.length ≤ 30 ∧ ∀ i, i < C.length → 0 ≤ C.getD i 0 ∧ C.getD i 0 ≤ 100000
instance (C : List Int) : Decidable (Cv C) := by unfold Cv; infer_instance
def allC (C : List Int) : Prop := ∀ i, i < C.length → 0 ≤ C.getD i 0 ∧ C.getD i 0 ≤ 100000
instance (C : List Int) : Decidable (allC C) := by unfold allC; infer_instance
def burnOk (C : List Int) (s m : Int) : Prop := Cv C ∧ 0 ≤ s ∧ s ≤ 10 * ((C.length : Int) - 1) ∧ 0 ≤ m ∧ m ≤ 100000
instance (C : List Int) (s m : Int) : Decidable (burnOk C s m) := by unfold burnOk; infer_instance
/-- Ten times what is burnt in 60 minutes. -/
def tenths (C : List Int) (s : Int) : Int := 10 * C.getD (s / 10).toNat 0 + (s % 10) * (C.getD (min ((s / 10).toNat + 1) (C.length - 1)) 0 - C.getD (s / 10).toNat 0)
def burnV (C : List Int) (s m : Int) : Int × Bool := if burnOk C s m then (tenths C s * m / 600, true) else (0, false)
theorem burnV_not {C : List Int} {s m : Int} (h : ¬ burnOk C s m) : burnV C s m = (0, false) := if_neg h
theorem ret_burn {p : Int × Bool} {a : Int} {b : Bool} (h : p = (a, b)) : Ending.returned (.tuple #[.int .i64 a, .bool b]) = Ending.returned (.tuple #[.int .i64 p.1, .bool p.2]) := by rw [h]

theorem burn_nums {x y D m : Int} (hx0 : 0 ≤ x) (hx1 : x ≤ 100000) (hy0 : 0 ≤ y) (hy1 : y ≤ 100000) (hD0 : 0 ≤ D) (hD1 : D ≤ 10) (hm0 : 0 ≤ m) (hm1 : m ≤ 100000) :
    -1000000 ≤ D * (y - x) ∧ D * (y - x) ≤ 1000000 ∧ 0 ≤ 10 * x + D * (y - x) ∧ 10 * x + D * (y - x) ≤ 1000000 ∧ 0 ≤ (10 * x + D * (y - x)) * m ∧ (10 * x + D * (y - x)) * m ≤ 100000000000 := by
  have h1 : 0 ≤ D * y := Int.mul_nonneg hD0 hy0
  have h2 : 0 ≤ (10 - D) * x := Int.mul_nonneg (by omega) hx0
  have h3 : D * y ≤ D * 100000 := Int.mul_le_mul_of_nonneg_left hy1 hD0
  have h4 : (10 - D) * x ≤ (10 - D) * 100000 := Int.mul_le_mul_of_nonneg_left hx1 (by omega)
  have h5 : 0 ≤ D * x := Int.mul_nonneg hD0 hx0
  have h6 : D * x ≤ D * 100000 := Int.mul_le_mul_of_nonneg_left hx1 hD0
  rw [Int.sub_mul] at h2 h4
  have e : D * (y - x) = D * y - D * x := Int.mul_sub _ _ _
  rw [e]
  have h7 : 0 ≤ 10 * x + (D * y - D * x) := by omega
  have h8 : 10 * x + (D * y - D * x) ≤ 1000000 := by omega
  have h9 := Int.mul_nonneg h7 hm0
  have h10 : (10 * x + (D * y - D * x)) * m ≤ 1000000 * 100000 := Int.mul_le_mul h8 hm1 hm0 (by omega)
  exact ⟨by omega, by omega, h7, h8, h9, by omega⟩

set_option maxRecDepth 10000 in
set_option maxHeartbeats 4000000 in
theorem l3AllE_any (v : Value) (C : List Int) (w : World) (h : IntsIn w v C) :
    Calls Try.prog 59 #[v, .int .i64 0, .int .i64 100000] w fun e w' => e = .returned (.bool (decide (allC C))) ∧ Below w.heap.size w w' := by
  obtain ⟨ao, cap, rfl, hl, hm, hc⟩ := h
  unfold maxLen at hm
  have HC := hide hc
  clear hc
  go_enter Try.func59, Try.ntmps59
  go_wp2
  go_loopg [7] C.length (fun g i wr => Hid (Below w.heap.size w wr) ∧ ∃ k : Nat, k ≤ C.length ∧ g = C.length - k ∧ i = .int .i64 k ∧ Hid (∀ r, r < k → 0 ≤ C.getD r 0 ∧ C.getD r 0 ≤ 100000))
  case atStart => exact ⟨Below.refl _ _, 0, Nat.zero_le _, rfl, rfl, fun r hr => by omega⟩
  case round =>
    obtain ⟨HW, k, hk, rfl, rfl, HD⟩ := hrel
    by_cases hkn : k < C.length
    · obtain ⟨b, o, rfl, hcell⟩ := unhide HC k hkn
      have g0 := ((unhide HW).cell (lt_of_cell hcell)).trans hcell
      have hki : (k : Int) < C.length := by omega
      have HNO : Hid (¬ (0 ≤ C.getD k 0 ∧ C.getD k 0 ≤ 100000) → decide (allC C) = false) := fun h => decide_eq_false fun h' => h (h' k hkn)
      have HYES : Hid ((0 ≤ C.getD k 0 ∧ C.getD k 0 ≤ 100000) → ∀ r, r < k + 1 → 0 ≤ C.getD r 0 ∧ C.getD r 0 ≤ 100000) := fun h r hr => by
        by_cases e : r = k
        · rw [e]; exact h
        · exact (unhide HD) r (by omega)
      generalize C.getD k 0 = x at HNO HYES g0
      have HQ := hide fun V => l1In_any x 0 100000 V
      clear hcell
      cases h1 : inB x 0 100000 with
      | false =>
        rw [h1] at HQ
        go_wp2_with fail
        refine (unhide HQ _).mono ?_
        rintro e w' ⟨rfl, h9⟩
        have h8 := h9.symm
        subst h8
        clear h9
        go_wp2
        go_ret
        exact ⟨ret_bool (unhide HNO (by simp [inB] at h1; omega)).symm, unhide HW⟩
      | true =>
        rw [h1] at HQ
        go_wp2_with fail
        refine (unhide HQ _).mono ?_
        rintro e w' ⟨rfl, h9⟩
        have h8 := h9.symm
        subst h8
        clear h9
        go_wp2
        go_roundg (C.length - (k + 1))
        case measure => omega
        case rel => exact ⟨unhide HW, k + 1, by omega, rfl, by go_num, unhide HYES (by simp [inB] at h1; omega)⟩
    · have HF : Hid (decide (allC C) = true) := decide_eq_true fun r hr => (unhide HD) r (by omega)
      go_wp2
      go_ret
      exact ⟨ret_bool (unhide HF).symm, unhide HW⟩

/-- What the reckoning needs, in numbers. -/
theorem burn_at {w : World} {v : Value} {C : List Int} {s m : Int} (h : IntsIn w v C) (hb : burnOk C s m) :
    ∃ (b o K U : Nat) (cap : Nat) (x y D pd tm : Int), v = .slice (some ⟨b, o, none⟩) C.length cap ∧ (K : Int) = s / 10 ∧ D = s % 10 ∧ K < C.length ∧ U < C.length ∧ ((K : Int) + 1 ≤ (C.length : Int) - 1 → U = K + 1) ∧ ((C.length : Int) - 1 < (K : Int) + 1 → (U : Int) = (C.length : Int) - 1) ∧ (0 < D → U = K + 1) ∧
      w.cell? ⟨b, o + K, none⟩ = some (.int .i64 x) ∧ w.cell? ⟨b, o + U, none⟩ = some (.int .i64 y) ∧ 0 ≤ x ∧ x ≤ 100000 ∧ 0 ≤ y ∧ y ≤ 100000 ∧ pd = D * (y - x) ∧ -1000000 ≤ pd ∧ pd ≤ 1000000 ∧ 0 ≤ 10 * x + pd ∧ 10 * x + pd ≤ 1000000 ∧ tm = (10 * x + pd) * m ∧ 0 ≤ tm ∧ tm ≤ 100000000000 ∧ burnV C s m = (tm / 600, true) := by
  obtain ⟨⟨h1, h2, h3⟩, h4, h5, h6, h7⟩ := hb
  obtain ⟨ao, cap, rfl, hl, hm, hc⟩ := h
  obtain ⟨b, o, rfl, -⟩ := hc 0 (by omega)
  have hK : (s / 10).toNat < C.length := by omega
  have hU : min ((s / 10).toNat + 1) (C.length - 1) < C.length := by omega
  obtain ⟨b1, o1, e1, c1⟩ := hc _ hK
  obtain ⟨b2, o2, e2, c2⟩ := hc _ hU
  simp only [Option.some.injEq, Addr.mk.injEq, and_true] at e1 e2
  obtain ⟨rfl, rfl⟩ := e1
  obtain ⟨rfl, rfl⟩ := e2
  have n := burn_nums (h3 _ hK).1 (h3 _ hK).2 (h3 _ hU).1 (h3 _ hU).2 (D := s % 10) (by omega) (by omega) h6 h7
  exact ⟨b, o, (s / 10).toNat, min ((s / 10).toNat + 1) (C.length - 1), cap, _, _, s % 10, _, _, rfl, by omega, rfl, hK, hU, by omega, by omega, by omega, c1, c2, (h3 _ hK).1, (h3 _ hK).2, (h3 _ hU).1, (h3 _ hU).2, rfl, n.1, n.2.1, n.2.2.1, n.2.2.2.1, rfl, n.2.2.2.2.1, n.2.2.2.2.2, by rw [burnV, if_pos ⟨⟨h1, h2, h3⟩, h4, h5, h6, h7⟩, tenths]⟩

end Go.Proofs.Ytfokocpdngokfaa

/- Fuel and pumps in numbers; contracts of fuelsOk, l10Fuels, pumpOk. -/
import Derived.Test.YtblkbonedgofiaaDoorWalkD
import Derived.Test.YtblkbonedgofiaaDoorRecs
import Derived.Test.YtblkbonedgofiaaDoorExactKit
import Derived.Test.YtblkbonedgofiaaDoorWalkC
import Derived.Deep.QuietTactic
import Derived.BigQuiet
namespace Go.Proofs.YtblkbonedgofiaaDoor
open Go.RowKit

abbrev hs (L : List I2) (i : Nat) : Int := (L.getD i default).1
abbrev ms (L : List I2) (i : Nat) : Int := (L.getD i default).2
def fuGood (L : List I2) (i : Nat) : Prop := 0 ≤ hs L i ∧ hs L i ≤ ms L i ∧ ms L i ≤ 1000000
instance (L : List I2) (i : Nat) : Decidable (fuGood L i) := by unfold fuGood; infer_instance
def Fu (L : List I2) : Prop := L.length ≤ 8 ∧ ∀ i, i < L.length → fuGood L i
instance (L : List I2) : Decidable (Fu L) := by unfold Fu; infer_instance
def fuB (L : List I2) : Bool := decide (Fu L)
def pgB (n f t m : Int) : Bool := inB f (-1) (n - 1) && inB t (-1) (n - 1) && (f != t) && inB m 1 1000000
def pumpOk1 (L : List I2) (f t m : Int) : Bool := fuB L && pgB L.length f t m
def pumpC (L : List I2) (f t m : Int) : Int :=
  if pumpOk1 L f t m = false then 1 else if f ≠ -1 ∧ hs L f.toNat < m then 2 else if t ≠ -1 ∧ ms L t.toNat < hs L t.toNat + m then 3 else 0
def putH (L : List I2) (i : Nat) (h : Int) : List I2 := L.set i (h, ms L i)
def takeF (L : List I2) (f m : Int) : List I2 := if f = -1 then L else putH L f.toNat (hs L f.toNat - m)
def giveT (L : List I2) (t m : Int) : List I2 := if t = -1 then L else putH L t.toNat (hs L t.toNat + m)
def pumpL (L : List I2) (f t m : Int) : List I2 := if pumpC L f t m = 0 then giveT (takeF L f m) t m else L
theorem putH_len (L : List I2) (i : Nat) (h : Int) : (putH L i h).length = L.length := by simp [putH]
theorem takeF_len (L : List I2) (f m : Int) : (takeF L f m).length = L.length := by unfold takeF; split <;> simp [putH_len]
theorem giveT_len (L : List I2) (t m : Int) : (giveT L t m).length = L.length := by unfold giveT; split <;> simp [putH_len]
theorem pumpL_len (L : List I2) (f t m : Int) : (pumpL L f t m).length = L.length := by unfold pumpL; split <;> simp [giveT_len, takeF_len]
theorem recCells_get2 {L : List I2} {q : Nat} (hq : q < L.length * 2) : (recCells 2 e2 L)[q]? = some (e2 (L.getD (q / 2) default) (q % 2)) := by
  have h := recCells_get (enc := e2) (L := L) (n := 2) (i := q / 2) (j := q % 2) (by omega) (by omega)
  rwa [show q / 2 * 2 + q % 2 = q by omega] at h
theorem putH_cells (L : List I2) {i : Nat} (hi : i < L.length) (h : Int) : (recCells 2 e2 L).set (i * 2) (.int .i64 h) = recCells 2 e2 (putH L i h) := by
  apply List.ext_getElem?
  intro q
  by_cases hq : q < L.length * 2
  · have h1 : (recCells 2 e2 (putH L i h))[q]? = some (e2 ((putH L i h).getD (q / 2) default) (q % 2)) := recCells_get2 (by rw [putH_len]; exact hq)
    rw [h1]
    by_cases hqi : q = i * 2
    · subst hqi
      rw [List.getElem?_set_self (by rw [recCells_length]; omega)]
      rw [show i * 2 / 2 = i by omega, show i * 2 % 2 = 0 by omega]
      simp [putH, List.getD, hi, e2]
    · rw [List.getElem?_set_ne (by omega), recCells_get2 hq]
      by_cases hd : q / 2 = i
      · have hm : q % 2 = 1 := by omega
        rw [hd, hm]
        simp [putH, List.getD, hi, e2, ms]
      · have : (putH L i h).getD (q / 2) default = L.getD (q / 2) default := by simp [putH, List.getD, List.getElem?_set_ne (show i ≠ q / 2 from fun e => hd e.symm)]
        rw [this]
  · rw [List.getElem?_eq_none (by rw [List.length_set, recCells_length]; omega), List.getElem?_eq_none (by rw [recCells_length, putH_len]; omega)]

theorem fuB_false {L : List I2} {k : Nat} (hk : k < L.length) (h : ¬ fuGood L k) : fuB L = false := by
  simp only [fuB, decide_eq_false_iff_not]
  exact fun hS => h (hS.2 k hk)
theorem fuB_long {L : List I2} (h : ¬ L.length ≤ 8) : fuB L = false := by
  simp only [fuB, decide_eq_false_iff_not]
  exact fun hS => h hS.1
theorem fuB_all {L : List I2} (h : ∀ r, r < L.length → fuGood L r) : fuB L = decide ((L.length : Int) ≤ 8) := by
  rw [fuB, Bool.eq_iff_iff]
  simp only [decide_eq_true_eq]
  exact ⟨fun hS => by have := hS.1; omega, fun h1 => ⟨by omega, h⟩⟩
theorem fuB_iff {L : List I2} : fuB L = true ↔ Fu L := by simp [fuB]

set_option maxRecDepth 10000 in
set_option maxHeartbeats 8000000 in
theorem l10Fuels_any (v : Value) (L : List I2) (w : World) (h : R2 w v L) :
    Calls Tryd.prog 35 #[v] w fun e w' => e = .returned (.bool (fuB L)) ∧ Below w.heap.size w w' := by
  obtain ⟨ao, cap, rfl, hl, hm, hc⟩ := h
  unfold maxLen at hm
  have HC := hide hc
  clear hc
  go_enter Tryd.func35, Tryd.ntmps35
  go_wp2
  go_loopg [3] L.length (fun g i wr => Hid (Below w.heap.size w wr) ∧ ∃ k : Nat, k ≤ L.length ∧ g = L.length - k ∧ i = .int .i64 k ∧ Hid (∀ r, r < k → fuGood L r))
  case atStart => exact ⟨Below.refl _ _, 0, Nat.zero_le _, rfl, rfl, fun r hr => by omega⟩
  case round =>
    obtain ⟨HW, k, hk, rfl, rfl, HD⟩ := hrel
    by_cases hkn : k < L.length
    · obtain ⟨b, o, x, y, rfl, hx, hy, EX⟩ := rec2At (unhide HC) hkn
      have g0 := ((unhide HW).cell (lt_of_cell hx)).trans hx
      have g1 := ((unhide HW).cell (lt_of_cell hy)).trans hy
      have hki : (k : Int) < L.length := by omega
      have HNO : Hid (¬ fuGood L k → fuB L = false) := fun h => fuB_false hkn h
      have HYES : Hid (fuGood L k → ∀ r, r < k + 1 → fuGood L r) := fun h r hr => by
        by_cases e : r = k
        · rw [e]; exact h
        · exact (unhide HD) r (by omega)
      have EW : Hid (fuGood L k = (0 ≤ x ∧ x ≤ y ∧ y ≤ 1000000)) := by show _ = _; unfold fuGood hs ms; rw [unhide EX]
      have HQ1 := hide fun V => l1In_any x 0 y V
      clear hx hy EX
      cases h1 : inB x 0 y with
      | false =>
        rw [h1] at HQ1
        go_wp2
        go_quiet ((go_at_call 36; exact Calls.quiet_of_same (unhide HQ1 _)))
        go_wp2
        go_ret
        exact ⟨ret_bool (unhide HNO (by rw [unhide EW]; simp [inB] at *; omega)).symm, below_drewN (unhide HW) _⟩
      | true =>
        rw [h1] at HQ1
        by_cases h2 : 1000000 < y
        · have d2 : decide (1000000 < y) = true := decide_eq_true h2
          go_wp2
          go_quiet ((go_at_call 36; exact Calls.quiet_of_same (unhide HQ1 _)))
          go_wp2
          go_ret
          exact ⟨ret_bool (unhide HNO (by rw [unhide EW]; simp [inB] at *; omega)).symm, below_drewN (unhide HW) _⟩
        · have d2 : decide (1000000 < y) = false := decide_eq_false h2
          go_wp2
          go_quiet ((go_at_call 36; exact Calls.quiet_of_same (unhide HQ1 _)))
          go_wp2
          go_roundg (L.length - (k + 1))
          case measure => omega
          case rel => exact ⟨below_drewN (unhide HW) _, k + 1, by omega, rfl, by go_num, unhide HYES (by rw [unhide EW]; simp [inB] at *; omega)⟩
    · have HF : Hid (fuB L = decide ((L.length : Int) ≤ 8)) := fuB_all (fun r hr => (unhide HD) r (by omega))
      go_wp2
      go_ret
      exact ⟨ret_bool (unhide HF).symm, unhide HW⟩

set_option maxRecDepth 10000 in
set_option maxHeartbeats 8000000 in
theorem fuelsOk_any (v : Value) (L : List I2) (w : World) (h : R2 w v L) :
    Calls Tryd.prog 43 #[v] w fun e w' => e = .returned (.bool (fuB L)) ∧ Below w.heap.size w w' := by
  obtain ⟨ao, cap, rfl, hl, hm, hc⟩ := h
  unfold maxLen at hm
  have HC := hide hc
  clear hc
  by_cases hbig : 8 < (L.length : Int)
  · have HF : Hid (fuB L = false) := fuB_long (by omega)
    go_enter Tryd.func43, Tryd.ntmps43
    go_wp2
    go_ret
    exact ⟨ret_bool (unhide HF).symm, Below.refl _ _⟩
  go_enter Tryd.func43, Tryd.ntmps43
  go_wp2
  go_loopg [10] L.length (fun g i wr => Hid (Below w.heap.size w wr) ∧ ∃ k : Nat, k ≤ L.length ∧ g = L.length - k ∧ i = .int .i64 k ∧ Hid (∀ r, r < k → fuGood L r))
  case atStart => exact ⟨Below.refl _ _, 0, Nat.zero_le _, rfl, rfl, fun r hr => by omega⟩
  case round =>
    obtain ⟨HW, k, hk, rfl, rfl, HD⟩ := hrel
    by_cases hkn : k < L.length
    · obtain ⟨b, o, x, y, rfl, hx, hy, EX⟩ := rec2At (unhide HC) hkn
      have g0 := ((unhide HW).cell (lt_of_cell hx)).trans hx
      have g1 := ((unhide HW).cell (lt_of_cell hy)).trans hy
      have hki : (k : Int) < L.length := by omega
      have EW : Hid (fuGood L k = (0 ≤ x ∧ x ≤ y ∧ y ≤ 1000000)) := by show _ = _; unfold fuGood hs ms; rw [unhide EX]
      have HNO : Hid (¬ fuGood L k → fuB L = false) := fun h => fuB_false hkn h
      have HYES : Hid (fuGood L k → ∀ r, r < k + 1 → fuGood L r) := fun h r hr => by
        by_cases e : r = k
        · rw [e]; exact h
        · exact (unhide HD) r (by omega)
      have HW1 := hide (Below.step (unhide HW) (Below.alloc1 wr (.cells #[.int .i64 x, .int .i64 y] 32)))
      have HQ1 := hide fun V => within_any x 0 y V
      clear hx hy EX
      cases h1 : inB x 0 y with
      | false =>
        rw [h1] at HQ1
        go_wp2_with fail
        refine (unhide HQ1 _).mono ?_
        rintro e w' ⟨rfl, h9⟩
        have h8 := h9.symm
        subst h8
        clear h9
        go_wp2
        go_ret
        exact ⟨ret_bool (unhide HNO (by rw [unhide EW]; simp [inB] at *; omega)).symm, unhide HW1⟩
      | true =>
        rw [h1] at HQ1
        by_cases h2 : 1000000 < y
        · go_wp2_with fail
          refine (unhide HQ1 _).mono ?_
          rintro e w' ⟨rfl, h9⟩
          have h8 := h9.symm
          subst h8
          clear h9
          go_wp2
          go_ret
          exact ⟨ret_bool (unhide HNO (by rw [unhide EW]; simp [inB] at *; omega)).symm, unhide HW1⟩
        · go_wp2_with fail
          refine (unhide HQ1 _).mono ?_
          rintro e w' ⟨rfl, h9⟩
          have h8 := h9.symm
          subst h8
          clear h9
          go_wp2
          go_roundg (L.length - (k + 1))
          case measure => omega
          case rel => exact ⟨unhide HW1, k + 1, by omega, rfl, by go_num, unhide HYES (by rw [unhide EW]; simp [inB] at *; omega)⟩
    · have HF : Hid (fuB L = true) := by
        show _ = _
        rw [fuB_all (fun r hr => (unhide HD) r (by omega))]
        simp; omega
      go_wp2
      go_ret
      exact ⟨ret_bool (unhide HF).symm, unhide HW⟩

set_option maxRecDepth 10000 in
set_option maxHeartbeats 4000000 in
theorem pumpOk_any (n f t m : Int) (w : World) (hn0 : 0 ≤ n) (hn1 : n ≤ 1048576) :
    Calls Tryd.prog 44 #[v3 (f, t, m), .int .i64 n] w fun e w' => e = .returned (.bool (pgB n f t m)) ∧ Below w.heap.size w w' := by
  have HW := hide (Below.alloc1 w (.cells #[.int .i64 f, .int .i64 t, .int .i64 m] 37))
  have HP : Hid (pgB n f t m = (inB f (-1) (n - 1) && inB t (-1) (n - 1) && (f != t) && inB m 1 1000000)) := rfl
  have Q1 := hide fun V => within_any f (-1) (n - 1) V
  have Q2 := hide fun V => within_any t (-1) (n - 1) V
  have Q3 := hide fun V => within_any m 1 1000000 V
  unfold v3
  cases h1 : inB f (-1) (n - 1) with
  | false =>
    rw [h1] at HP Q1
    go_enter Tryd.func44, Tryd.ntmps44
    go_wp2_with fail
    refine (unhide Q1 _).mono ?_
    rintro e w' ⟨rfl, h9⟩
    have h8 := h9.symm
    subst h8
    clear h9
    go_wp2
    go_ret
    exact ⟨ret_bool (unhide HP).symm, unhide HW⟩
  | true =>
    rw [h1] at HP Q1
    cases h2 : inB t (-1) (n - 1) with
    | false =>
      rw [h2] at HP Q2
      go_enter Tryd.func44, Tryd.ntmps44
      go_wp2_with fail
      refine (unhide Q1 _).mono ?_
      rintro e w' ⟨rfl, h9⟩
      have h8 := h9.symm
      subst h8
      clear h9
      go_wp2_with fail
      refine (unhide Q2 _).mono ?_
      rintro e w' ⟨rfl, h9⟩
      have h8 := h9.symm
      subst h8
      clear h9
      go_wp2
      go_ret
      exact ⟨ret_bool (unhide HP).symm, unhide HW⟩
    | true =>
      rw [h2] at HP Q2
      go_enter Tryd.func44, Tryd.ntmps44
      go_wp2_with fail
      refine (unhide Q1 _).mono ?_
      rintro e w' ⟨rfl, h9⟩
      have h8 := h9.symm
      subst h8
      clear h9
      go_wp2_with fail
      refine (unhide Q2 _).mono ?_
      rintro e w' ⟨rfl, h9⟩
      have h8 := h9.symm
      subst h8
      clear h9
      cases h3 : f != t with
      | false =>
        rw [h3] at HP
        go_wp2
        go_ret
        exact ⟨ret_bool (unhide HP).symm, unhide HW⟩
      | true =>
        rw [h3] at HP
        go_wp2_with fail
        refine (unhide Q3 _).mono ?_
        rintro e w' ⟨rfl, h9⟩
        have h8 := h9.symm
        subst h8
        clear h9
        go_wp2
        go_ret
        exact ⟨ret_bool (unhide HP).symm, unhide HW⟩

end Go.Proofs.YtblkbonedgofiaaDoor

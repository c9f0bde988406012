/- Customs: contracts of both Duty6, and of the program's isWealth, isLotId, lotOk, traderOk. Written by wip/mkcsa.py. -/
import Derived.Test.YtojlkdmlelgcbaaCsM
import Derived.Test.YtojlkdmlelgcbaaHsB
namespace Go.Proofs.Ytojlkdmlelgcbaa
open Go.RowKit

theorem ret_ib {V : Int × Bool} {x : Int} {b : Bool} (h : V = (x, b)) : (Ending.returned (.tuple #[.int .i64 x, .bool b])) = .returned (.tuple #[.int .i64 V.1, .bool V.2]) := by rw [h]
theorem ret_d {m v r x : Int} {b : Bool} (h1 : dutV m v r = x) (h2 : dutB m v r = b) : (Ending.returned (.tuple #[.int .i64 x, .bool b])) = .returned (.tuple #[.int .i64 (dutV m v r), .bool (dutB m v r)]) := by rw [h1, h2]

set_option maxHeartbeats 1600000 in
theorem implDuty6_any (m v r : Int) (w : World) :
    Calls Try.prog 15 #[.int .i64 m, .int .i64 v, .int .i64 r] w fun e w' => e = .returned (.tuple #[.int .i64 (dutV m v r), .bool (dutB m v r)]) ∧ w' = w := by
  cases h0 : inB m 1 1000000
  · have hN : dutB m v r = false := by simp [dutB, h0]
    have HD := hide (dut_not hN)
    have HB := hide hN
    clear hN
    go_enter Try.func15, Try.ntmps15
    go_wp2_with (go_at_call 49; refine (within_any _ _ _ _).mono ?_; rintro e w9 ⟨rfl, h9⟩; have h8 := h9.symm; subst h8; clear h9)
    refine bodyPost_ret (v := .tuple #[.int .i64 0, .bool false]) (by simp [results, Try.results15, go_sem]) rfl ⟨ret_d (unhide HD) (unhide HB), rfl⟩
  cases h1 : inB v 0 1000000
  · have hN : dutB m v r = false := by simp [dutB, h0, h1]
    have HD := hide (dut_not hN)
    have HB := hide hN
    clear hN
    go_enter Try.func15, Try.ntmps15
    go_wp2_with (go_at_call 49; refine (within_any _ _ _ _).mono ?_; rintro e w9 ⟨rfl, h9⟩; have h8 := h9.symm; subst h8; clear h9)
    refine bodyPost_ret (v := .tuple #[.int .i64 0, .bool false]) (by simp [results, Try.results15, go_sem]) rfl ⟨ret_d (unhide HD) (unhide HB), rfl⟩
  cases h2 : inB r 0 5000
  · have hN : dutB m v r = false := by simp [dutB, h0, h1, h2]
    have HD := hide (dut_not hN)
    have HB := hide hN
    clear hN
    go_enter Try.func15, Try.ntmps15
    go_wp2_with (go_at_call 49; refine (within_any _ _ _ _).mono ?_; rintro e w9 ⟨rfl, h9⟩; have h8 := h9.symm; subst h8; clear h9)
    refine bodyPost_ret (v := .tuple #[.int .i64 0, .bool false]) (by simp [results, Try.results15, go_sem]) rfl ⟨ret_d (unhide HD) (unhide HB), rfl⟩
  have hY : dutB m v r = true := by simp [dutB, h0, h1, h2]
  obtain ⟨hp, hq⟩ := dut_prod hY
  have HD := hide (dut_yes hY)
  have HB := hide hY
  obtain ⟨p, ep⟩ : ∃ x, x = m * v := ⟨_, rfl⟩
  rw [← ep] at HD hp hq
  obtain ⟨q, eq⟩ : ∃ x, x = p * r := ⟨_, rfl⟩
  rw [← eq] at HD hq
  have E1 : IntKind.i64.wrap (m * v) = p := by rw [← ep, IntKind.wrap_i64]; omega
  have E2 : IntKind.i64.wrap (p * r) = q := by rw [← eq, IntKind.wrap_i64]; omega
  have q1 := Int.tdiv_eq_ediv_of_nonneg (a := q) (b := 1000) hq.1
  have q2 : 0 ≤ q / 1000 ∧ q / 1000 ≤ 5000000000000 := by omega
  clear ep eq hY
  go_enter Try.func15, Try.ntmps15
  go_wp2_with (go_at_call 49; refine (within_any _ _ _ _).mono ?_; rintro e w9 ⟨rfl, h9⟩; have h8 := h9.symm; subst h8; clear h9)
  refine bodyPost_ret (v := .tuple #[.int .i64 (q / 1000), .bool true]) (by simp [results, Try.results15, go_sem]) rfl ⟨ret_d (unhide HD) (unhide HB), rfl⟩

set_option maxHeartbeats 1600000 in
theorem specDuty6_any (m v r : Int) (w : World) :
    Calls Try.prog 18 #[.int .i64 m, .int .i64 v, .int .i64 r] w fun e w' => e = .returned (.tuple #[.int .i64 (dutV m v r), .bool (dutB m v r)]) ∧ w' = w := by
  cases h0 : inB m 1 1000000
  · have hN : dutB m v r = false := by simp [dutB, h0]
    have HD := hide (dut_not hN)
    have HB := hide hN
    clear hN
    go_enter Try.func18, Try.ntmps18
    go_wp2_with (go_at_call 51; refine (l1In_any _ _ _ _).mono ?_; rintro e w9 ⟨rfl, h9⟩; have h8 := h9.symm; subst h8; clear h9)
    refine bodyPost_ret (v := .tuple #[.int .i64 0, .bool false]) (by simp [results, Try.results18, go_sem]) rfl ⟨ret_d (unhide HD) (unhide HB), rfl⟩
  cases h1 : inB v 0 1000000
  · have hN : dutB m v r = false := by simp [dutB, h0, h1]
    have HD := hide (dut_not hN)
    have HB := hide hN
    clear hN
    go_enter Try.func18, Try.ntmps18
    go_wp2_with (go_at_call 51; refine (l1In_any _ _ _ _).mono ?_; rintro e w9 ⟨rfl, h9⟩; have h8 := h9.symm; subst h8; clear h9)
    refine bodyPost_ret (v := .tuple #[.int .i64 0, .bool false]) (by simp [results, Try.results18, go_sem]) rfl ⟨ret_d (unhide HD) (unhide HB), rfl⟩
  cases h2 : inB r 0 5000
  · have hN : dutB m v r = false := by simp [dutB, h0, h1, h2]
    have HD := hide (dut_not hN)
    have HB := hide hN
    clear hN
    go_enter Try.func18, Try.ntmps18
    go_wp2_with (go_at_call 51; refine (l1In_any _ _ _ _).mono ?_; rintro e w9 ⟨rfl, h9⟩; have h8 := h9.symm; subst h8; clear h9)
    refine bodyPost_ret (v := .tuple #[.int .i64 0, .bool false]) (by simp [results, Try.results18, go_sem]) rfl ⟨ret_d (unhide HD) (unhide HB), rfl⟩
  have hY : dutB m v r = true := by simp [dutB, h0, h1, h2]
  obtain ⟨hp, hq⟩ := dut_prod hY
  have HD := hide (dut_yes hY)
  have HB := hide hY
  obtain ⟨p, ep⟩ : ∃ x, x = m * v := ⟨_, rfl⟩
  rw [← ep] at HD hp hq
  obtain ⟨q, eq⟩ : ∃ x, x = p * r := ⟨_, rfl⟩
  rw [← eq] at HD hq
  have E1 : IntKind.i64.wrap (m * v) = p := by rw [← ep, IntKind.wrap_i64]; omega
  have E2 : IntKind.i64.wrap (p * r) = q := by rw [← eq, IntKind.wrap_i64]; omega
  have q1 := Int.tdiv_eq_ediv_of_nonneg (a := q) (b := 1000) hq.1
  have q2 : 0 ≤ q / 1000 ∧ q / 1000 ≤ 5000000000000 := by omega
  clear ep eq hY
  go_enter Try.func18, Try.ntmps18
  go_wp2_with (go_at_call 51; refine (l1In_any _ _ _ _).mono ?_; rintro e w9 ⟨rfl, h9⟩; have h8 := h9.symm; subst h8; clear h9)
  refine bodyPost_ret (v := .tuple #[.int .i64 (q / 1000), .bool true]) (by simp [results, Try.results18, go_sem]) rfl ⟨ret_d (unhide HD) (unhide HB), rfl⟩

theorem isWealth_any (x : Int) (w : World) : Calls Try.prog 46 #[.int .i64 x] w fun e w' => e = .returned (.bool (inB x 0 1000000000000000)) ∧ w' = w := by
  go_enter Try.func46, Try.ntmps46
  go_wp2_with (go_at_call 49; refine (within_any _ _ _ _).mono ?_; rintro e w' ⟨rfl, rfl⟩)
  go_ret
  exact ⟨rfl, rfl⟩
theorem isLotId_any (x : Int) (w : World) : Calls Try.prog 80 #[.int .i64 x] w fun e w' => e = .returned (.bool (inB x 1 1000000)) ∧ w' = w := by
  go_enter Try.func80, Try.ntmps80
  go_wp2_with (go_at_call 49; refine (within_any _ _ _ _).mono ?_; rintro e w' ⟨rfl, rfl⟩)
  go_ret
  exact ⟨rfl, rfl⟩
def trB (t : TraderT) : Bool := inB t.1 0 1000000000000000 && inB t.2.1 0 1000000000000000 && inB t.2.2 0 t.2.1
theorem trB_iff (t : TraderT) : trB t = true ↔ TOk t := by
  simp only [trB, Bool.and_eq_true, TOk]
  constructor
  · rintro ⟨⟨a, b⟩, c⟩; exact ⟨inB_true a, inB_true b, inB_true c⟩
  · rintro ⟨a, b, c⟩; exact ⟨⟨inB_mk a.1 a.2, inB_mk b.1 b.2⟩, inB_mk c.1 c.2⟩
set_option maxHeartbeats 1600000 in
theorem traderOk_any (m b d : Int) (w : World) : Calls Try.prog 48 #[vTrader m b d] w fun e w' => e = .returned (.bool (trB (m, b, d))) ∧ Below w.heap.size w w' := by
  have HW := hide (Below.alloc1 w (.cells #[.int .i64 m, .int .i64 b, .int .i64 d] 37))
  unfold vTrader
  cases h0 : inB m 0 1000000000000000
  · have HB : Hid (trB (m, b, d) = false) := by show _ = _; simp [trB, h0]
    go_enter Try.func48, Try.ntmps48
    go_wp2_with (first | (go_at_call 46; refine (isWealth_any _ _).mono ?_; rintro e w9 ⟨rfl, h9⟩; have h8 := h9.symm; subst h8; clear h9) | (go_at_call 49; refine (within_any _ _ _ _).mono ?_; rintro e w9 ⟨rfl, h9⟩; have h8 := h9.symm; subst h8; clear h9))
    go_ret
    exact ⟨by rw [unhide HB]; rfl, unhide HW⟩
  cases h1 : inB b 0 1000000000000000
  · have HB : Hid (trB (m, b, d) = false) := by show _ = _; simp [trB, h0, h1]
    go_enter Try.func48, Try.ntmps48
    go_wp2_with (first | (go_at_call 46; refine (isWealth_any _ _).mono ?_; rintro e w9 ⟨rfl, h9⟩; have h8 := h9.symm; subst h8; clear h9) | (go_at_call 49; refine (within_any _ _ _ _).mono ?_; rintro e w9 ⟨rfl, h9⟩; have h8 := h9.symm; subst h8; clear h9))
    go_ret
    exact ⟨by rw [unhide HB]; rfl, unhide HW⟩
  cases h2 : inB d 0 b
  · have HB : Hid (trB (m, b, d) = false) := by show _ = _; simp [trB, h0, h1, h2]
    go_enter Try.func48, Try.ntmps48
    go_wp2_with (first | (go_at_call 46; refine (isWealth_any _ _).mono ?_; rintro e w9 ⟨rfl, h9⟩; have h8 := h9.symm; subst h8; clear h9) | (go_at_call 49; refine (within_any _ _ _ _).mono ?_; rintro e w9 ⟨rfl, h9⟩; have h8 := h9.symm; subst h8; clear h9))
    go_ret
    exact ⟨by rw [unhide HB]; rfl, unhide HW⟩
  have HB : Hid (trB (m, b, d) = true) := by show _ = _; simp [trB, h0, h1, h2]
  go_enter Try.func48, Try.ntmps48
  go_wp2_with (first | (go_at_call 46; refine (isWealth_any _ _).mono ?_; rintro e w9 ⟨rfl, h9⟩; have h8 := h9.symm; subst h8; clear h9) | (go_at_call 49; refine (within_any _ _ _ _).mono ?_; rintro e w9 ⟨rfl, h9⟩; have h8 := h9.symm; subst h8; clear h9))
  go_ret
  exact ⟨by rw [unhide HB]; rfl, unhide HW⟩
def lotB (n : Nat) (x : LotT) : Bool := dutB x.2.2.1 x.2.2.2.1 x.2.2.2.2.1 && inB x.1 1 1000000 && inB x.2.1 0 ((n : Int) - 1) && inB x.2.2.2.2.2.1 1 5 && decide (x.2.2.2.2.2.2 = if x.2.2.2.2.2.1 = 3 then dutV x.2.2.1 x.2.2.2.1 x.2.2.2.2.1 else 0)
theorem lotB_iff (n : Nat) (x : LotT) : lotB n x = true ↔ LOk n x := by
  simp only [lotB, Bool.and_eq_true, LOk, decide_eq_true_eq]
  constructor
  · rintro ⟨⟨⟨⟨a, b⟩, c⟩, d⟩, e⟩; exact ⟨a, inB_true b, inB_true c, inB_true d, e⟩
  · rintro ⟨a, b, c, d, e⟩; exact ⟨⟨⟨⟨a, inB_mk b.1 b.2⟩, inB_mk c.1 c.2⟩, inB_mk d.1 d.2⟩, e⟩
set_option maxHeartbeats 3200000 in
theorem lotOk_any (id ow ma va ra st bo : Int) (n : Nat) (w : World) (hn : n ≤ 4611686018427387904) : Calls Try.prog 47 #[vLot id ow ma va ra st bo, .int .i64 (n : Int)] w fun e w' => e = .returned (.bool (lotB n (id, ow, ma, va, ra, st, bo))) ∧ Below w.heap.size w w' := by
  have HW := hide (Below.alloc1 w (.cells #[.int .i64 id, .int .i64 ow, .int .i64 ma, .int .i64 va, .int .i64 ra, .int .i64 st, .int .i64 bo] 39))
  have HDU := hide fun V => implDuty6_any ma va ra V
  have EL : Hid (lotB n (id, ow, ma, va, ra, st, bo) = (dutB ma va ra && inB id 1 1000000 && inB ow 0 ((n : Int) - 1) && inB st 1 5 && decide (bo = if st = 3 then dutV ma va ra else 0))) := rfl
  obtain ⟨du, edu⟩ : ∃ x, x = dutV ma va ra := ⟨_, rfl⟩
  rw [← edu] at HDU EL
  clear edu
  unfold vLot
  cases h0 : dutB ma va ra
  · have HB : Hid (lotB n (id, ow, ma, va, ra, st, bo) = false) := by show _ = _; rw [unhide EL]; simp [h0]
    rw [h0] at HDU
    clear EL
    go_enter Try.func47, Try.ntmps47
    go_wp2_with (first | (go_at_call 15; refine (unhide HDU _).mono ?_; rintro e w9 ⟨rfl, h9⟩; have h8 := h9.symm; subst h8; clear h9) | (go_at_call 80; refine (isLotId_any _ _).mono ?_; rintro e w9 ⟨rfl, h9⟩; have h8 := h9.symm; subst h8; clear h9) | (go_at_call 49; refine (within_any _ _ _ _).mono ?_; rintro e w9 ⟨rfl, h9⟩; have h8 := h9.symm; subst h8; clear h9))
    go_ret
    exact ⟨by rw [unhide HB]; rfl, unhide HW⟩
  rw [h0] at HDU
  cases h1 : inB id 1 1000000
  · have HB : Hid (lotB n (id, ow, ma, va, ra, st, bo) = false) := by show _ = _; rw [unhide EL]; simp [h0, h1]
    clear EL
    go_enter Try.func47, Try.ntmps47
    go_wp2_with (first | (go_at_call 15; refine (unhide HDU _).mono ?_; rintro e w9 ⟨rfl, h9⟩; have h8 := h9.symm; subst h8; clear h9) | (go_at_call 80; refine (isLotId_any _ _).mono ?_; rintro e w9 ⟨rfl, h9⟩; have h8 := h9.symm; subst h8; clear h9) | (go_at_call 49; refine (within_any _ _ _ _).mono ?_; rintro e w9 ⟨rfl, h9⟩; have h8 := h9.symm; subst h8; clear h9))
    go_ret
    exact ⟨by rw [unhide HB]; rfl, unhide HW⟩
  cases h2 : inB ow 0 ((n : Int) - 1)
  · have HB : Hid (lotB n (id, ow, ma, va, ra, st, bo) = false) := by show _ = _; rw [unhide EL]; simp [h0, h1, h2]
    clear EL
    go_enter Try.func47, Try.ntmps47
    go_wp2_with (first | (go_at_call 15; refine (unhide HDU _).mono ?_; rintro e w9 ⟨rfl, h9⟩; have h8 := h9.symm; subst h8; clear h9) | (go_at_call 80; refine (isLotId_any _ _).mono ?_; rintro e w9 ⟨rfl, h9⟩; have h8 := h9.symm; subst h8; clear h9) | (go_at_call 49; refine (within_any _ _ _ _).mono ?_; rintro e w9 ⟨rfl, h9⟩; have h8 := h9.symm; subst h8; clear h9))
    go_ret
    exact ⟨by rw [unhide HB]; rfl, unhide HW⟩
  cases h3 : inB st 1 5
  · have HB : Hid (lotB n (id, ow, ma, va, ra, st, bo) = false) := by show _ = _; rw [unhide EL]; simp [h0, h1, h2, h3]
    clear EL
    go_enter Try.func47, Try.ntmps47
    go_wp2_with (first | (go_at_call 15; refine (unhide HDU _).mono ?_; rintro e w9 ⟨rfl, h9⟩; have h8 := h9.symm; subst h8; clear h9) | (go_at_call 80; refine (isLotId_any _ _).mono ?_; rintro e w9 ⟨rfl, h9⟩; have h8 := h9.symm; subst h8; clear h9) | (go_at_call 49; refine (within_any _ _ _ _).mono ?_; rintro e w9 ⟨rfl, h9⟩; have h8 := h9.symm; subst h8; clear h9))
    go_ret
    exact ⟨by rw [unhide HB]; rfl, unhide HW⟩
  by_cases hs : st = 3
  · have dst : (st != 3) = false := by simp [hs]
    by_cases hbo : bo = du
    · have HB : Hid (lotB n (id, ow, ma, va, ra, st, bo) = true) := by show _ = _; rw [unhide EL, h0, h1, h2, h3]; simp [hs, hbo]
      have db : (bo == du) = true := by simpa using hbo
      clear EL hs hbo
      go_enter Try.func47, Try.ntmps47
      go_wp2_with (first | (go_at_call 15; refine (unhide HDU _).mono ?_; rintro e w9 ⟨rfl, h9⟩; have h8 := h9.symm; subst h8; clear h9) | (go_at_call 80; refine (isLotId_any _ _).mono ?_; rintro e w9 ⟨rfl, h9⟩; have h8 := h9.symm; subst h8; clear h9) | (go_at_call 49; refine (within_any _ _ _ _).mono ?_; rintro e w9 ⟨rfl, h9⟩; have h8 := h9.symm; subst h8; clear h9))
      go_ret
      exact ⟨by rw [unhide HB]; rfl, unhide HW⟩
    · have HB : Hid (lotB n (id, ow, ma, va, ra, st, bo) = false) := by show _ = _; rw [unhide EL]; simp [hs, hbo]
      have db : (bo == du) = false := by simpa using hbo
      clear EL hs hbo
      go_enter Try.func47, Try.ntmps47
      go_wp2_with (first | (go_at_call 15; refine (unhide HDU _).mono ?_; rintro e w9 ⟨rfl, h9⟩; have h8 := h9.symm; subst h8; clear h9) | (go_at_call 80; refine (isLotId_any _ _).mono ?_; rintro e w9 ⟨rfl, h9⟩; have h8 := h9.symm; subst h8; clear h9) | (go_at_call 49; refine (within_any _ _ _ _).mono ?_; rintro e w9 ⟨rfl, h9⟩; have h8 := h9.symm; subst h8; clear h9))
      go_ret
      exact ⟨by rw [unhide HB]; rfl, unhide HW⟩
  · have dst : (st != 3) = true := by simp [hs]
    by_cases hbo : bo = 0
    · have HB : Hid (lotB n (id, ow, ma, va, ra, st, bo) = true) := by show _ = _; rw [unhide EL, h0, h1, h2, h3]; simp [hs, hbo]
      have db : (bo == 0) = true := by simpa using hbo
      clear EL hs hbo
      go_enter Try.func47, Try.ntmps47
      go_wp2_with (first | (go_at_call 15; refine (unhide HDU _).mono ?_; rintro e w9 ⟨rfl, h9⟩; have h8 := h9.symm; subst h8; clear h9) | (go_at_call 80; refine (isLotId_any _ _).mono ?_; rintro e w9 ⟨rfl, h9⟩; have h8 := h9.symm; subst h8; clear h9) | (go_at_call 49; refine (within_any _ _ _ _).mono ?_; rintro e w9 ⟨rfl, h9⟩; have h8 := h9.symm; subst h8; clear h9))
      go_ret
      exact ⟨by rw [unhide HB]; rfl, unhide HW⟩
    · have HB : Hid (lotB n (id, ow, ma, va, ra, st, bo) = false) := by show _ = _; rw [unhide EL]; simp [hs, hbo]
      have db : (bo == 0) = false := by simpa using hbo
      clear EL hs hbo
      go_enter Try.func47, Try.ntmps47
      go_wp2_with (first | (go_at_call 15; refine (unhide HDU _).mono ?_; rintro e w9 ⟨rfl, h9⟩; have h8 := h9.symm; subst h8; clear h9) | (go_at_call 80; refine (isLotId_any _ _).mono ?_; rintro e w9 ⟨rfl, h9⟩; have h8 := h9.symm; subst h8; clear h9) | (go_at_call 49; refine (within_any _ _ _ _).mono ?_; rintro e w9 ⟨rfl, h9⟩; have h8 := h9.symm; subst h8; clear h9))
      go_ret
      exact ⟨by rw [unhide HB]; rfl, unhide HW⟩

end Go.Proofs.Ytojlkdmlelgcbaa

/- Neighbours and ways: contracts of opposite, hasWay, beside and of the specification's l19Next. Written by wip/mkfrld.py. -/
import Derived.Test.YtnapggchejdcgaaFrlC
namespace Go.Proofs.Ytnapggchejdcgaa
open Go.RowKit

set_option maxHeartbeats 800000 in
theorem opposite_any (b : Nat) (hb : b < 4) (w : World) : Calls Try.prog 79 #[.int .i64 b] w fun e w' => e = .returned (.int .i64 (opS b : Nat)) ∧ w' = w := by
  have h : b = 0 ∨ b = 1 ∨ b = 2 ∨ b = 3 := by omega
  rcases h with rfl | rfl | rfl | rfl
  all_goals
    go_enter Try.func79, Try.ntmps79
    go_wp2
    go_ret
    exact ⟨rfl, rfl⟩

theorem bit_of {z : Int} (b : Nat) (hz0 : 0 ≤ z) (hz1 : z ≤ 15) (hb : b < 4) : bits .and .i64 (z / 2 ^ b) 1 = z / 2 ^ b % 2 := by
  have h : z = 0 ∨ z = 1 ∨ z = 2 ∨ z = 3 ∨ z = 4 ∨ z = 5 ∨ z = 6 ∨ z = 7 ∨ z = 8 ∨ z = 9 ∨ z = 10 ∨ z = 11 ∨ z = 12 ∨ z = 13 ∨ z = 14 ∨ z = 15 := by omega
  have h2 : b = 0 ∨ b = 1 ∨ b = 2 ∨ b = 3 := by omega
  rcases h with rfl | rfl | rfl | rfl | rfl | rfl | rfl | rfl | rfl | rfl | rfl | rfl | rfl | rfl | rfl | rfl <;> rcases h2 with rfl | rfl | rfl | rfl <;> decide

set_option maxRecDepth 10000 in
set_option maxHeartbeats 4000000 in
theorem beside_any (s : Flr) (hn : FlN s) (dao : Option Addr) (dc : Nat) (p : Int) (b : Nat) (w : World) (h0 : 0 ≤ p) (h1 : p < s.W.length) (hb : b < 4) :
    Calls Try.prog 78 #[vFloor s.wd s.hg (.slice dao s.W.length dc), .int .i64 p, .int .i64 b] w fun e w' => e = .returned (.int .i64 (nbV s.wd s.hg p b)) ∧ Below w.heap.size w w' := by
  have HB := hide (Below.alloc1 w (.cells #[.int .i64 s.wd, .int .i64 s.hg, .slice dao s.W.length dc] 26))
  obtain ⟨a1, a2, a3, a4, a5⟩ := dm_bd (hg := s.hg) hn.w0 h0 (by rw [← hn.len]; exact h1)
  obtain ⟨w0, w1, g0, g1, hlen, hle, -, -⟩ := hn
  obtain ⟨wd, hg, D⟩ := s
  dsimp only at *
  have t1 : Int.tmod p wd = p % wd := Int.tmod_eq_emod_of_nonneg h0
  have t3 : Int.tdiv p wd = p / wd := Int.tdiv_eq_ediv_of_nonneg h0
  have hwz : (wd == 0) = false := by simp; omega
  have hwn : wd ≠ 0 := by omega
  obtain ⟨x, ex⟩ : ∃ x, x = p % wd := ⟨_, rfl⟩
  obtain ⟨y, ey⟩ : ∃ y, y = p / wd := ⟨_, rfl⟩
  rw [← ex] at a1 a2 t1
  rw [← ey] at a3 a4 t3
  have u1 : IntKind.i64.wrap x = x := by rw [IntKind.wrap_i64]; omega
  have u3 : IntKind.i64.wrap y = y := by rw [IntKind.wrap_i64]; omega
  have z1 : IntKind.i64.wrap (wd - 1) = wd - 1 := by rw [IntKind.wrap_i64]; omega
  have z2 : IntKind.i64.wrap (hg - 1) = hg - 1 := by rw [IntKind.wrap_i64]; omega
  have z3 : IntKind.i64.wrap (x + 1) = x + 1 := by rw [IntKind.wrap_i64]; omega
  have z4 : IntKind.i64.wrap (x - 1) = x - 1 := by rw [IntKind.wrap_i64]; omega
  have z5 : IntKind.i64.wrap (y + 1) = y + 1 := by rw [IntKind.wrap_i64]; omega
  have z6 : IntKind.i64.wrap (y - 1) = y - 1 := by rw [IntKind.wrap_i64]; omega
  clear a5 hlen hle
  unfold vFloor
  have h : b = 0 ∨ b = 1 ∨ b = 2 ∨ b = 3 := by omega
  clear hb
  rcases h with rfl | rfl | rfl | rfl
  · have HV : Hid (nbV wd hg p 0 = bif inB (x + 1) 0 (wd - 1) && inB y 0 (hg - 1) then y * wd + (x + 1) else -1) := by show _ = _; rw [ex, ey]; rfl
    generalize nbV wd hg p 0 = V at HV ⊢
    clear ex ey
    cases c1 : inB (x + 1) 0 (wd - 1) with
    | false =>
      have e1 : V = -1 := by rw [unhide HV, c1]; rfl
      subst e1
      go_enter Try.func78, Try.ntmps78
      go_wp2
      go_quiet (fail)
      go_wp2_with (go_at_call 46; refine (within_any _ _ _ _).mono ?_; rintro e w' ⟨rfl, h9⟩; have h8 := h9.symm; subst h8; clear h9)
      go_ret
      exact ⟨rfl, below_drewN (unhide HB) nq⟩
    | true =>
      cases c2 : inB y 0 (hg - 1) with
      | false =>
        have e1 : V = -1 := by rw [unhide HV, c1, c2]; rfl
        subst e1
        go_enter Try.func78, Try.ntmps78
        go_wp2
        go_quiet (fail)
        go_wp2_with (go_at_call 46; refine (within_any _ _ _ _).mono ?_; rintro e w' ⟨rfl, h9⟩; have h8 := h9.symm; subst h8; clear h9)
        go_ret
        exact ⟨rfl, below_drewN (unhide HB) nq⟩
      | true =>
        obtain ⟨b1, b2⟩ := inB_true c1
        obtain ⟨b3, b4⟩ := inB_true c2
        obtain ⟨f1, f2⟩ := grid_lt (wd := wd) (hg := hg) b1 (show (x + 1) < wd by omega) b3 (show y < hg by omega)
        have f3 := Int.mul_nonneg b3 (show 0 ≤ wd by omega)
        obtain ⟨f4, f5⟩ := mul_f10 w0 w1 g0 g1
        obtain ⟨q, eq⟩ : ∃ q, q = y * wd := ⟨_, rfl⟩
        rw [← eq] at f1 f2 f3
        have q1 : IntKind.i64.wrap (y * wd) = q := by rw [← eq, IntKind.wrap_i64]; omega
        have q2 : IntKind.i64.wrap (q + (x + 1)) = q + (x + 1) := by rw [IntKind.wrap_i64]; omega
        have e1 : V = q + (x + 1) := by rw [unhide HV, c1, c2, eq]; rfl
        subst e1
        clear eq HV f1 f2 f3 f4 f5
        go_enter Try.func78, Try.ntmps78
        go_wp2
        go_quiet (fail)
        go_wp2_with (go_at_call 46; refine (within_any _ _ _ _).mono ?_; rintro e w' ⟨rfl, h9⟩; have h8 := h9.symm; subst h8; clear h9)
        go_ret
        exact ⟨rfl, below_drewN (unhide HB) nq⟩
  · have HV : Hid (nbV wd hg p 1 = bif inB x 0 (wd - 1) && inB (y + 1) 0 (hg - 1) then (y + 1) * wd + x else -1) := by show _ = _; rw [ex, ey]; rfl
    generalize nbV wd hg p 1 = V at HV ⊢
    clear ex ey
    cases c1 : inB x 0 (wd - 1) with
    | false =>
      have e1 : V = -1 := by rw [unhide HV, c1]; rfl
      subst e1
      go_enter Try.func78, Try.ntmps78
      go_wp2
      go_quiet (fail)
      go_wp2_with (go_at_call 46; refine (within_any _ _ _ _).mono ?_; rintro e w' ⟨rfl, h9⟩; have h8 := h9.symm; subst h8; clear h9)
      go_ret
      exact ⟨rfl, below_drewN (unhide HB) nq⟩
    | true =>
      cases c2 : inB (y + 1) 0 (hg - 1) with
      | false =>
        have e1 : V = -1 := by rw [unhide HV, c1, c2]; rfl
        subst e1
        go_enter Try.func78, Try.ntmps78
        go_wp2
        go_quiet (fail)
        go_wp2_with (go_at_call 46; refine (within_any _ _ _ _).mono ?_; rintro e w' ⟨rfl, h9⟩; have h8 := h9.symm; subst h8; clear h9)
        go_ret
        exact ⟨rfl, below_drewN (unhide HB) nq⟩
      | true =>
        obtain ⟨b1, b2⟩ := inB_true c1
        obtain ⟨b3, b4⟩ := inB_true c2
        obtain ⟨f1, f2⟩ := grid_lt (wd := wd) (hg := hg) b1 (show x < wd by omega) b3 (show (y + 1) < hg by omega)
        have f3 := Int.mul_nonneg b3 (show 0 ≤ wd by omega)
        obtain ⟨f4, f5⟩ := mul_f10 w0 w1 g0 g1
        obtain ⟨q, eq⟩ : ∃ q, q = (y + 1) * wd := ⟨_, rfl⟩
        rw [← eq] at f1 f2 f3
        have q1 : IntKind.i64.wrap ((y + 1) * wd) = q := by rw [← eq, IntKind.wrap_i64]; omega
        have q2 : IntKind.i64.wrap (q + x) = q + x := by rw [IntKind.wrap_i64]; omega
        have e1 : V = q + x := by rw [unhide HV, c1, c2, eq]; rfl
        subst e1
        clear eq HV f1 f2 f3 f4 f5
        go_enter Try.func78, Try.ntmps78
        go_wp2
        go_quiet (fail)
        go_wp2_with (go_at_call 46; refine (within_any _ _ _ _).mono ?_; rintro e w' ⟨rfl, h9⟩; have h8 := h9.symm; subst h8; clear h9)
        go_ret
        exact ⟨rfl, below_drewN (unhide HB) nq⟩
  · have HV : Hid (nbV wd hg p 2 = bif inB (x - 1) 0 (wd - 1) && inB y 0 (hg - 1) then y * wd + (x - 1) else -1) := by show _ = _; rw [ex, ey]; rfl
    generalize nbV wd hg p 2 = V at HV ⊢
    clear ex ey
    cases c1 : inB (x - 1) 0 (wd - 1) with
    | false =>
      have e1 : V = -1 := by rw [unhide HV, c1]; rfl
      subst e1
      go_enter Try.func78, Try.ntmps78
      go_wp2
      go_quiet (fail)
      go_wp2_with (go_at_call 46; refine (within_any _ _ _ _).mono ?_; rintro e w' ⟨rfl, h9⟩; have h8 := h9.symm; subst h8; clear h9)
      go_ret
      exact ⟨rfl, below_drewN (unhide HB) nq⟩
    | true =>
      cases c2 : inB y 0 (hg - 1) with
      | false =>
        have e1 : V = -1 := by rw [unhide HV, c1, c2]; rfl
        subst e1
        go_enter Try.func78, Try.ntmps78
        go_wp2
        go_quiet (fail)
        go_wp2_with (go_at_call 46; refine (within_any _ _ _ _).mono ?_; rintro e w' ⟨rfl, h9⟩; have h8 := h9.symm; subst h8; clear h9)
        go_ret
        exact ⟨rfl, below_drewN (unhide HB) nq⟩
      | true =>
        obtain ⟨b1, b2⟩ := inB_true c1
        obtain ⟨b3, b4⟩ := inB_true c2
        obtain ⟨f1, f2⟩ := grid_lt (wd := wd) (hg := hg) b1 (show (x - 1) < wd by omega) b3 (show y < hg by omega)
        have f3 := Int.mul_nonneg b3 (show 0 ≤ wd by omega)
        obtain ⟨f4, f5⟩ := mul_f10 w0 w1 g0 g1
        obtain ⟨q, eq⟩ : ∃ q, q = y * wd := ⟨_, rfl⟩
        rw [← eq] at f1 f2 f3
        have q1 : IntKind.i64.wrap (y * wd) = q := by rw [← eq, IntKind.wrap_i64]; omega
        have q2 : IntKind.i64.wrap (q + (x - 1)) = q + (x - 1) := by rw [IntKind.wrap_i64]; omega
        have e1 : V = q + (x - 1) := by rw [unhide HV, c1, c2, eq]; rfl
        subst e1
        clear eq HV f1 f2 f3 f4 f5
        go_enter Try.func78, Try.ntmps78
        go_wp2
        go_quiet (fail)
        go_wp2_with (go_at_call 46; refine (within_any _ _ _ _).mono ?_; rintro e w' ⟨rfl, h9⟩; have h8 := h9.symm; subst h8; clear h9)
        go_ret
        exact ⟨rfl, below_drewN (unhide HB) nq⟩
  · have HV : Hid (nbV wd hg p 3 = bif inB x 0 (wd - 1) && inB (y - 1) 0 (hg - 1) then (y - 1) * wd + x else -1) := by show _ = _; rw [ex, ey]; rfl
    generalize nbV wd hg p 3 = V at HV ⊢
    clear ex ey
    cases c1 : inB x 0 (wd - 1) with
    | false =>
      have e1 : V = -1 := by rw [unhide HV, c1]; rfl
      subst e1
      go_enter Try.func78, Try.ntmps78
      go_wp2
      go_quiet (fail)
      go_wp2_with (go_at_call 46; refine (within_any _ _ _ _).mono ?_; rintro e w' ⟨rfl, h9⟩; have h8 := h9.symm; subst h8; clear h9)
      go_ret
      exact ⟨rfl, below_drewN (unhide HB) nq⟩
    | true =>
      cases c2 : inB (y - 1) 0 (hg - 1) with
      | false =>
        have e1 : V = -1 := by rw [unhide HV, c1, c2]; rfl
        subst e1
        go_enter Try.func78, Try.ntmps78
        go_wp2
        go_quiet (fail)
        go_wp2_with (go_at_call 46; refine (within_any _ _ _ _).mono ?_; rintro e w' ⟨rfl, h9⟩; have h8 := h9.symm; subst h8; clear h9)
        go_ret
        exact ⟨rfl, below_drewN (unhide HB) nq⟩
      | true =>
        obtain ⟨b1, b2⟩ := inB_true c1
        obtain ⟨b3, b4⟩ := inB_true c2
        obtain ⟨f1, f2⟩ := grid_lt (wd := wd) (hg := hg) b1 (show x < wd by omega) b3 (show (y - 1) < hg by omega)
        have f3 := Int.mul_nonneg b3 (show 0 ≤ wd by omega)
        obtain ⟨f4, f5⟩ := mul_f10 w0 w1 g0 g1
        obtain ⟨q, eq⟩ : ∃ q, q = (y - 1) * wd := ⟨_, rfl⟩
        rw [← eq] at f1 f2 f3
        have q1 : IntKind.i64.wrap ((y - 1) * wd) = q := by rw [← eq, IntKind.wrap_i64]; omega
        have q2 : IntKind.i64.wrap (q + x) = q + x := by rw [IntKind.wrap_i64]; omega
        have e1 : V = q + x := by rw [unhide HV, c1, c2, eq]; rfl
        subst e1
        clear eq HV f1 f2 f3 f4 f5
        go_enter Try.func78, Try.ntmps78
        go_wp2
        go_quiet (fail)
        go_wp2_with (go_at_call 46; refine (within_any _ _ _ _).mono ?_; rintro e w' ⟨rfl, h9⟩; have h8 := h9.symm; subst h8; clear h9)
        go_ret
        exact ⟨rfl, below_drewN (unhide HB) nq⟩

set_option maxRecDepth 10000 in
set_option maxHeartbeats 4000000 in
theorem hasWay_any (s : Flr) (hn : FlN s) (dao : Option Addr) (dc : Nat) (p : Int) (b : Nat) (w : World) (hD : IntsIn w (.slice dao s.W.length dc) s.W) (h0 : 0 ≤ p) (h1 : p < s.W.length) (hb : b < 4) :
    Calls Try.prog 80 #[vFloor s.wd s.hg (.slice dao s.W.length dc), .int .i64 p, .int .i64 b] w fun e w' => e = .returned (.bool (bitB (s.W.getD p.toNat 0) b)) ∧ Below w.heap.size w w' := by
  have HB := hide (Below.alloc1 w (.cells #[.int .i64 s.wd, .int .i64 s.hg, .slice dao s.W.length dc] 26))
  obtain ⟨q, rfl⟩ : ∃ q : Nat, p = (q : Int) := ⟨p.toNat, by omega⟩
  rw [Int.toNat_natCast]
  have hq : q < s.W.length := by omega
  obtain ⟨dao', dc', eD, hdl, hdm, hdc⟩ := hD
  simp only [Value.slice.injEq] at eD
  obtain ⟨rfl, -, rfl⟩ := eD
  unfold maxLen at hdm
  obtain ⟨bb, o, rfl, hc⟩ := hdc q hq
  have c0 := wcell3 hc (unhide HB)
  obtain ⟨hz0, hz1⟩ := hn.way q hq
  clear hdc hc hn
  unfold bitB
  generalize s.W.getD q 0 = z at *
  have hbit := bit_of (z := z) b hz0 hz1 hb
  generalize z / 2 ^ b % 2 = r at hbit ⊢
  unfold vFloor
  have h : b = 0 ∨ b = 1 ∨ b = 2 ∨ b = 3 := by omega
  clear hb
  rcases h with rfl | rfl | rfl | rfl
  all_goals
    go_enter Try.func80, Try.ntmps80
    go_wp2
    go_ret
    exact ⟨ret_bool (by rw [Bool.eq_iff_iff]; simp at hbit ⊢; rw [hbit]), unhide HB⟩

set_option maxRecDepth 10000 in
set_option maxHeartbeats 4000000 in
theorem l19Next_any (s : Flr) (hn : FlN s) (dao : Option Addr) (dc : Nat) (p : Int) (b : Nat) (w : World) (hD : IntsIn w (.slice dao s.W.length dc) s.W) (h0 : 0 ≤ p) (h1 : p < s.W.length) (hb : b < 4) :
    Calls Try.prog 54 #[vFloor s.wd s.hg (.slice dao s.W.length dc), .int .i64 p, .int .i64 b] w fun e w' => e = .returned (.int .i64 (nxV s p b)) ∧ Below w.heap.size w w' := by
  obtain ⟨k, rfl⟩ : ∃ k : Nat, p = (k : Int) := ⟨p.toNat, by omega⟩
  have hk : k < s.W.length := by omega
  obtain ⟨dao', dc', eD, hdl, hdm, hdc⟩ := hD
  simp only [Value.slice.injEq] at eD
  obtain ⟨rfl, -, rfl⟩ := eD
  unfold maxLen at hdm
  obtain ⟨bb, o, rfl, hc⟩ := hdc k hk
  have HA := Below.alloc1 w (.cells #[.int .i64 s.wd, .int .i64 s.hg, .slice (some ⟨bb, o, none⟩) s.W.length dc] 26)
  have cw := wcell3 hc HA
  obtain ⟨hz0, hz1⟩ := hn.way k hk
  have HX : Hid (nxV s (k : Int) b = bif bitB (s.W.getD k 0) b then nbV s.wd s.hg (k : Int) b else -1) := by show _ = _; unfold nxV; rw [Int.toNat_natCast]
  clear hdc hc HA
  unfold bitB at HX
  generalize s.W.getD k 0 = z at *
  have hbit := bit_of (z := z) b hz0 hz1 hb
  have hr2 : 0 ≤ z / 2 ^ b % 2 ∧ z / 2 ^ b % 2 < 2 := ⟨Int.emod_nonneg _ (by omega), Int.emod_lt_of_pos _ (by omega)⟩
  generalize z / 2 ^ b % 2 = r0 at hbit HX hr2
  generalize nxV s (k : Int) b = VX at HX ⊢
  have HB := hide (Below.alloc1 w (.cells #[.int .i64 s.wd, .int .i64 s.hg, .slice (some ⟨bb, o, none⟩) s.W.length dc] 26))
  obtain ⟨a1, a2, a3, a4, a5⟩ := dm_bd (hg := s.hg) hn.w0 h0 (by rw [← hn.len]; exact h1)
  obtain ⟨w0, w1, g0, g1, hlen, hle, -, -⟩ := hn
  obtain ⟨wd, hg, D⟩ := s
  dsimp only at *
  have t1 : Int.tmod (k : Int) wd = (k : Int) % wd := Int.tmod_eq_emod_of_nonneg h0
  have t3 : Int.tdiv (k : Int) wd = (k : Int) / wd := Int.tdiv_eq_ediv_of_nonneg h0
  have hwz : (wd == 0) = false := by simp; omega
  have hwn : wd ≠ 0 := by omega
  obtain ⟨x, ex⟩ : ∃ x, x = (k : Int) % wd := ⟨_, rfl⟩
  obtain ⟨y, ey⟩ : ∃ y, y = (k : Int) / wd := ⟨_, rfl⟩
  rw [← ex] at a1 a2 t1
  rw [← ey] at a3 a4 t3
  have u1 : IntKind.i64.wrap x = x := by rw [IntKind.wrap_i64]; omega
  have u3 : IntKind.i64.wrap y = y := by rw [IntKind.wrap_i64]; omega
  have z1 : IntKind.i64.wrap (wd - 1) = wd - 1 := by rw [IntKind.wrap_i64]; omega
  have z2 : IntKind.i64.wrap (hg - 1) = hg - 1 := by rw [IntKind.wrap_i64]; omega
  have z3 : IntKind.i64.wrap (x + 1) = x + 1 := by rw [IntKind.wrap_i64]; omega
  have z4 : IntKind.i64.wrap (x - 1) = x - 1 := by rw [IntKind.wrap_i64]; omega
  have z5 : IntKind.i64.wrap (y + 1) = y + 1 := by rw [IntKind.wrap_i64]; omega
  have z6 : IntKind.i64.wrap (y - 1) = y - 1 := by rw [IntKind.wrap_i64]; omega
  clear a5 hlen hle
  unfold vFloor
  have h : b = 0 ∨ b = 1 ∨ b = 2 ∨ b = 3 := by omega
  clear hb
  rcases h with rfl | rfl | rfl | rfl
  · simp at hbit
    by_cases hr : r0 = 1
    case neg =>
      have e1 : VX = -1 := by rw [unhide HX, decide_eq_false hr]; rfl
      subst e1
      have hb0 : r0 = 0 := by omega
      subst hb0
      clear ex ey
      go_enter Try.func54, Try.ntmps54
      go_wp2
      go_ret
      exact ⟨rfl, unhide HB⟩
    subst hr
    have e9 : VX = nbV wd hg (k : Int) 0 := by rw [unhide HX]; rfl
    subst e9
    clear HX
    have HV : Hid (nbV wd hg (k : Int) 0 = bif inB (x + 1) 0 (wd - 1) && inB y 0 (hg - 1) then y * wd + (x + 1) else -1) := by show _ = _; rw [ex, ey]; rfl
    generalize nbV wd hg (k : Int) 0 = V at HV ⊢
    clear ex ey
    cases c1 : inB (x + 1) 0 (wd - 1) with
    | false =>
      have e1 : V = -1 := by rw [unhide HV, c1]; rfl
      subst e1
      go_enter Try.func54, Try.ntmps54
      go_wp2
      go_quiet (fail)
      go_wp2_with (go_at_call 53; refine (l1In_any _ _ _ _).mono ?_; rintro e w' ⟨rfl, h9⟩; have h8 := h9.symm; subst h8; clear h9)
      go_ret
      exact ⟨rfl, below_drewN (unhide HB) nq⟩
    | true =>
      cases c2 : inB y 0 (hg - 1) with
      | false =>
        have e1 : V = -1 := by rw [unhide HV, c1, c2]; rfl
        subst e1
        go_enter Try.func54, Try.ntmps54
        go_wp2
        go_quiet (fail)
        go_wp2_with (go_at_call 53; refine (l1In_any _ _ _ _).mono ?_; rintro e w' ⟨rfl, h9⟩; have h8 := h9.symm; subst h8; clear h9)
        go_ret
        exact ⟨rfl, below_drewN (unhide HB) nq⟩
      | true =>
        obtain ⟨b1, b2⟩ := inB_true c1
        obtain ⟨b3, b4⟩ := inB_true c2
        obtain ⟨f1, f2⟩ := grid_lt (wd := wd) (hg := hg) b1 (show (x + 1) < wd by omega) b3 (show y < hg by omega)
        have f3 := Int.mul_nonneg b3 (show 0 ≤ wd by omega)
        obtain ⟨f4, f5⟩ := mul_f10 w0 w1 g0 g1
        obtain ⟨q, eq⟩ : ∃ q, q = y * wd := ⟨_, rfl⟩
        rw [← eq] at f1 f2 f3
        have q1 : IntKind.i64.wrap (y * wd) = q := by rw [← eq, IntKind.wrap_i64]; omega
        have q2 : IntKind.i64.wrap (q + (x + 1)) = q + (x + 1) := by rw [IntKind.wrap_i64]; omega
        have e1 : V = q + (x + 1) := by rw [unhide HV, c1, c2, eq]; rfl
        subst e1
        clear eq HV f1 f2 f3 f4 f5
        go_enter Try.func54, Try.ntmps54
        go_wp2
        go_quiet (fail)
        go_wp2_with (go_at_call 53; refine (l1In_any _ _ _ _).mono ?_; rintro e w' ⟨rfl, h9⟩; have h8 := h9.symm; subst h8; clear h9)
        go_ret
        exact ⟨rfl, below_drewN (unhide HB) nq⟩
  · simp at hbit
    by_cases hr : r0 = 1
    case neg =>
      have e1 : VX = -1 := by rw [unhide HX, decide_eq_false hr]; rfl
      subst e1
      have hb0 : r0 = 0 := by omega
      subst hb0
      clear ex ey
      go_enter Try.func54, Try.ntmps54
      go_wp2
      go_ret
      exact ⟨rfl, unhide HB⟩
    subst hr
    have e9 : VX = nbV wd hg (k : Int) 1 := by rw [unhide HX]; rfl
    subst e9
    clear HX
    have HV : Hid (nbV wd hg (k : Int) 1 = bif inB x 0 (wd - 1) && inB (y + 1) 0 (hg - 1) then (y + 1) * wd + x else -1) := by show _ = _; rw [ex, ey]; rfl
    generalize nbV wd hg (k : Int) 1 = V at HV ⊢
    clear ex ey
    cases c1 : inB x 0 (wd - 1) with
    | false =>
      have e1 : V = -1 := by rw [unhide HV, c1]; rfl
      subst e1
      go_enter Try.func54, Try.ntmps54
      go_wp2
      go_quiet (fail)
      go_wp2_with (go_at_call 53; refine (l1In_any _ _ _ _).mono ?_; rintro e w' ⟨rfl, h9⟩; have h8 := h9.symm; subst h8; clear h9)
      go_ret
      exact ⟨rfl, below_drewN (unhide HB) nq⟩
    | true =>
      cases c2 : inB (y + 1) 0 (hg - 1) with
      | false =>
        have e1 : V = -1 := by rw [unhide HV, c1, c2]; rfl
        subst e1
        go_enter Try.func54, Try.ntmps54
        go_wp2
        go_quiet (fail)
        go_wp2_with (go_at_call 53; refine (l1In_any _ _ _ _).mono ?_; rintro e w' ⟨rfl, h9⟩; have h8 := h9.symm; subst h8; clear h9)
        go_ret
        exact ⟨rfl, below_drewN (unhide HB) nq⟩
      | true =>
        obtain ⟨b1, b2⟩ := inB_true c1
        obtain ⟨b3, b4⟩ := inB_true c2
        obtain ⟨f1, f2⟩ := grid_lt (wd := wd) (hg := hg) b1 (show x < wd by omega) b3 (show (y + 1) < hg by omega)
        have f3 := Int.mul_nonneg b3 (show 0 ≤ wd by omega)
        obtain ⟨f4, f5⟩ := mul_f10 w0 w1 g0 g1
        obtain ⟨q, eq⟩ : ∃ q, q = (y + 1) * wd := ⟨_, rfl⟩
        rw [← eq] at f1 f2 f3
        have q1 : IntKind.i64.wrap ((y + 1) * wd) = q := by rw [← eq, IntKind.wrap_i64]; omega
        have q2 : IntKind.i64.wrap (q + x) = q + x := by rw [IntKind.wrap_i64]; omega
        have e1 : V = q + x := by rw [unhide HV, c1, c2, eq]; rfl
        subst e1
        clear eq HV f1 f2 f3 f4 f5
        go_enter Try.func54, Try.ntmps54
        go_wp2
        go_quiet (fail)
        go_wp2_with (go_at_call 53; refine (l1In_any _ _ _ _).mono ?_; rintro e w' ⟨rfl, h9⟩; have h8 := h9.symm; subst h8; clear h9)
        go_ret
        exact ⟨rfl, below_drewN (unhide HB) nq⟩
  · simp at hbit
    by_cases hr : r0 = 1
    case neg =>
      have e1 : VX = -1 := by rw [unhide HX, decide_eq_false hr]; rfl
      subst e1
      have hb0 : r0 = 0 := by omega
      subst hb0
      clear ex ey
      go_enter Try.func54, Try.ntmps54
      go_wp2
      go_ret
      exact ⟨rfl, unhide HB⟩
    subst hr
    have e9 : VX = nbV wd hg (k : Int) 2 := by rw [unhide HX]; rfl
    subst e9
    clear HX
    have HV : Hid (nbV wd hg (k : Int) 2 = bif inB (x - 1) 0 (wd - 1) && inB y 0 (hg - 1) then y * wd + (x - 1) else -1) := by show _ = _; rw [ex, ey]; rfl
    generalize nbV wd hg (k : Int) 2 = V at HV ⊢
    clear ex ey
    cases c1 : inB (x - 1) 0 (wd - 1) with
    | false =>
      have e1 : V = -1 := by rw [unhide HV, c1]; rfl
      subst e1
      go_enter Try.func54, Try.ntmps54
      go_wp2
      go_quiet (fail)
      go_wp2_with (go_at_call 53; refine (l1In_any _ _ _ _).mono ?_; rintro e w' ⟨rfl, h9⟩; have h8 := h9.symm; subst h8; clear h9)
      go_ret
      exact ⟨rfl, below_drewN (unhide HB) nq⟩
    | true =>
      cases c2 : inB y 0 (hg - 1) with
      | false =>
        have e1 : V = -1 := by rw [unhide HV, c1, c2]; rfl
        subst e1
        go_enter Try.func54, Try.ntmps54
        go_wp2
        go_quiet (fail)
        go_wp2_with (go_at_call 53; refine (l1In_any _ _ _ _).mono ?_; rintro e w' ⟨rfl, h9⟩; have h8 := h9.symm; subst h8; clear h9)
        go_ret
        exact ⟨rfl, below_drewN (unhide HB) nq⟩
      | true =>
        obtain ⟨b1, b2⟩ := inB_true c1
        obtain ⟨b3, b4⟩ := inB_true c2
        obtain ⟨f1, f2⟩ := grid_lt (wd := wd) (hg := hg) b1 (show (x - 1) < wd by omega) b3 (show y < hg by omega)
        have f3 := Int.mul_nonneg b3 (show 0 ≤ wd by omega)
        obtain ⟨f4, f5⟩ := mul_f10 w0 w1 g0 g1
        obtain ⟨q, eq⟩ : ∃ q, q = y * wd := ⟨_, rfl⟩
        rw [← eq] at f1 f2 f3
        have q1 : IntKind.i64.wrap (y * wd) = q := by rw [← eq, IntKind.wrap_i64]; omega
        have q2 : IntKind.i64.wrap (q + (x - 1)) = q + (x - 1) := by rw [IntKind.wrap_i64]; omega
        have e1 : V = q + (x - 1) := by rw [unhide HV, c1, c2, eq]; rfl
        subst e1
        clear eq HV f1 f2 f3 f4 f5
        go_enter Try.func54, Try.ntmps54
        go_wp2
        go_quiet (fail)
        go_wp2_with (go_at_call 53; refine (l1In_any _ _ _ _).mono ?_; rintro e w' ⟨rfl, h9⟩; have h8 := h9.symm; subst h8; clear h9)
        go_ret
        exact ⟨rfl, below_drewN (unhide HB) nq⟩
  · simp at hbit
    by_cases hr : r0 = 1
    case neg =>
      have e1 : VX = -1 := by rw [unhide HX, decide_eq_false hr]; rfl
      subst e1
      have hb0 : r0 = 0 := by omega
      subst hb0
      clear ex ey
      go_enter Try.func54, Try.ntmps54
      go_wp2
      go_ret
      exact ⟨rfl, unhide HB⟩
    subst hr
    have e9 : VX = nbV wd hg (k : Int) 3 := by rw [unhide HX]; rfl
    subst e9
    clear HX
    have HV : Hid (nbV wd hg (k : Int) 3 = bif inB x 0 (wd - 1) && inB (y - 1) 0 (hg - 1) then (y - 1) * wd + x else -1) := by show _ = _; rw [ex, ey]; rfl
    generalize nbV wd hg (k : Int) 3 = V at HV ⊢
    clear ex ey
    cases c1 : inB x 0 (wd - 1) with
    | false =>
      have e1 : V = -1 := by rw [unhide HV, c1]; rfl
      subst e1
      go_enter Try.func54, Try.ntmps54
      go_wp2
      go_quiet (fail)
      go_wp2_with (go_at_call 53; refine (l1In_any _ _ _ _).mono ?_; rintro e w' ⟨rfl, h9⟩; have h8 := h9.symm; subst h8; clear h9)
      go_ret
      exact ⟨rfl, below_drewN (unhide HB) nq⟩
    | true =>
      cases c2 : inB (y - 1) 0 (hg - 1) with
      | false =>
        have e1 : V = -1 := by rw [unhide HV, c1, c2]; rfl
        subst e1
        go_enter Try.func54, Try.ntmps54
        go_wp2
        go_quiet (fail)
        go_wp2_with (go_at_call 53; refine (l1In_any _ _ _ _).mono ?_; rintro e w' ⟨rfl, h9⟩; have h8 := h9.symm; subst h8; clear h9)
        go_ret
        exact ⟨rfl, below_drewN (unhide HB) nq⟩
      | true =>
        obtain ⟨b1, b2⟩ := inB_true c1
        obtain ⟨b3, b4⟩ := inB_true c2
        obtain ⟨f1, f2⟩ := grid_lt (wd := wd) (hg := hg) b1 (show x < wd by omega) b3 (show (y - 1) < hg by omega)
        have f3 := Int.mul_nonneg b3 (show 0 ≤ wd by omega)
        obtain ⟨f4, f5⟩ := mul_f10 w0 w1 g0 g1
        obtain ⟨q, eq⟩ : ∃ q, q = (y - 1) * wd := ⟨_, rfl⟩
        rw [← eq] at f1 f2 f3
        have q1 : IntKind.i64.wrap ((y - 1) * wd) = q := by rw [← eq, IntKind.wrap_i64]; omega
        have q2 : IntKind.i64.wrap (q + x) = q + x := by rw [IntKind.wrap_i64]; omega
        have e1 : V = q + x := by rw [unhide HV, c1, c2, eq]; rfl
        subst e1
        clear eq HV f1 f2 f3 f4 f5
        go_enter Try.func54, Try.ntmps54
        go_wp2
        go_quiet (fail)
        go_wp2_with (go_at_call 53; refine (l1In_any _ _ _ _).mono ?_; rintro e w' ⟨rfl, h9⟩; have h8 := h9.symm; subst h8; clear h9)
        go_ret
        exact ⟨rfl, below_drewN (unhide HB) nq⟩

end Go.Proofs.Ytnapggchejdcgaa

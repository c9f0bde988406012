/- Sections as numbers; contracts of platesOk and down, and of both sides' Section. -/
import Derived.Test.YtliodmahbdmcbaaStD
import Derived.Test.YtliodmahbdmcbaaSgA
namespace Go.Proofs.Ytliodmahbdmcbaa
open Go.RowKit

def plB (p : I3) : Bool := inB p.1 1 1000 && inB p.2.1 1 1000 && inB p.2.2 0 10000
def secOk (L : List I3) : Bool := inB L.length 1 20 && L.all plB

def arF (L : List I3) (i : Nat) : Int := (L.getD i default).1 * (L.getD i default).2.1
def moF (L : List I3) (i : Nat) : Int := (L.getD i default).1 * (L.getD i default).2.1 * (L.getD i default).2.2
def inF (L : List I3) (i : Nat) : Int := (L.getD i default).1 * (L.getD i default).2.1 * ((L.getD i default).2.1 * (L.getD i default).2.1 + 12 * (L.getD i default).2.2 * (L.getD i default).2.2)
def arT (L : List I3) (k : Nat) : Int := sumTo (arF L) k
def moT (L : List I3) (k : Nat) : Int := sumTo (moF L) k
def inT (L : List I3) (k : Nat) : Int := sumTo (inF L) k

/-- What is left of the inertia, of area a, moment m and second moment s. -/
def inLess (a m s : Int) : Int := s - 12 * (m / a) * (m + m % a) - (12 * (m % a) * (m % a) + a - 1) / a
def secV (L : List I3) : I2 := if secOk L = true then lowV (moT L L.length) (arT L L.length) else (0, 0)
def secN (L : List I3) : Int := if secOk L = true then inLess (arT L L.length) (moT L L.length) (inT L L.length) else 0

theorem plB_bd {p : I3} (h : plB p = true) : 1 ≤ p.1 ∧ p.1 ≤ 1000 ∧ 1 ≤ p.2.1 ∧ p.2.1 ≤ 1000 ∧ 0 ≤ p.2.2 ∧ p.2.2 ≤ 10000 := by
  simp only [plB, Bool.and_eq_true] at h
  have := inB_true h.1.1
  have := inB_true h.1.2
  have := inB_true h.2
  omega

/-- The products of one plate, and their bounds. -/
theorem plate_bd {x y z : Int} (h : 1 ≤ x ∧ x ≤ 1000 ∧ 1 ≤ y ∧ y ≤ 1000 ∧ 0 ≤ z ∧ z ≤ 10000) :
    (1 ≤ x * y ∧ x * y ≤ 1000000) ∧ (0 ≤ x * y * z ∧ x * y * z ≤ 10000000000) ∧ (1 ≤ y * y ∧ y * y ≤ 1000000) ∧ (0 ≤ 12 * z * z ∧ 12 * z * z ≤ 1200000000) ∧ (1 ≤ x * y * (y * y + 12 * z * z) ∧ x * y * (y * y + 12 * z * z) ≤ 1201000000000000) ∧ x * y * z ≤ 10000 * (x * y) := by
  obtain ⟨h1, h2, h3, h4, h5, h6⟩ := h
  have a1 := mul_bd (a := x) (b := y) (by omega) h2 (by omega) h4
  have a1' : 0 < x * y := Int.mul_pos (by omega) (by omega)
  have a2 := mul_bd (a := x * y) (b := z) a1.1 (by simpa using a1.2) h5 h6
  have a3 := mul_bd (a := y) (b := y) (by omega) h4 (by omega) h4
  have a3' : 0 < y * y := Int.mul_pos (by omega) (by omega)
  have a4 := mul_bd (a := 12 * z) (b := z) (A := 120000) (by omega) (by omega) h5 h6
  have a5 := mul_bd (a := x * y) (b := y * y + 12 * z * z) (B := 1201000000) a1.1 (by simpa using a1.2) (by omega) (by omega)
  have a5' : 0 < x * y * (y * y + 12 * z * z) := Int.mul_pos a1' (by omega)
  have a6 : x * y * z ≤ x * y * 10000 := Int.mul_le_mul_of_nonneg_left h6 a1.1
  omega

structure SecR (L : List I3) : Prop where
  len1 : 1 ≤ L.length
  len2 : L.length ≤ 20
  pl : ∀ i, i < L.length → plB (L.getD i default) = true

theorem secOk_r {L : List I3} (h : secOk L = true) : SecR L := by
  simp only [secOk, Bool.and_eq_true] at h
  have := inB_true h.1
  exact ⟨by omega, by omega, fun i hi => all_at (d := default) h.2 hi⟩

theorem arT_bd' {L : List I3} : ∀ k, (∀ i, i < k → plB (L.getD i default) = true) → (k : Int) ≤ arT L k ∧ arT L k ≤ 1000000 * k ∧ 0 ≤ moT L k ∧ moT L k ≤ 10000000000 * k ∧ 0 ≤ inT L k ∧ inT L k ≤ 1201000000000000 * k ∧ moT L k ≤ 10000 * arT L k
  | 0, _ => by simp [arT, moT, inT, sumTo]
  | k + 1, h => by
    have ih := arT_bd' k (fun i hi => h i (by omega))
    have b := plate_bd (plB_bd (h k (by omega)))
    have e1 : arT L (k + 1) = arT L k + (L.getD k default).1 * (L.getD k default).2.1 := rfl
    have e2 : moT L (k + 1) = moT L k + (L.getD k default).1 * (L.getD k default).2.1 * (L.getD k default).2.2 := rfl
    have e3 : inT L (k + 1) = inT L k + (L.getD k default).1 * (L.getD k default).2.1 * ((L.getD k default).2.1 * (L.getD k default).2.1 + 12 * (L.getD k default).2.2 * (L.getD k default).2.2) := rfl
    rw [e1, e2, e3]
    omega

theorem arT_bd {L : List I3} (h : ∀ i, i < L.length → plB (L.getD i default) = true) (k : Nat) (hk : k ≤ L.length) : (k : Int) ≤ arT L k ∧ arT L k ≤ 1000000 * k ∧ 0 ≤ moT L k ∧ moT L k ≤ 10000000000 * k ∧ 0 ≤ inT L k ∧ inT L k ≤ 1201000000000000 * k ∧ moT L k ≤ 10000 * arT L k :=
  arT_bd' k (fun i hi => h i (by omega))

/-- Up: the quotient of m + b - 1. -/
theorem up_div (m : Int) {b : Int} (hb : 0 < b) : (m + b - 1) / b = if m % b = 0 then m / b else m / b + 1 := by
  have e := Int.mul_ediv_add_emod m b
  have h1 := Int.emod_nonneg m (show b ≠ 0 by omega)
  have h2 := Int.emod_lt_of_pos m hb
  have e' : m + b - 1 = (m % b + b - 1) + b * (m / b) := by omega
  rw [e', Int.add_mul_ediv_left _ _ (show b ≠ 0 by omega)]
  split
  · rename_i h0
    rw [h0, Int.ediv_eq_zero_of_lt (by omega) (by omega)]; omega
  · rename_i h0
    have e2 : m % b + b - 1 = (m % b - 1) + b * 1 := by omega
    rw [e2, Int.add_mul_ediv_left _ _ (show b ≠ 0 by omega), Int.ediv_eq_zero_of_lt (by omega) (by omega)]; omega

set_option maxHeartbeats 400000 in
theorem down_any (n m b : Int) (w : World) (hn : n = -m) (hm : 0 ≤ m) (hm2 : m ≤ 4611686018427387904) (hb : 0 < b) (hb2 : b ≤ 4611686018427387904) :
    Calls Try.prog 58 #[.int .i64 n, .int .i64 b] w fun e w' => e = .returned (.int .i64 (-((m + b - 1) / b))) ∧ w = w' := by
  have hU := up_div m hb
  have h1 := Int.emod_nonneg m (show b ≠ 0 by omega)
  have h2 := Int.emod_lt_of_pos m hb
  have h3 : 0 ≤ m / b := Int.ediv_nonneg hm (by omega)
  have h4 : m / b ≤ m := Int.ediv_le_self _ hm
  have q1 : Int.tdiv n b = -(m / b) := by rw [hn, Int.neg_tdiv, Int.tdiv_eq_ediv_of_nonneg hm]
  have q2 : Int.tmod n b = -(m % b) := by rw [hn, Int.neg_tmod, Int.tmod_eq_emod_of_nonneg hm]
  have HU := hide hU
  have w1 : IntKind.i64.wrap (Int.tdiv n b) = -(m / b) := by rw [q1, IntKind.wrap_i64]; omega
  have Q2 := hide q2
  have hne : ¬ b = 0 := by omega
  clear hU q1 q2 hn
  generalize (m + b - 1) / b = u at *
  generalize m / b = q at *
  generalize m % b = r at *
  by_cases hr : r = 0
  · have e : Hid (u = q) := by have := unhide HU; rw [if_pos hr] at this; exact this
    have d1 : decide (n.tmod b < 0) = false := by have := unhide Q2; simp; omega
    clear HU Q2
    go_enter Try.func58, Try.ntmps58
    go_wp2
    go_ret
    exact ⟨ret_int (by have := unhide e; omega), rfl⟩
  · have e : Hid (u = q + 1) := by have := unhide HU; rw [if_neg hr] at this; exact this
    have d1 : decide (n.tmod b < 0) = true := by have := unhide Q2; simp; omega
    clear HU Q2
    go_enter Try.func58, Try.ntmps58
    go_wp2
    go_ret
    exact ⟨ret_int (by have := unhide e; omega), rfl⟩

set_option maxHeartbeats 800000 in
theorem platesOk_any (v : Value) (L : List I3) (w : World) (h : R3 w v L) :
    Calls Try.prog 56 #[v] w fun e w' => e = .returned (.bool (secOk L)) ∧ Below w.heap.size w w' := by
  obtain ⟨ao, cap, rfl, hl, hm, hc⟩ := h
  unfold maxLen at hm
  have HC := hide hc
  clear hc
  cases hlen : inB L.length 1 20 with
  | false =>
    have HF : Hid (secOk L = false) := by show _ = _; simp [secOk, hlen]
    go_enter Try.func56, Try.ntmps56
    go_wp2_with (go_at_call 43; refine (within_any _ _ _ _).mono ?_; rintro e w' ⟨rfl, rfl⟩)
    go_ret
    exact ⟨ret_bool (unhide HF).symm, Below.refl _ _⟩
  | true =>
    have HL := hide hlen
    go_enter Try.func56, Try.ntmps56
    go_wp2_with (go_at_call 43; refine (within_any _ _ _ _).mono ?_; rintro e w9 ⟨rfl, h9⟩; have h8 := h9.symm; subst h8; clear h9)
    clear hlen
    go_loopg [11] L.length (fun g i wr => Below w.heap.size w wr ∧ ∃ k : Nat, k ≤ L.length ∧ g = L.length - k ∧ i = .int .i64 k ∧ Hid (∀ r, r < k → plB (L.getD r default) = true))
    case atStart => exact ⟨Below.refl _ _, 0, Nat.zero_le _, rfl, rfl, fun r hr => by omega⟩
    case round =>
      obtain ⟨hW, k, hk, rfl, rfl, HD⟩ := hrel
      by_cases hkn : k < L.length
      · obtain ⟨b, o, x, y, z, rfl, hc0, hc1, hc2, EX⟩ := rec3At (unhide HC) hkn
        have g0 := wcell3 hc0 hW
        have g1 := wcell3 hc1 hW
        have g2 := wcell3 hc2 hW
        have HW := hide (Below.step hW (Below.alloc1 wr (.cells #[.int .i64 x, .int .i64 y, .int .i64 z] 41)))
        clear hc0 hc1 hc2 hW
        have HF : Hid (plB (L.getD k default) = (inB x 1 1000 && inB y 1 1000 && inB z 0 10000)) := by show _ = _; rw [unhide EX]; rfl
        clear EX
        by_cases hall : plB (L.getD k default) = true
        · have HD' : Hid (∀ r, r < k + 1 → plB (L.getD r default) = true) := fun r hr => by
            by_cases e : r = k
            · subst e; exact hall
            · exact HD.out r (by omega)
          rw [hall] at HF
          have h3 := unhide HF
          symm at h3
          simp only [Bool.and_eq_true] at h3
          obtain ⟨⟨h1, h2⟩, h3⟩ := h3
          clear HD HF hall
          go_wp2_with (go_at_call 43; refine (within_any _ _ _ _).mono ?_; rintro e w' ⟨rfl, rfl⟩)
          go_roundg (L.length - (k + 1))
          case measure => omega
          case rel => exact ⟨unhide HW, k + 1, by omega, rfl, by go_num, HD'⟩
        · have HA : Hid (secOk L = false) := by
            show _ = _
            rw [secOk, all_false hkn (d := default) (by simpa using hall)]; simp
          rw [show plB (L.getD k default) = false by simpa using hall] at HF
          clear HD hall
          cases h1 : inB x 1 1000 <;> cases h2 : inB y 1 1000 <;> cases h3 : inB z 0 10000
          all_goals rw [h1, h2, h3] at HF
          case true.true.true => exact absurd (unhide HF) (by simp)
          all_goals
            clear HF
            go_wp2_with (go_at_call 43; refine (within_any _ _ _ _).mono ?_; rintro e w' ⟨rfl, rfl⟩)
            go_ret
            exact ⟨ret_bool (unhide HA).symm, unhide HW⟩
      · have HF : Hid (secOk L = true) := by
          show _ = _
          rw [secOk, all_true (d := default) (fun r hr => HD.out r (by omega)), unhide HL]; rfl
        clear HD
        go_wp2
        go_ret
        exact ⟨ret_bool (unhide HF).symm, hW⟩

theorem Ans2.alloc {w wr : World} (h : Ans2 w wr) (o : Obj) : Ans2 w (wr.alloc o) := ⟨Below.step h.below (Below.alloc1 _ _), h.ans.alloc o⟩
theorem Ans2.step {w wr w2 : World} (h : Ans2 w wr) (hb : Below wr.heap.size wr w2) : Ans2 w w2 := ⟨Below.step h.below hb, h.ans.below hb h.ans.lt⟩

/-- What the quotients of a section are, and their bounds. -/
theorem sec_bd {L : List I3} (h : SecR L) : ∃ a m s : Int, a = arT L L.length ∧ m = moT L L.length ∧ s = inT L L.length ∧ 1 ≤ a ∧ a ≤ 20000000 ∧ 0 ≤ m ∧ m ≤ 200000000000 ∧ 0 ≤ s ∧ s ≤ 24020000000000000 ∧
    0 ≤ m / a ∧ m / a ≤ 10000 ∧ 0 ≤ m % a ∧ m % a < a ∧ (0 ≤ 12 * (m / a) * (m + m % a) ∧ 12 * (m / a) * (m + m % a) ≤ 120000 * 200020000000) ∧ (0 ≤ 12 * (m % a) * (m % a) ∧ 12 * (m % a) * (m % a) ≤ 240000000 * 20000000) ∧
    0 ≤ (12 * (m % a) * (m % a) + a - 1) / a ∧ (12 * (m % a) * (m % a) + a - 1) / a ≤ 4800000020000000 := by
  have b := arT_bd h.pl L.length (Nat.le_refl _)
  have l1 := h.len1
  have l2 := h.len2
  refine ⟨_, _, _, rfl, rfl, rfl, ?_⟩
  generalize arT L L.length = a at *
  generalize moT L L.length = m at *
  generalize inT L L.length = s at *
  have ha : 1 ≤ a := by omega
  have q1 : 0 ≤ m / a := Int.ediv_nonneg (by omega) (by omega)
  have q2 : m / a ≤ 10000 := by
    have : m / a < 10001 := Int.ediv_lt_of_lt_mul (by omega) (by omega)
    omega
  have r1 := Int.emod_nonneg m (show a ≠ 0 by omega)
  have r2 := Int.emod_lt_of_pos m (show 0 < a by omega)
  have p1 := mul_bd (a := 12 * (m / a)) (b := m + m % a) (A := 120000) (B := 200020000000) (by omega) (by omega) (by omega) (by omega)
  have p2 := mul_bd (a := 12 * (m % a)) (b := m % a) (A := 240000000) (B := 20000000) (by omega) (by omega) (by omega) (by omega)
  have u1 : 0 ≤ (12 * (m % a) * (m % a) + a - 1) / a := Int.ediv_nonneg (by omega) (by omega)
  have u2 : (12 * (m % a) * (m % a) + a - 1) / a ≤ 12 * (m % a) * (m % a) + a - 1 := Int.ediv_le_self _ (by omega)
  omega

end Go.Proofs.Ytliodmahbdmcbaa

/- Frames: one or two turned bits are never missed; what is packed is read back: the mathematics. No statement about the program stands here. -/
import Derived.Test.YtkjikjeecjendaaFmH
namespace Go.Proofs.Ytkjikjeecjendaa
open Go.RowKit

theorem pow_crc : ∀ m, m < 8 → crcI m 1 = 2 ^ m ∧ crcI (m + 8) 1 = 2 ^ m * 256 := by decide
theorem far_one : ∀ t, t < 128 → 0 < t → crcI t 1 ≠ 1 := by decide
theorem p8_lt : ∀ m, m < 8 → 2 ^ m < 256 := by decide
theorem xor_lc (a b c : Nat) : a ^^^ (b ^^^ c) = b ^^^ (a ^^^ c) := by rw [← Nat.xor_assoc, Nat.xor_comm a b, Nat.xor_assoc]
theorem xor_none {a b : Nat} (h : a ^^^ b = 0) : a = b := by
  have h1 : a ^^^ b ^^^ b = b := by rw [h, Nat.zero_xor]
  rw [Nat.xor_assoc, Nat.xor_self, Nat.xor_zero] at h1
  exact h1
theorem xor_two (a b : Nat) : 2 * (a ^^^ b) = (2 * a) ^^^ (2 * b) := by
  have := Nat.shiftLeft_xor_distrib (a := a) (b := b) (i := 1)
  simp only [Nat.shiftLeft_eq, Nat.pow_one] at this
  rw [Nat.mul_comm 2, Nat.mul_comm 2, Nat.mul_comm 2]
  exact this
theorem xor_256 (a b : Nat) : (a ^^^ b) * 256 = (a * 256) ^^^ (b * 256) := by
  have := Nat.shiftLeft_xor_distrib (a := a) (b := b) (i := 8)
  simpa only [Nat.shiftLeft_eq] using this
theorem crc1_bits (n k : Nat) (h : n < 65536) (hk : k = 4129) : crc1 n = (2 * n) % 65536 ^^^ (if n.testBit 15 then k else 0) := by
  have ht : n.testBit 15 = decide (32768 ≤ n) := by
    rw [Nat.testBit_eq_decide_div_mod_eq]
    congr 1
    apply propext
    constructor <;> intro _ <;> omega
  unfold crc1
  rw [ht, ← hk]
  by_cases h2 : 32768 ≤ n
  · rw [if_pos h2, if_pos (by rw [decide_eq_true_eq]; exact h2), show (2 * n) % 65536 = 2 * n - 65536 by omega]
  · rw [if_neg h2, if_neg (by rw [decide_eq_true_eq]; exact h2), Nat.xor_zero]
    omega
theorem crc1_xor {a b : Nat} (ha : a < 65536) (hb : b < 65536) : crc1 (a ^^^ b) = crc1 a ^^^ crc1 b := by
  obtain ⟨k, hk⟩ : ∃ k, k = 4129 := ⟨_, rfl⟩
  have hm : ∀ x y : Nat, (x ^^^ y) % 65536 = x % 65536 ^^^ y % 65536 := fun x y => Nat.xor_mod_two_pow (n := 16)
  rw [crc1_bits _ k (xor_lt16 ha hb) hk, crc1_bits a k ha hk, crc1_bits b k hb hk, xor_two, hm, Nat.testBit_xor]
  generalize 2 * a % 65536 = x
  generalize 2 * b % 65536 = y
  cases a.testBit 15 <;> cases b.testBit 15 <;> simp only [Bool.xor_false, Bool.xor_true, Bool.not_false, Bool.not_true, if_true, Bool.false_eq_true, if_false, Nat.xor_zero]
  · rw [Nat.xor_assoc]
  · rw [Nat.xor_assoc, Nat.xor_assoc, Nat.xor_comm y]
  · rw [Nat.xor_assoc, xor_lc k y k, Nat.xor_self, Nat.xor_zero]
theorem crc1_zero {n : Nat} (h : n < 65536) (h0 : crc1 n = 0) : n = 0 := by
  unfold crc1 at h0
  split at h0
  · have := xor_none h0
    omega
  · omega
theorem crcI_xor (j : Nat) {a b : Nat} (ha : a < 65536) (hb : b < 65536) : crcI j (a ^^^ b) = crcI j a ^^^ crcI j b := by
  induction j with
  | zero => rfl
  | succ j ih => rw [crcI_succ, crcI_succ, crcI_succ, ih, crc1_xor (crcI_lt ha) (crcI_lt hb)]
theorem crcI_nil (j : Nat) {n : Nat} (h : n < 65536) (h0 : crcI j n = 0) : n = 0 := by
  induction j with
  | zero => exact h0
  | succ j ih => rw [crcI_succ] at h0; exact ih (crc1_zero (crcI_lt h) h0)
theorem crcI_inj (j : Nat) {a b : Nat} (ha : a < 65536) (hb : b < 65536) (h : crcI j a = crcI j b) : a = b := by
  have h1 := crcI_xor j ha hb
  rw [h, Nat.xor_self] at h1
  exact xor_none (crcI_nil j (xor_lt16 ha hb) h1)
theorem crcI_add (j i n : Nat) : crcI (j + i) n = crcI j (crcI i n) := by
  induction j with
  | zero => rw [Nat.zero_add]; rfl
  | succ j ih => rw [show j + 1 + i = (j + i) + 1 by omega, crcI_succ, crcI_succ, ih]

theorem crcB_def (n b : Nat) : crcB n b = crcI 8 (n ^^^ b * 256) := rfl
seal crcI crc1 crcB

/-- The bytes gone through from n on. -/
def crcF (n : Nat) (L : List Byte) : Nat := L.foldl (fun n b => crcB n b.val) n
theorem crcF_cons (n : Nat) (b : Byte) (L : List Byte) : crcF n (b :: L) = crcF (crcB n b.val) L := rfl
theorem crcB_xor {n m b : Nat} (hn : n < 65536) (hm : m < 65536) (hb : b < 256) : crcB (n ^^^ m) b = crcB n b ^^^ crcI 8 m := by
  rw [crcB_def, crcB_def, show n ^^^ m ^^^ b * 256 = (n ^^^ b * 256) ^^^ m by rw [Nat.xor_assoc, Nat.xor_comm m, Nat.xor_assoc], crcI_xor 8 (xor_lt16 hn (by omega)) hm]
theorem crcF_xor (L : List Byte) : ∀ {n m : Nat}, n < 65536 → m < 65536 → crcF (n ^^^ m) L = crcF n L ^^^ crcI (8 * L.length) m := by
  induction L with
  | nil => intro n m _ _; rw [List.length_nil, Nat.mul_zero, crcI_zero]; rfl
  | cons b L ih =>
    intro n m hn hm
    rw [crcF_cons, crcF_cons, crcB_xor hn hm b.isLt, ih (crcB_lt b hn) (crcI_lt hm), List.length_cons, Nat.mul_add, Nat.mul_one, crcI_add]
/-- A byte with the bits of d turned. -/
def turnB (b : Byte) (d : Nat) (hd : d < 256) : Byte := ⟨b.val ^^^ d, Nat.xor_lt_two_pow (n := 8) b.isLt hd⟩
theorem turnB_val (b : Byte) (d : Nat) (hd : d < 256) : (turnB b d hd).val = b.val ^^^ d := rfl
theorem crcF_turn (d : Nat) (hd : d < 256) (L : List Byte) : ∀ (j n : Nat), n < 65536 → j < L.length → crcF n (L.set j (turnB (L.getD j default) d hd)) = crcF n L ^^^ crcI (8 * (L.length - j)) (d * 256) := by
  induction L with
  | nil => intro j n _ h; simp at h
  | cons b L ih =>
    intro j n hn hj
    cases j with
    | zero =>
      have e : crcB n (b.val ^^^ d) = crcB n b.val ^^^ crcI 8 (d * 256) := by
        rw [crcB_def, crcB_def, xor_256, ← Nat.xor_assoc, crcI_xor 8 (xor_lt16 hn (by have := b.isLt; omega)) (by omega)]
      rw [List.set_cons_zero, crcF_cons, crcF_cons, List.getD_cons_zero, turnB_val, e, crcF_xor L (crcB_lt b hn) (crcI_lt (by omega)), List.length_cons, ← crcI_add, show 8 * L.length + 8 = 8 * (L.length + 1 - 0) by omega]
    | succ j =>
      have := ih j (crcB n b.val) (crcB_lt b hn) (by simpa using hj)
      rw [List.set_cons_succ, crcF_cons, crcF_cons, List.getD_cons_succ, this, List.length_cons, show L.length - j = L.length + 1 - (j + 1) by omega]

/-- What the check is off by. -/
def syn (L : List Byte) : Nat := crcF 65535 (L.take 14) ^^^ numB (cutB L 14 16)
theorem syn_zero {L : List Byte} : syn L = 0 ↔ numB (cutB L 14 16) = crcL (L.take 14) := by
  constructor
  · intro h; exact (xor_none h).symm
  · intro h; unfold syn; rw [h]; exact Nat.xor_self _
theorem xor_sum (a b : Nat) (hb : b < 256) : a * 256 ^^^ b = a * 256 + b := by
  rw [← nat_join 8 (a * 256) b (by omega) hb]
  apply Nat.eq_of_testBit_eq
  intro i
  rw [Nat.testBit_xor, Nat.testBit_or]
  by_cases hi : i < 8
  · have : (a * 256).testBit i = false := by
      have := Nat.testBit_shiftLeft (x := a) (i := 8) (j := i)
      rw [Nat.shiftLeft_eq] at this
      rw [show a * 256 = a * 2 ^ 8 from rfl, this]
      simp; omega
    rw [this]; simp
  · have : b.testBit i = false := by
      have h8 : 2 ^ 8 ≤ 2 ^ i := Nat.pow_le_pow_right (by omega) (by omega)
      exact Nat.testBit_lt_two_pow (Nat.lt_of_lt_of_le hb h8)
    rw [this]; simp
theorem num2 {L : List Byte} (hl : L.length = 16) : numB (cutB L 14 16) = (L.getD 14 default).val * 256 ^^^ (L.getD 15 default).val := by
  have h1 : L.drop 14 = [L.getD 14 default, L.getD 15 default] := by
    apply List.ext_getElem
    · simp [hl]
    · intro i h1 h2
      have : i = 0 ∨ i = 1 := by simp at h2; omega
      rcases this with rfl | rfl <;> simp [List.getD, hl]
  unfold cutB
  rw [h1, xor_sum _ _ (L.getD 15 default).isLt]
  simp [numB]
def turnL (L : List Byte) (a : Nat) : List Byte := L.set (a / 8) (turnB (L.getD (a / 8) default) (2 ^ (a % 8)) (p8_lt _ (Nat.mod_lt _ (by omega))))
theorem turnL_len (L : List Byte) (a : Nat) : (turnL L a).length = L.length := List.length_set
/-- One bit turned. -/
theorem syn_turn {L : List Byte} (hl : L.length = 16) {a : Nat} (ha : a < 128) : syn (turnL L a) = syn L ^^^ crcI (8 * (15 - a / 8) + a % 8) 1 := by
  have hl' : (turnL L a).length = 16 := by rw [turnL_len]; exact hl
  have hm : a % 8 < 8 := Nat.mod_lt _ (by omega)
  obtain ⟨p1, p2⟩ := pow_crc _ hm
  unfold syn
  rw [num2 hl, num2 hl']
  have gj : ∀ i, i < 16 → (turnL L a).getD i default = if a / 8 = i then turnB (L.getD (a / 8) default) (2 ^ (a % 8)) (p8_lt _ hm) else L.getD i default := fun i hi => by
    unfold turnL
    by_cases e : a / 8 = i
    · subst e
      rw [if_pos rfl]
      simp [List.getD, hl, hi]
    · rw [if_neg e]
      simp [List.getD, List.getElem?_set_ne e]
  rw [gj 14 (by omega), gj 15 (by omega)]
  by_cases h14 : a / 8 < 14
  · rw [if_neg (by omega), if_neg (by omega)]
    have e1 : (turnL L a).take 14 = (L.take 14).set (a / 8) (turnB ((L.take 14).getD (a / 8) default) (2 ^ (a % 8)) (p8_lt _ hm)) := by
      unfold turnL
      rw [List.take_set]
      congr 2
      simp [List.getD, h14]
    have hl14 : (L.take 14).length = 14 := by simp [hl]
    rw [e1, crcF_turn _ _ _ _ _ (by omega) (by rw [hl14]; exact h14), hl14, ← p2, ← crcI_add, show 8 * (14 - a / 8) + (a % 8 + 8) = 8 * (15 - a / 8) + a % 8 by omega, Nat.xor_assoc, Nat.xor_assoc, Nat.xor_comm (crcI _ 1)]
  · have e1 : (turnL L a).take 14 = L.take 14 := by
      unfold turnL
      rw [List.take_set, List.set_eq_of_length_le (by simp [hl]; omega)]
    rw [e1]
    by_cases e : a / 8 = 14
    · rw [if_pos e, if_neg (by omega), turnB_val, xor_256, e, ← p2, show 8 * (15 - 14) + a % 8 = a % 8 + 8 by omega, Nat.xor_assoc, Nat.xor_assoc, Nat.xor_assoc, Nat.xor_comm (crcI _ 1)]
    · have e' : a / 8 = 15 := by omega
      rw [if_neg e, if_pos e', turnB_val, e', ← p1, show 8 * (15 - 15) + a % 8 = a % 8 by omega, Nat.xor_assoc, Nat.xor_assoc]
theorem s_inj {t u : Nat} (h : t < u) (hu : u < 128) : crcI t 1 ≠ crcI u 1 := by
  intro e
  have : crcI t 1 = crcI t (crcI (u - t) 1) := by rw [← crcI_add, e]; congr 1; omega
  exact far_one (u - t) (by omega) (by omega) (crcI_inj t (by omega) (crcI_lt (by omega)) this).symm
theorem s_ne {t : Nat} : crcI t 1 ≠ 0 := fun e => by have := crcI_nil t (by omega) e; omega
/-- One turned bit, two turned bits are seen. -/
theorem read_turn1 {L : List Byte} (hl : L.length = 16) (hc : numB (cutB L 14 16) = crcL (L.take 14)) {a : Nat} (ha : a < 128) : readC (turnL L a) = 2 := by
  refine readC_chk (by rw [turnL_len]; exact hl) (fun e => ?_)
  have h1 := syn_zero.2 e
  rw [syn_turn hl ha, syn_zero.2 hc, Nat.zero_xor] at h1
  exact s_ne h1
theorem read_turn2 {L : List Byte} (hl : L.length = 16) (hc : numB (cutB L 14 16) = crcL (L.take 14)) {a b : Nat} (ha : a < 128) (hb : b < 128) (hab : a ≠ b) : readC (turnL (turnL L a) b) = 2 := by
  refine readC_chk (by rw [turnL_len, turnL_len]; exact hl) (fun e => ?_)
  have h1 := syn_zero.2 e
  rw [syn_turn (by rw [turnL_len]; exact hl) hb, syn_turn hl ha, syn_zero.2 hc, Nat.zero_xor] at h1
  have h2 := xor_none h1
  rcases Nat.lt_or_ge (8 * (15 - a / 8) + a % 8) (8 * (15 - b / 8) + b % 8) with h | h
  · exact s_inj h (by omega) h2
  · exact s_inj (t := 8 * (15 - b / 8) + b % 8) (u := 8 * (15 - a / 8) + a % 8) (by omega) (by omega) h2.symm

/-- What is packed is read back. -/
theorem toB_v (n : Int) : (((toB n).val : Nat) : Int) = n % 256 := by
  unfold toB
  simp only
  omega
theorem packed_chk (k i x y s n : Int) : numB (cutB (packed k i x y s n) 14 16) = crcL ((packed k i x y s n).take 14) := by
  unfold packed
  simp only
  generalize hf : [toB k, toB (i / 16777216), toB (i / 65536), toB (i / 256), toB i, toB (x / 65536), toB (x / 256), toB x, toB (y / 65536), toB (y / 256), toB y, toB s, toB n, (0 : Byte)] = f
  have hl : f.length = 14 := by rw [← hf]; rfl
  have e1 : (f ++ [toB ((crcL f : Nat) / 256 : Int), toB (crcL f : Nat)]).take 14 = f := by rw [← hl, List.take_left]
  have e2 : cutB (f ++ [toB ((crcL f : Nat) / 256 : Int), toB (crcL f : Nat)]) 14 16 = [toB ((crcL f : Nat) / 256 : Int), toB (crcL f : Nat)] := by
    unfold cutB
    rw [← hl, List.drop_left, hl]
    rfl
  rw [e1, e2]
  have hlt := crcL_lt f
  generalize crcL f = c at *
  have h1 := toB_v ((c : Int) / 256)
  have h2 := toB_v (c : Int)
  simp only [numB, List.foldl_cons, List.foldl_nil]
  omega
theorem packed_get (k i x y s n : Int) : (packed k i x y s n).take 14 = [toB k, toB (i / 16777216), toB (i / 65536), toB (i / 256), toB i, toB (x / 65536), toB (x / 256), toB x, toB (y / 65536), toB (y / 256), toB y, toB s, toB n, 0] := rfl
theorem packed_rep {k i x y s n : Int} (h : repB k i x y s n = true) : (((numB (cutB (packed k i x y s n) 0 1) : Nat) : Int) = k ∧ ((numB (cutB (packed k i x y s n) 1 5) : Nat) : Int) = i ∧ fixB (numB (cutB (packed k i x y s n) 5 8)) = x ∧ fixB (numB (cutB (packed k i x y s n) 8 11)) = y ∧ ((numB (cutB (packed k i x y s n) 11 12) : Nat) : Int) = s ∧ ((numB (cutB (packed k i x y s n) 12 13) : Nat) : Int) = n) := by
  unfold repB at h
  simp only [Bool.and_eq_true] at h
  obtain ⟨⟨⟨⟨⟨h1, h2⟩, h3⟩, h4⟩, h5⟩, h6⟩ := h
  have q1 := inB_true h1
  have q2 := inB_true h2
  have q3 := inB_true h3
  have q4 := inB_true h4
  have q5 := inB_true h5
  have q6 := inB_true h6
  have c0 : cutB (packed k i x y s n) 0 1 = [toB k] := rfl
  have c1 : cutB (packed k i x y s n) 1 5 = [toB (i / 16777216), toB (i / 65536), toB (i / 256), toB i] := rfl
  have c2 : cutB (packed k i x y s n) 5 8 = [toB (x / 65536), toB (x / 256), toB x] := rfl
  have c3 : cutB (packed k i x y s n) 8 11 = [toB (y / 65536), toB (y / 256), toB y] := rfl
  have c4 : cutB (packed k i x y s n) 11 12 = [toB s] := rfl
  have c5 : cutB (packed k i x y s n) 12 13 = [toB n] := rfl
  rw [c0, c1, c2, c3, c4, c5]
  clear c0 c1 c2 c3 c4 c5 h1 h2 h3 h4 h5 h6
  have fx : ∀ z : Int, -8388608 ≤ z → z ≤ 8388607 → fixB (numB [toB (z / 65536), toB (z / 256), toB z]) = z := fun z hz0 hz1 => by
    have a1 := toB_v (z / 65536)
    have a2 := toB_v (z / 256)
    have a3 := toB_v z
    obtain ⟨N, eN⟩ : ∃ N, N = numB [toB (z / 65536), toB (z / 256), toB z] := ⟨_, rfl⟩
    have hN : (N : Int) = (z / 65536 % 256 * 256 + z / 256 % 256) * 256 + z % 256 := by
      rw [eN]
      simp only [numB, List.foldl_cons, List.foldl_nil]
      omega
    rw [← eN]
    unfold fixB
    by_cases hb : (8388607 : Int) < (N : Int)
    · rw [if_pos hb]; omega
    · rw [if_neg hb]; omega
  have v1 := toB_v k
  have v2 := toB_v (i / 16777216)
  have v3 := toB_v (i / 65536)
  have v4 := toB_v (i / 256)
  have v5 := toB_v i
  have v6 := toB_v s
  have v7 := toB_v n
  refine ⟨?_, ?_, fx x q3.1 q3.2, fx y q4.1 q4.2, ?_, ?_⟩ <;> simp only [numB, List.foldl_cons, List.foldl_nil] <;> omega
theorem packed_read {k i x y s n : Int} (h : repB k i x y s n = true) : readC (packed k i x y s n) = 0 ∧ readV (packed k i x y s n) = vReport k i x y s n := by
  obtain ⟨e0, e1, e2, e3, e4, e5⟩ := packed_rep h
  have hR : repBOf (packed k i x y s n) = true := by unfold repBOf; rw [e0, e1, e2, e3, e4, e5]; exact h
  have hC := readC_ok (packed_len k i x y s n) (packed_chk k i x y s n) rfl hR
  refine ⟨hC, ?_⟩
  rw [readV_ok hC]
  unfold repOf
  rw [e0, e1, e2, e3, e4, e5]

end Go.Proofs.Ytkjikjeecjendaa

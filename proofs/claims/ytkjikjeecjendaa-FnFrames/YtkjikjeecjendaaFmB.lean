/- Bytes: words; the check in numbers; contracts of the laws' own toByteS, eqByteS, markByteS, heldByteS. No statement about the program stands here. -/
import Derived.Test.YtkjikjeecjendaaOwC
import Derived.Test.YtkjikjeecjendaaWalkC
import Derived.Laws.BitsAllLaws
import Derived.Deep.QuietTactic
import Derived.BigQuiet
namespace Go.Proofs.Ytkjikjeecjendaa
open Go.RowKit

abbrev Byte := Fin 256
def eB (b : Byte) : Value := .int .u8 ((b.val : Nat) : Int)
def toB (n : Int) : Byte := ⟨(n % 256).toNat, by omega⟩
theorem eB_toB (n : Int) : eB (toB n) = .int .u8 (n % 256) := by
  unfold eB toB
  congr 1
  simp only
  omega
theorem toB_val (b : Byte) : toB ((b.val : Nat) : Int) = b := by
  apply Fin.ext
  unfold toB
  simp only
  have := b.isLt
  omega
theorem wrap_byte (n : Int) : IntKind.u8.wrap n = n % 256 := IntKind.wrap_u8' n
abbrev ByIn := CIn (α := Byte) eB
abbrev OwnBy := OwnC (α := Byte) eB
abbrev OwnByU := OwnCU (α := Byte) eB

/-- One step of the check, eight of it, a byte, a list of bytes. -/
def crc1 (n : Nat) : Nat := if 32768 ≤ n then (2 * n - 65536) ^^^ 4129 else 2 * n
def crcI (j n : Nat) : Nat := Nat.repeat crc1 j n
def crcB (n b : Nat) : Nat := crcI 8 (n ^^^ (b * 256))
def crcL (L : List Byte) : Nat := L.foldl (fun n b => crcB n b.val) 65535
theorem xor_lt16 {a b : Nat} (ha : a < 65536) (hb : b < 65536) : a ^^^ b < 65536 := Nat.xor_lt_two_pow (n := 16) (by omega) (by omega)
theorem crc1_lt {n : Nat} (h : n < 65536) : crc1 n < 65536 := by
  unfold crc1
  split
  · exact xor_lt16 (by omega) (by omega)
  · omega
theorem crcI_zero (n : Nat) : crcI 0 n = n := rfl
theorem crcI_succ (j n : Nat) : crcI (j + 1) n = crc1 (crcI j n) := rfl
theorem crcI_lt {j n : Nat} (h : n < 65536) : crcI j n < 65536 := by
  induction j with
  | zero => exact h
  | succ j ih => rw [crcI_succ]; exact crc1_lt ih
theorem crcB_lt {n : Nat} (b : Byte) (h : n < 65536) : crcB n b.val < 65536 := crcI_lt (xor_lt16 h (by have := b.isLt; omega))
theorem foldl_lt (f : Nat → Byte → Nat) (hf : ∀ n b, n < 65536 → f n b < 65536) (L : List Byte) : ∀ n, n < 65536 → L.foldl f n < 65536 := by
  induction L with
  | nil => intro n h; exact h
  | cons b L ih => intro n h; rw [List.foldl_cons]; exact ih _ (hf n b h)
theorem crcL_lt (L : List Byte) : crcL L < 65536 := foldl_lt (fun n b => crcB n b.val) (fun _ b h => crcB_lt b h) L 65535 (Nat.lt_succ_self _)
theorem crcL_nil : crcL [] = 65535 := rfl
theorem crcL_snoc (L : List Byte) (b : Byte) : crcL (L ++ [b]) = crcB (crcL L) b.val := by simp [crcL, List.foldl_append]
theorem take_snoc {α : Type} [Inhabited α] (L : List α) {k : Nat} (h : k < L.length) : L.take (k + 1) = L.take k ++ [L.getD k default] := by
  rw [List.take_add_one, List.getElem?_eq_getElem h, getD_lt h]; rfl
theorem crc_step (L : List Byte) {k : Nat} (h : k < L.length) : crcL (L.take (k + 1)) = crcB (crcL (L.take k)) (L.getD k default).val := by rw [take_snoc L h, crcL_snoc]

/-- The bits of numbers that are not below 0. -/
theorem ofInt_i64 (a : Nat) (ha : a < 9223372036854775808) : (BitVec.ofInt 64 (a : Int)).toNat = a := by
  rw [BitVec.ofInt_natCast, BitVec.toNat_ofNat]; exact Nat.mod_eq_of_lt (by omega)
theorem i64_xor_nat (a b : Nat) (ha : a < 9223372036854775808) (hb : b < 9223372036854775808) : bits .xor .i64 (a : Int) (b : Int) = ((a ^^^ b : Nat) : Int) := by
  have hx : a ^^^ b < 2 ^ 63 := Nat.xor_lt_two_pow (by omega) (by omega)
  show IntKind.i64.wrap ((BitVec.ofInt 64 (a : Int) ^^^ BitVec.ofInt 64 (b : Int)).toNat : Int) = _
  rw [BitVec.toNat_xor, ofInt_i64 a ha, ofInt_i64 b hb, IntKind.wrap_i64]
  omega
theorem i64_and_nat (a b : Nat) (ha : a < 9223372036854775808) (hb : b < 9223372036854775808) : bits .and .i64 (a : Int) (b : Int) = ((a &&& b : Nat) : Int) := by
  have hx : a &&& b < 2 ^ 63 := Nat.and_lt_two_pow _ (by omega)
  show IntKind.i64.wrap ((BitVec.ofInt 64 (a : Int) &&& BitVec.ofInt 64 (b : Int)).toNat : Int) = _
  rw [BitVec.toNat_and, ofInt_i64 a ha, ofInt_i64 b hb, IntKind.wrap_i64]
  omega
theorem i64_or_nat (a b : Nat) (ha : a < 9223372036854775808) (hb : b < 9223372036854775808) : bits .or .i64 (a : Int) (b : Int) = ((a ||| b : Nat) : Int) := by
  have hx : a ||| b < 2 ^ 63 := Nat.or_lt_two_pow (by omega) (by omega)
  show IntKind.i64.wrap ((BitVec.ofInt 64 (a : Int) ||| BitVec.ofInt 64 (b : Int)).toNat : Int) = _
  rw [BitVec.toNat_or, ofInt_i64 a ha, ofInt_i64 b hb, IntKind.wrap_i64]
  omega
theorem i64_join (a b : Nat) (ha : a < 4294967296) (hb : b < 256) : bits .or .i64 ((a : Int) * 256) (b : Int) = (a : Int) * 256 + b := by
  have := i64_or_nat (a * 256) b (by omega) (by omega)
  rw [nat_join 8 (a * 256) b (by omega) hb] at this
  simpa using this
theorem i64_mask24 (n : Int) : bits .and .i64 n 16777215 = n % 16777216 := by
  have h127 : (BitVec.ofInt 64 16777215).toNat = 2 ^ 24 - 1 := by decide
  have key : (BitVec.ofInt 64 n &&& BitVec.ofInt 64 16777215).toNat = (n % ((2 ^ 64 : Nat) : Int)).toNat % 2 ^ 24 := by
    rw [BitVec.toNat_and, BitVec.toNat_ofInt, h127, Nat.and_two_pow_sub_one_eq_mod]
  show IntKind.i64.wrap ((BitVec.ofInt 64 n &&& BitVec.ofInt 64 16777215).toNat : Nat) = n % 16777216
  rw [key, IntKind.wrap_i64]
  omega

theorem Try.infoU8 : (Try.prog.info? 5).map (fun i => (i.zero, i.size, i.bytes)) = some (some (.int .u8 0), 1, 1) := by kernel_rfl

/-- So far k cells of the block that came new are filled. -/
def FillB (w wr : World) (L : List Byte) (k : Nat) : Prop := Below w.heap.size w wr ∧ ∃ c t, wr.heap[w.heap.size]? = some (.cells c t (0, 0)) ∧ c.size = L.length ∧ ∀ q, q < k → c[q]? = some (eB (L.getD q default))
theorem FillB.start (w : World) (L : List Byte) (z : Array Value) (t : TypeId) (hz : z.size = 1) : FillB w (w.alloc (.cells (madeCells z L.length) t)) L 0 :=
  ⟨Below.alloc1 _ _, _, t, Deep.blk_alloc_new _ _, by simp [madeCells, hz], fun q hq => by omega⟩
theorem FillB.frozen {w wr : World} {L : List Byte} {k : Nat} (h : FillB w wr L k) (j : Nat) : wr.frozen? ⟨w.heap.size, j, none⟩ = false := by
  obtain ⟨_, c, t, h1, _⟩ := h
  simp [World.frozen?, h1]
theorem FillB.cell {w wr : World} {L : List Byte} {k : Nat} (h : FillB w wr L k) {q : Nat} (hq : q < L.length) : ∃ u, wr.cell? ⟨w.heap.size, q, none⟩ = some u := by
  obtain ⟨_, c, t, h1, h2, _⟩ := h
  exact ⟨c[q]'(by omega), by simp [World.cell?, h1, show q < c.size by omega]⟩
theorem FillB.set {w wr : World} {L : List Byte} {k : Nat} (h : FillB w wr L k) (hk : k < L.length) : FillB w (wr.setCell ⟨w.heap.size, k, none⟩ (eB (L.getD k default))) L (k + 1) := by
  obtain ⟨h0, c, t, h1, h2, h3⟩ := h
  refine ⟨h0.setCell (Nat.le_refl _) _, c.setIfInBounds k (eB (L.getD k default)), t, by simp [World.setCell, Array.getElem?_modify, h1], by simpa using h2, fun q hq => ?_⟩
  rw [Array.getElem?_setIfInBounds]
  by_cases e : k = q
  · subst e; simp [show k < c.size by omega]
  · rw [if_neg e]; exact h3 q (by omega)
theorem FillB.done {w wr : World} {L : List Byte} (h : FillB w wr L L.length) : OwnV wr w.heap.size (L.map eB) := by
  obtain ⟨_, c, t, h1, h2, h3⟩ := h
  exact ⟨c, t, h1, fun i hi => by rw [List.length_map] at hi; rw [h3 i hi, map_get L hi]⟩

set_option maxHeartbeats 800000 in
theorem toByteS_o (v : Value) (L : List Byte) (w : World) (h : ByIn w v L) (hs : L.length ≤ 1048576) :
    Calls Try.prog 34 #[v] w fun e w' => ∃ g, e = .returned (.slice (some ⟨g, 0, none⟩) L.length L.length) ∧ w.heap.size ≤ g ∧ OwnV w' g (L.map eB) ∧ Below w.heap.size w w' := by
  obtain ⟨ao, cap, rfl, hlc, hm, hc⟩ := h
  clear hlc hm
  have HC := hide hc
  clear hc
  have hmk := run_make_recs (P := Try.prog) 22 5 _ 1 1 Try.underlying22 Try.infoU8 .i64 .i64 L.length (by omega) (by omega)
  rw [Nat.mul_one] at hmk
  go_enter Try.func34, Try.ntmps34
  go_wp2
  clear hmk
  go_loopg [4] L.length (fun g i wr => ∃ k : Nat, k ≤ L.length ∧ g = L.length - k ∧ i = .int .i64 k ∧ FillB w wr L k)
  case atStart => exact ⟨0, Nat.zero_le _, rfl, rfl, FillB.start _ _ _ _ (by rfl)⟩
  case round =>
    obtain ⟨k, hk, rfl, rfl, hF⟩ := hrel
    by_cases hkn : k < L.length
    · obtain ⟨b, o, rfl, hcell⟩ := unhide HC k hkn
      have g0 := (hF.1.cell (lt_of_cell hcell)).trans hcell
      have hf := hF.frozen
      obtain ⟨u0, hu0⟩ := hF.cell hkn
      have HF1 := hide (hF.set hkn)
      have hki : (k : Int) < L.length := by omega
      clear hF hcell
      generalize L.getD k default = z at g0 HF1
      unfold eB at g0 HF1
      go_wp2
      go_roundg (L.length - (k + 1))
      case measure => omega
      case rel => exact ⟨k + 1, by omega, rfl, by go_num, unhide HF1⟩
    · have hkk : k = L.length := by omega
      subst hkk
      go_wp2
      go_ret
      exact ⟨_, rfl, Nat.le_refl _, hF.done, hF.1⟩

set_option maxHeartbeats 400000 in
theorem eqByteS_o (v v' : Value) (M : List Byte) (w : World) (h : ByIn w v M) (h' : ByIn w v' M) :
    Calls Try.prog 30 #[v, v'] w fun e w' => e = .returned (.bool true) ∧ Below w.heap.size w w' := by
  obtain ⟨ao, cap, rfl, hl, hm, hc⟩ := h
  obtain ⟨ao', cap', rfl, _, _, hc'⟩ := h'
  unfold maxLen at hm
  have HC := hide hc
  have HC' := hide hc'
  clear hc hc'
  go_enter Try.func30, Try.ntmps30
  go_wp2
  go_loopg [5] M.length (fun g i wr => ∃ q, wr = w.drewN q ∧ ∃ k : Nat, k ≤ M.length ∧ g = M.length - k ∧ i = .int .i64 k)
  case atStart => exact ⟨0, rfl, 0, Nat.zero_le _, rfl, rfl⟩
  case round =>
    obtain ⟨q, hq, k, hk, rfl, rfl⟩ := hrel
    by_cases hkn : k < M.length
    · obtain ⟨b, o, rfl, hcell⟩ := unhide HC k hkn
      obtain ⟨b', o', rfl, hcell'⟩ := unhide HC' k hkn
      generalize M.getD k default = x at *
      unfold eB at hcell hcell'
      have c0 : wr.cell? ⟨b, o + k, none⟩ = some (.int .u8 x.val) := by rw [hq]; exact hcell
      have c1 : wr.cell? ⟨b', o' + k, none⟩ = some (.int .u8 x.val) := by rw [hq]; exact hcell'
      have HQ := hide hq
      have hki : (k : Int) < M.length := by omega
      clear hq hcell hcell'
      generalize x.val = x at *
      go_wp2
      first | done | (go_quiet (fail); go_wp2) | skip
      go_roundg (M.length - (k + 1))
      case measure => omega
      case rel => exact ⟨_, by rw [unhide HQ]; exact World.drewN_drewN _ _ _, k + 1, by omega, rfl, by go_num⟩
    · subst hq
      go_wp2
      go_ret
      exact ⟨rfl, below_drewN (Below.refl _ _) _⟩

def byMark (k : Int) (i : Nat) : Byte := toB (k + (i : Int))

set_option maxHeartbeats 800000 in
theorem markBy_any (g cap : Nat) (L : List Byte) (k : Int) (w : World) (h : OwnV w g (L.map eB)) (hn : L.length ≤ 1048576) (hk0 : 0 ≤ k) (hk1 : k ≤ 4611686018427387904) :
    Calls Try.prog 31 #[.slice (some ⟨g, 0, none⟩) L.length cap, .int .i64 k] w fun e w' => e = .returned (.int .i64 (k + (L.length : Int))) ∧ Kept (fun b => b = g) w w' ∧ OwnV w' g ((marksL (byMark k) L.length).map eB) := by
  have HM0 := hide h
  clear h
  go_enter Try.func31, Try.ntmps31
  go_wp2
  go_loopg [1, 5] L.length (fun gh kv iv wr => ∃ j : Nat, j ≤ L.length ∧ gh = L.length - j ∧ iv = .int .i64 j ∧ kv = .int .i64 (k + (j : Int)) ∧ Kept (fun b => b = g) w wr ∧ OwnV wr g ((midL (byMark k) L j).map eB))
  case atStart => exact ⟨0, Nat.zero_le _, rfl, rfl, by congr 1; omega, Kept.refl _ _, by rw [midL_zero]; exact unhide HM0⟩
  case round =>
    obtain ⟨j, hj, rfl, rfl, rfl, hK, hM⟩ := hrel
    clear HM0
    by_cases hjn : j < L.length
    · have hf := hM.frozen
      have hu0 := hM.cell (map_get (E := eB) (midL (byMark k) L j) (i := j) (by rw [midL_len]; exact hjn))
      have hN := hM.set j (eB (byMark k j)) (by rw [List.length_map, midL_len]; exact hjn)
      rw [← List.map_set, midL_step, show eB (byMark k j) = .int .u8 ((k + (j : Int)) % 256) from eB_toB _] at hN
      have HN := hide hN
      have HK := hide hK
      have hwr := wrap_byte (k + (j : Int))
      clear hM hK hN
      generalize (midL (byMark k) L j).getD j default = z0 at *
      have hji : (j : Int) < L.length := by omega
      generalize (k + (j : Int)) % 256 = z1 at *
      go_wp2
      go_roundg (L.length - (j + 1))
      case measure => omega
      case rel => exact ⟨j + 1, by omega, rfl, by go_num, by congr 1; omega, (unhide HK).setCell (p := ⟨g, j, none⟩) rfl _, unhide HN⟩
    · have hjj : j = L.length := by omega
      subst hjj
      go_wp2
      go_ret
      exact ⟨rfl, hK, by rw [← midL_done]; exact hM⟩

theorem markBy_nil (ao : Option Addr) (cap : Nat) (k : Int) (w : World) :
    Calls Try.prog 31 #[.slice ao 0 cap, .int .i64 k] w fun e w' => e = .returned (.int .i64 k) ∧ w = w' := by
  go_enter Try.func31, Try.ntmps31
  go_wp2
  go_loopg [1, 5] 0 (fun _ kv iv wr => w = wr ∧ iv = .int .i64 0 ∧ kv = .int .i64 k)
  case atStart => exact ⟨rfl, rfl, rfl⟩
  case round =>
    obtain ⟨rfl, rfl, rfl⟩ := hrel
    go_wp2
    go_ret
    exact ⟨rfl, rfl⟩

theorem markByteS_v (B U : Nat) (ao : Option Addr) (n cap : Nat) (L : List Byte) (w : World) (h : OwnByU B U w (.slice ao n cap) L) (hn : L.length ≤ 1048576) :
    Calls Try.prog 31 #[.slice ao n cap, .int .i64 1] w fun e w' => e = .returned (.int .i64 (1 + (L.length : Int))) ∧ Kept (fun b => B ≤ b ∧ b < U) w w' ∧ OwnByU B U w' (.slice ao n cap) (marksL (byMark 1) L.length) := by
  obtain ⟨ao', cap', e, h1, h2, h3⟩ := h
  simp only [Value.slice.injEq] at e
  obtain ⟨rfl, rfl, rfl⟩ := e
  by_cases hne : L = []
  · subst hne
    refine (markBy_nil ao cap 1 w).mono ?_
    rintro e w' ⟨rfl, rfl⟩
    exact ⟨rfl, Kept.refl _ _, ao, cap, by rw [marksL_len], by rw [marksL_len]; exact h1, h2, fun h => absurd rfl h⟩
  · obtain ⟨g, rfl, hg, hu, ho⟩ := h3 hne
    refine (markBy_any g cap L 1 w ho hn (by omega) (by omega)).mono ?_
    rintro e w' ⟨rfl, hk, ho'⟩
    exact ⟨rfl, hk.mono (fun b _ hb => by rw [hb]; exact ⟨hg, hu⟩), _, cap, by rw [marksL_len], by rw [marksL_len]; exact h1, h2, fun _ => ⟨g, rfl, hg, hu, ho'⟩⟩

set_option maxHeartbeats 800000 in
theorem heldByteS_v (v : Value) (M : List Byte) (W : World) (hW : ByIn W v (marksL (byMark 1) M.length)) (hn : M.length ≤ 1048576) :
    Calls Try.prog 32 #[v, .int .i64 1] W fun e w' => e = .returned (.int .i64 (1 + (M.length : Int))) ∧ Below W.heap.size W w' := by
  obtain ⟨ao, cap, rfl, hl, hm, hc⟩ := hW
  have HC := hide hc
  clear hc
  rw [marksL_len] at HC hl ⊢
  unfold maxLen at hm
  generalize M.length = n at *
  go_enter Try.func32, Try.ntmps32
  go_wp2
  go_loopg [1, 5] n (fun gh kv iv wr => (∃ q, wr = W.drewN q) ∧ ∃ j : Nat, j ≤ n ∧ gh = n - j ∧ iv = .int .i64 j ∧ kv = .int .i64 (1 + (j : Int)))
  case atStart => exact ⟨⟨0, rfl⟩, 0, Nat.zero_le _, rfl, rfl, by congr 1⟩
  case round =>
    obtain ⟨⟨q, hq⟩, j, hj, rfl, rfl, rfl⟩ := hrel
    have HW := hide hq
    by_cases hjn : j < n
    · obtain ⟨b, o, rfl, hcell⟩ := unhide HC j hjn
      rw [marksL_get (byMark 1) hjn, show eB (byMark 1 j) = .int .u8 ((1 + (j : Int)) % 256) from eB_toB _] at hcell
      have c0 : wr.cell? ⟨b, o + j, none⟩ = some (.int .u8 ((1 + (j : Int)) % 256)) := by rw [hq]; exact hcell
      have hji : (j : Int) < n := by omega
      have hwr := wrap_byte (1 + (j : Int))
      clear hq hcell
      generalize (1 + (j : Int)) % 256 = z1 at *
      go_wp2
      go_roundg (n - (j + 1))
      case measure => omega
      case rel => exact ⟨⟨q, unhide HW⟩, j + 1, by omega, rfl, by go_num, by go_num⟩
    · have hjj : j = n := by omega
      subst hjj
      subst hq
      go_wp2
      go_ret
      exact ⟨rfl, below_drewN (Below.refl _ _) _⟩

end Go.Proofs.Ytkjikjeecjendaa

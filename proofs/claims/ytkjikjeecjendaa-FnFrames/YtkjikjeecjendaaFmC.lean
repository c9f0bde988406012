/- Frames: the program's put, number, fix, check and the specification's l9Check, l9Three, in numbers. No statement about the program stands here. -/
import Derived.Test.YtkjikjeecjendaaFmB
import Derived.Test.YtkjikjeecjendaaWalkF
import Derived.Test.YtkjikjeecjendaaExactKit
namespace Go.Proofs.Ytkjikjeecjendaa
open Go.RowKit

/-- The bytes L stand from ⟨b, o⟩ on. -/
def FrAt (w : World) (b o : Nat) (L : List Byte) : Prop := ∀ i, i < L.length → w.cell? ⟨b, o + i, none⟩ = some (eB (L.getD i default))
theorem ByIn.frAt {w : World} {b o n cap : Nat} {L : List Byte} (h : ByIn w (.slice (some ⟨b, o, none⟩) n cap) L) : FrAt w b o L := by
  obtain ⟨ao, c, e, h1, h2, h3⟩ := h
  simp only [Value.slice.injEq] at e
  obtain ⟨rfl, rfl, rfl⟩ := e
  intro i hi
  obtain ⟨b', o', e', hc⟩ := h3 i hi
  simp only [Option.some.injEq, Addr.mk.injEq, and_true] at e'
  obtain ⟨rfl, rfl⟩ := e'
  exact hc

/-- One step of the check, as the specification and as the program reckon it. -/
theorem crc1_hi {n : Nat} (h : n < 65536) (h' : 32768 ≤ n) : bits .xor .i64 (bits .and .i64 (2 * (n : Int)) 65535) 4129 = ((crc1 n : Nat) : Int) := by
  have e1 : (2 * (n : Int)) = ((2 * n : Nat) : Int) := by omega
  have e2 := i64_and_nat (2 * n) 65535 (by omega) (by omega)
  rw [show (2 * n) &&& 65535 = (2 * n) % 65536 from nat_mask16 _, show (2 * n) % 65536 = 2 * n - 65536 by omega] at e2
  rw [e1, show ((65535 : Int)) = ((65535 : Nat) : Int) from rfl, e2]
  have e3 := i64_xor_nat (2 * n - 65536) 4129 (by omega) (by omega)
  rw [show ((4129 : Int)) = ((4129 : Nat) : Int) from rfl, e3]
  unfold crc1
  rw [if_pos h']
theorem crc1_lo {n : Nat} (h' : ¬ 32768 ≤ n) : (2 * (n : Int)) = ((crc1 n : Nat) : Int) := by
  unfold crc1
  rw [if_neg h']
  omega
theorem crc1_u16 {n : Nat} (h : n < 65536) (h' : 32768 ≤ n) : bits .xor .u16 ((2 * n - 65536 : Nat) : Int) 4129 = ((crc1 n : Nat) : Int) := by
  rw [show ((4129 : Int)) = ((4129 : Nat) : Int) from rfl, u16_xor_nat _ _ (by omega) (by omega)]
  unfold crc1
  rw [if_pos h']
theorem crcX_i64 {n : Nat} (b : Byte) (h : n < 65536) : bits .xor .i64 (n : Int) ((b.val : Int) * 256) = ((n ^^^ (b.val * 256) : Nat) : Int) := by
  have hb := b.isLt
  rw [← i64_xor_nat n (b.val * 256) (by omega) (by omega)]
  congr 1
theorem crcX_u16 {n : Nat} (b : Byte) (h : n < 65536) : bits .xor .u16 (n : Int) ((b.val : Int) * 256) = ((n ^^^ (b.val * 256) : Nat) : Int) := by
  have hb := b.isLt
  rw [← u16_xor_nat n (b.val * 256) (by omega) (by omega)]
  congr 1

set_option maxHeartbeats 1600000 in
theorem l9Check_any (ao : Option Addr) (n cap : Nat) (L : List Byte) (w : World) (h : ByIn w (.slice ao n cap) L) (hl : 14 ≤ L.length) :
    Calls Try.prog 70 #[.slice ao n cap] w fun e w' => e = .returned (.int .i64 (crcL (L.take 14))) ∧ w' = w := by
  obtain ⟨ao', c, e, h1, h2, h3⟩ := h
  simp only [Value.slice.injEq] at e
  obtain ⟨rfl, rfl, rfl⟩ := e
  unfold maxLen at h2
  have HC := hide h3
  clear h3
  go_enter Try.func70, Try.ntmps70
  go_wp2
  go_loopg [3, 4] 14 (fun g nv iv wr => wr = w ∧ ∃ k : Nat, k ≤ 14 ∧ g = 14 - k ∧ iv = .int .i64 k ∧ nv = .int .i64 (crcL (L.take k)))
  case atStart => exact ⟨rfl, 0, Nat.zero_le _, rfl, rfl, rfl⟩
  case round =>
    obtain ⟨rfl, k, hk, rfl, rfl, rfl⟩ := hrel
    by_cases hkn : k < 14
    · obtain ⟨b, o, rfl, hcell⟩ := unhide HC k (by omega)
      have hx := crcX_i64 (L.getD k default) (crcL_lt (L.take k))
      have hST := hide (crc_step L (k := k) (by omega))
      have hlt := crcL_lt (L.take k)
      have hklen : (k : Int) < L.length := by omega
      generalize crcL (L.take k) = m at *
      generalize L.getD k default = z at *
      unfold eB at hcell
      have hz := z.isLt
      have hM : m ^^^ (z.val * 256) < 65536 := xor_lt16 hlt (by omega)
      unfold crcB at hST
      generalize z.val = zv at *
      generalize m ^^^ (zv * 256) = x0 at *
      go_wp2
      go_loopg [3, 5] 8 (fun g nv jv wr2 => wr2 = wr ∧ ∃ j : Nat, j ≤ 8 ∧ g = 8 - j ∧ jv = .int .i64 j ∧ nv = .int .i64 (crcI j x0))
      case atStart => exact ⟨rfl, 0, Nat.zero_le _, rfl, rfl, rfl⟩
      case round =>
        obtain ⟨rfl, j, hj, rfl, rfl, rfl⟩ := hrel
        by_cases hjn : j < 8
        · have hcl : crcI j x0 < 65536 := crcI_lt hM
          have hS2 := hide (crcI_succ j x0)
          generalize crcI j x0 = y at *
          by_cases hy : 32768 ≤ y
          · have e1 := crc1_hi hcl hy
            generalize crc1 y = y1 at *
            go_wp2
            go_roundg (8 - (j + 1))
            case measure => omega
            case rel => exact ⟨rfl, j + 1, by omega, rfl, by go_num, by rw [unhide hS2]⟩
          · have e1 := hide (crc1_lo hy)
            go_wp2
            go_roundg (8 - (j + 1))
            case measure => omega
            case rel => exact ⟨rfl, j + 1, by omega, rfl, by go_num, by rw [unhide hS2, ← unhide e1]⟩
        · have hjj : j = 8 := by omega
          subst hjj
          go_wp2
          go_roundg (14 - (k + 1))
          case measure => omega
          case rel => exact ⟨rfl, k + 1, by omega, rfl, by go_num, by rw [unhide hST]⟩
    · have hkk : k = 14 := by omega
      subst hkk
      go_wp2
      go_ret
      exact ⟨rfl, rfl⟩

end Go.Proofs.Ytkjikjeecjendaa

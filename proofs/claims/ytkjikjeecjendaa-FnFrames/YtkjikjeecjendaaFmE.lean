/- Frames: the program's put, report, PackReport, ReadReport. No statement about the program stands here. -/
import Derived.Test.YtkjikjeecjendaaFmD
import Derived.Test.YtkjikjeecjendaaFmA
import Derived.Test.YtkjikjeecjendaaRgI
namespace Go.Proofs.Ytkjikjeecjendaa
open Go.RowKit

/-- k bytes of the number stand, the lowest at t - 1. -/
def putB (L : List Byte) (t : Nat) (n : Int) : Nat → List Byte
  | 0 => L
  | k + 1 => (putB L t n k).set (t - 1 - k) (toB (n / 256 ^ k))
theorem putB_len (L : List Byte) (t : Nat) (n : Int) (k : Nat) : (putB L t n k).length = L.length := by
  induction k with
  | zero => rfl
  | succ k ih => simp [putB, ih]

set_option maxRecDepth 10000 in
set_option maxHeartbeats 1600000 in
theorem put_any (g : Nat) (L : List Byte) (f t : Nat) (n : Int) (w : World) (h : OwnV w g (L.map eB)) (hl : L.length = 16) (hft : f < t) (ht : t ≤ 16) :
    Calls Try.prog 52 #[.pointer (some ⟨g, 0, none⟩), .int .i64 f, .int .i64 t, .int .i64 n] w fun e w' => e = .returned (.tuple #[]) ∧ OwnV w' g ((putB L t n (t - f)).map eB) ∧ Kept (fun b => b = g) w w' := by
  have HO := hide h
  have HL := hide hl
  clear h hl
  go_enter Try.func52, Try.ntmps52
  go_wp2
  go_loopg [3, 8] (t - f) (fun gg nv iv wr => ∃ k : Nat, k ≤ t - f ∧ gg = t - f - k ∧ iv = .int .i64 ((t : Int) - 1 - k) ∧ nv = .int .i64 (n / 256 ^ k) ∧ OwnV wr g ((putB L t n k).map eB) ∧ Kept (fun b => b = g) w wr)
  case atStart => exact ⟨0, Nat.zero_le _, rfl, by congr 1; omega, by simp, unhide HO, Kept.refl _ _⟩
  case round =>
    obtain ⟨k, hk, rfl, rfl, rfl, hO, hK⟩ := hrel
    clear HO
    by_cases hkn : k < t - f
    · obtain ⟨i, hi⟩ : ∃ i : Nat, i = t - 1 - k := ⟨_, rfl⟩
      have ei : (t : Int) - 1 - k = (i : Int) := by omega
      have hi1 : i < 16 := by omega
      have hi2 : (f : Int) ≤ (i : Int) := by omega
      have hfz := hO.frozen i
      have hlen : i < (putB L t n k).length := by rw [putB_len, unhide HL]; exact hi1
      have hu := hO.cell (map_get (E := eB) (putB L t n k) (i := i) hlen)
      have hN := hO.set i (eB (toB (n / 256 ^ k))) (by rw [List.length_map]; exact hlen)
      have hS : (putB L t n k).set i (toB (n / 256 ^ k)) = putB L t n (k + 1) := by rw [hi]; rfl
      rw [← List.map_set, hS, eB_toB] at hN
      have hd : n / 256 ^ (k + 1) = (n / 256 ^ k) / 256 := by
        rw [Int.pow_succ, Int.ediv_ediv_of_nonneg (by exact Int.pow_nonneg (by omega))]
      have HD := hide hd
      have HN := hide hN
      have HK := hide (hK.setCell (p := ⟨g, i, none⟩) rfl (.int .u8 ((n / 256 ^ k) % 256)))
      have EI := hide hi
      rw [ei]
      clear hO hK hN hS hd hi hlen ei
      generalize (putB L t n k).getD i default = z0 at *
      generalize n / 256 ^ k = y at *
      have hw := wrap_byte y
      generalize y % 256 = y1 at *
      go_wp2
      go_roundg (t - f - (k + 1))
      case measure => omega
      case rel => exact ⟨k + 1, by omega, rfl, by have := unhide EI; go_num, by rw [unhide HD], unhide HN, unhide HK⟩
    · have hkk : k = t - f := by omega
      have HO2 := hide hO
      have HK2 := hide hK
      have hi2 : decide ((f : Int) ≤ (t : Int) - 1 - k) = false := by rw [decide_eq_false_iff_not]; omega
      rw [hkk] at HO2
      clear hO hK hkk
      go_wp2
      go_end0
      exact ⟨rfl, unhide HO2, unhide HK2⟩

end Go.Proofs.Ytkjikjeecjendaa

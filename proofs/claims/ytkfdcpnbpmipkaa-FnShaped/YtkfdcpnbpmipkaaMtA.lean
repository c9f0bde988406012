/- Contract of the laws' own markText: a text for each number. -/
import Derived.Test.YtkfdcpnbpmipkaaWalkC
import Derived.Laws.Concat
import Derived.Laws.BytesString
namespace Go.Proofs.Ytkfdcpnbpmipkaa
open Go.RowKit

def dB (n : Nat) : ByteArray := ByteArray.empty.push (UInt8.ofNat (48 + n % 10))
def digB (n : Nat) : ByteArray := if _h : n = 0 then ByteArray.empty else digB (n / 10) ++ dB n
termination_by n
decreasing_by omega
theorem digB_zero : digB 0 = ByteArray.empty := by rw [digB]; simp
theorem digB_pos {n : Nat} (h : 0 < n) : digB n = digB (n / 10) ++ dB n := by
  rw [digB, dif_neg (by omega)]
theorem dB_size (n : Nat) : (dB n).size = 1 := rfl
theorem digB_size : ∀ d n, n < 10 ^ d → (digB n).size ≤ d
  | 0, n, h => by
    have : n = 0 := by simpa using h
    subst this
    rw [digB_zero]
    exact Nat.le_refl _
  | d + 1, n, h => by
    by_cases h0 : n = 0
    · subst h0
      rw [digB_zero]
      exact Nat.zero_le _
    · rw [digB_pos (by omega), ByteArray.size_append, dB_size]
      have := digB_size d (n / 10) (by rw [Nat.pow_succ] at h; omega)
      omega
theorem byt_assoc (a b c : ByteArray) : a ++ b ++ c = a ++ (b ++ c) := by
  apply ByteArray.ext
  simp [ByteArray.data_append]
theorem byt_nil (a : ByteArray) : a ++ ⟨#[]⟩ = a := by
  apply ByteArray.ext
  simp [ByteArray.data_append]
theorem byt_nil' (a : ByteArray) : ByteArray.empty ++ a = a := by
  apply ByteArray.ext
  simp
theorem cv_dig (k : Nat) (dd : Int) (ed : dd = 48 + (k : Int) % 10) (wr : World) : (convert 22 9 (.slice (some ⟨wr.heap.size, 0, none⟩) 1 1)).run Try.prog (wr.alloc (.cells #[.int .u8 dd] 5)) = .ok (.string (dB k)) (wr.alloc (.cells #[.int .u8 dd] 5)) := by
  rw [run_convert_bytes_string _ _ _ _ _ _ _ Try.underlying22 Try.underlying5 Try.underlying9]
  rw [run_bytesToString _ _ _ _ [dd] (by simp [loadCells, go_sem])]
  have e : dd.toNat = 48 + k % 10 := by omega
  simp [dB, e]
/-- The text of a mark. -/
def mt (k : Int) : ByteArray := if k ≤ 0 then ⟨#[109, 48]⟩ else ⟨#[109]⟩ ++ digB k.toNat

end Go.Proofs.Ytkfdcpnbpmipkaa

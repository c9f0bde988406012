/- Contract of the laws' own markText: a text for each number. -/
import Derived.Test.YtjpogaidcmndoaaWalkC
import Derived.Laws.Concat
import Derived.Laws.BytesString
namespace Go.Proofs.Ytjpogaidcmndoaa
open Go.RowKit

def dB (n : Nat) : ByteArray := ByteArray.empty.push (UInt8.ofNat (48 + n % 10))
def digB (n : Nat) : ByteArray := if _h : n = 0 then ByteArray.empty else digB (n / 10) ++ dB n
termination_by n
decreasing_by omega
theorem digB_zero : digB 0 = ByteArray.empty := by rw [digB]; simp
theorem digB_pos {n : Nat} (h : 0 < n) : digB n = digB (n / 10) ++ dB n := by
  rw [digB, dif_neg (by omega)]
theorem dB_size (n : Nat) : (dB n).size = 1 := rfl
theorem digB_size : ∀ d n, n < 10 ^ d → (digB n).size ≤ d
  | 0, n, h => by
    have : n = 0 := by simpa using h
    subst this
    rw [digB_zero]
    exact Nat.le_refl _
  | d + 1, n, h => by
    by_cases h0 : n = 0
    · subst h0
      rw [digB_zero]
      exact Nat.zero_le _
    · rw [digB_pos (by omega), ByteArray.size_append, dB_size]
      have := digB_size d (n / 10) (by rw [Nat.pow_succ] at h; omega)
      omega
theorem byt_assoc (a b c : ByteArray) : a ++ b ++ c = a ++ (b ++ c) := by
  apply ByteArray.ext
  simp [ByteArray.data_append]
theorem byt_nil (a : ByteArray) : a ++ ⟨#[]⟩ = a := by
  apply ByteArray.ext
  simp [ByteArray.data_append]
theorem byt_nil' (a : ByteArray) : ByteArray.empty ++ a = a := by
  apply ByteArray.ext
  simp
theorem cv_dig (k : Nat) (dd : Int) (ed : dd = 48 + (k : Int) % 10) (wr : World) : (convert 22 9 (.slice (some ⟨wr.heap.size, 0, none⟩) 1 1)).run Try.prog (wr.alloc (.cells #[.int .u8 dd] 5)) = .ok (.string (dB k)) (wr.alloc (.cells #[.int .u8 dd] 5)) := by
  rw [run_convert_bytes_string _ _ _ _ _ _ _ Try.underlying22 Try.underlying5 Try.underlying9]
  rw [run_bytesToString _ _ _ _ [dd] (by simp [loadCells, go_sem])]
  have e : dd.toNat = 48 + k % 10 := by omega
  simp [dB, e]
/-- The text of a mark. -/
def mt (k : Int) : ByteArray := if k ≤ 0 then ⟨#[109, 48]⟩ else ⟨#[109]⟩ ++ digB k.toNat

set_option maxRecDepth 10000 in
set_option maxHeartbeats 1600000 in
theorem markText_any (k : Int) (w : World) (hk : k ≤ 4611686018427387904) :
    Calls Try.prog 43 #[.int .i64 k] w fun e w' => e = .returned (.string (mt k)) ∧ Below w.heap.size w w' := by
  by_cases h0 : k ≤ 0
  · have HM : Hid (mt k = ⟨#[109, 48]⟩) := by show _ = _; rw [mt, if_pos h0]
    go_enter Try.func43, Try.ntmps43
    go_wp2
    go_ret
    exact ⟨by rw [unhide HM]; rfl, Below.refl _ _⟩
  · have HM : Hid (mt k = ⟨#[109]⟩ ++ digB k.toNat) := by show _ = _; rw [mt, if_neg h0]
    obtain ⟨n, rfl⟩ := Int.eq_ofNat_of_zero_le (show 0 ≤ k by omega)
    rw [Int.toNat_natCast] at HM
    have hs : (digB n).size ≤ 19 := digB_size 19 n (by have : (10 : Nat) ^ 19 = 10000000000000000000 := by decide
                                                       omega)
    have HS := hide hs
    clear hs
    go_enter Try.func43, Try.ntmps43
    go_wp2
    go_loopg [0, 3] n (fun g kv ov wr => ∃ (k : Nat) (t : ByteArray), g = k ∧ k ≤ n ∧ kv = .int .i64 k ∧ ov = .string t ∧ digB n = digB k ++ t ∧ Below w.heap.size w wr)
    case atStart => exact ⟨n, _, rfl, Nat.le_refl _, rfl, rfl, by rw [byt_nil], Below.refl _ _⟩
    case round =>
      obtain ⟨k, t, hg, hkn, rfl, rfl, hD, hW⟩ := hrel
      have hg' := hg.symm
      subst hg'
      clear hg
      have hts : t.size ≤ 19 := by
        have := unhide HS
        rw [hD, ByteArray.size_append] at this
        omega
      have HD := hide hD
      have HW := hide hW
      clear hD hW
      by_cases hk0 : 0 < k
      · obtain ⟨dd, edd⟩ : ∃ d : Int, d = 48 + (k : Int) % 10 := ⟨_, rfl⟩
        have hcv := cv_dig k dd edd wr
        have HW1 := hide (Below.step (unhide HW) (Below.alloc1 wr (.cells #[.int .u8 dd] 5)))
        have HN : Hid (digB n = digB (k / 10) ++ (dB k ++ t)) := by show _ = _; rw [unhide HD, digB_pos hk0, byt_assoc]
        have q1 : IntKind.i64.wrap (48 + (k : Int) % 10) = dd := by rw [IntKind.wrap_i64]; omega
        have q1' : (48 + (k : Int) % 10) = dd := edd.symm
        have q2 : IntKind.u8.wrap dd = dd := by
          have hd : dd = 48 ∨ dd = 49 ∨ dd = 50 ∨ dd = 51 ∨ dd = 52 ∨ dd = 53 ∨ dd = 54 ∨ dd = 55 ∨ dd = 56 ∨ dd = 57 := by omega
          rcases hd with h | h | h | h | h | h | h | h | h | h <;> rw [h] <;> rfl
        have hds := dB_size k
        have hk0i : (0 : Int) < k := by omega
        clear edd
        generalize dB k = db at *
        go_wp2
        go_roundg (k / 10)
        case measure => omega
        case rel => exact ⟨k / 10, db ++ t, rfl, by omega, by congr 1, rfl, unhide HN, unhide HW1⟩
      · have hkk : k = 0 := by omega
        subst hkk
        have HE : Hid (t = digB n) := by show _ = _; rw [unhide HD, digB_zero, byt_nil']
        go_wp2
        go_ret
        exact ⟨by rw [unhide HM, ← unhide HE]; rfl, unhide HW⟩

end Go.Proofs.Ytjpogaidcmndoaa

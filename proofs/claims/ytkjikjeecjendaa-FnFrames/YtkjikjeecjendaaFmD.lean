/- Frames: the program's check, number, fix over a frame that stands in memory. No statement about the program stands here. -/
import Derived.Test.YtkjikjeecjendaaFmC
namespace Go.Proofs.Ytkjikjeecjendaa
open Go.RowKit

theorem wrap_u16_id {n : Nat} (h : n < 65536) : IntKind.u16.wrap (n : Int) = (n : Int) := by rw [IntKind.wrap_u16]; omega
theorem wrap_u16_hi {n : Nat} (h : n < 65536) (h' : 32768 ≤ n) : IntKind.u16.wrap ((n : Int) * 2) = ((2 * n - 65536 : Nat) : Int) := by rw [IntKind.wrap_u16]; omega
theorem wrap_u16_lo {n : Nat} (h' : ¬ 32768 ≤ n) : IntKind.u16.wrap ((n : Int) * 2) = ((crc1 n : Nat) : Int) := by
  rw [← crc1_lo h', IntKind.wrap_u16]; omega
theorem wrap_u16_sh {z : Nat} (h : z < 256) : IntKind.u16.wrap ((z : Int) * 256) = (z : Int) * 256 := by rw [IntKind.wrap_u16]; omega

set_option maxRecDepth 10000 in
set_option maxHeartbeats 1600000 in
theorem check_any (b o : Nat) (L : List Byte) (w : World) (h : FrAt w b o L) (hl : L.length = 16) :
    Calls Try.prog 53 #[.pointer (some ⟨b, o, none⟩)] w fun e w' => e = .returned (.int .i64 (crcL (L.take 14))) ∧ w' = w := by
  have HC := hide h
  have HL := hide hl
  clear h hl
  go_enter Try.func53, Try.ntmps53
  go_wp2
  go_loopg [3, 11] 14 (fun g nv iv wr => wr = w ∧ ∃ k : Nat, k ≤ 14 ∧ g = 14 - k ∧ iv = .int .i64 k ∧ nv = .int .u16 (crcL (L.take k)))
  case atStart => exact ⟨rfl, 0, Nat.zero_le _, rfl, rfl, rfl⟩
  case round =>
    obtain ⟨rfl, k, hk, rfl, rfl, rfl⟩ := hrel
    by_cases hkn : k < 14
    · have hcell := unhide HC k (by rw [unhide HL]; omega)
      have hx := crcX_u16 (L.getD k default) (crcL_lt (L.take k))
      have hST := hide (crc_step L (k := k) (by rw [unhide HL]; omega))
      have hlt := crcL_lt (L.take k)
      generalize crcL (L.take k) = m at *
      generalize L.getD k default = z at *
      unfold eB at hcell
      have hz := z.isLt
      have hM : m ^^^ (z.val * 256) < 65536 := xor_lt16 hlt (by omega)
      unfold crcB at hST
      generalize z.val = zv at *
      have hw1 := wrap_u16_sh hz
      have hw2 := wrap_u16_id (n := zv) (by omega)
      generalize m ^^^ (zv * 256) = x0 at *
      go_wp2
      go_loopg [3, 20] 8 (fun g nv jv wr2 => wr2 = wr ∧ ∃ j : Nat, j ≤ 8 ∧ g = 8 - j ∧ jv = .int .i64 j ∧ nv = .int .u16 (crcI j x0))
      case atStart => exact ⟨rfl, 0, Nat.zero_le _, rfl, rfl, rfl⟩
      case round =>
        obtain ⟨rfl, j, hj, rfl, rfl, rfl⟩ := hrel
        clear hx hw1 hw2 hcell
        by_cases hjn : j < 8
        · have hcl : crcI j x0 < 65536 := crcI_lt hM
          have hS2 := hide (crcI_succ j x0)
          generalize crcI j x0 = y at *
          by_cases hy : 32768 ≤ y
          · have e1 := crc1_u16 hcl hy
            have e2 := wrap_u16_hi hcl hy
            have e3 : decide ((32768 : Int) ≤ (y : Int)) = true := by rw [decide_eq_true_eq]; omega
            generalize 2 * y - 65536 = y2 at *
            generalize crc1 y = y1 at *
            clear hy hcl
            go_wp2
            go_roundg (8 - (j + 1))
            case measure => omega
            case rel => exact ⟨rfl, j + 1, by omega, rfl, by go_num, by rw [unhide hS2]⟩
          · have e1 := wrap_u16_lo hy
            have e3 : decide ((32768 : Int) ≤ (y : Int)) = false := by rw [decide_eq_false_iff_not]; omega
            generalize crc1 y = y1 at *
            clear hy hcl
            go_wp2
            go_roundg (8 - (j + 1))
            case measure => omega
            case rel => exact ⟨rfl, j + 1, by omega, rfl, by go_num, by rw [unhide hS2]⟩
        · have hjj : j = 8 := by omega
          subst hjj
          go_wp2
          go_roundg (14 - (k + 1))
          case measure => omega
          case rel => exact ⟨rfl, k + 1, by omega, rfl, by go_num, by rw [unhide hST]⟩
    · have hkk : k = 14 := by omega
      subst hkk
      have hlt := crcL_lt (L.take 14)
      go_wp2
      go_ret
      exact ⟨rfl, rfl⟩

/-- The number that the bytes tell, the highest first. -/
def numB (L : List Byte) : Nat := L.foldl (fun n b => n * 256 + b.val) 0
theorem numB_snoc (L : List Byte) (b : Byte) : numB (L ++ [b]) = numB L * 256 + b.val := by simp [numB, List.foldl_append]
theorem numB_lt (L : List Byte) : numB L < 256 ^ L.length := by
  have : ∀ (L : List Byte) (n k : Nat), n < 256 ^ k → L.foldl (fun n b => n * 256 + b.val) n < 256 ^ (k + L.length) := by
    intro L
    induction L with
    | nil => intro n k h; simpa using h
    | cons b L ih =>
      intro n k h
      rw [List.foldl_cons, List.length_cons, show k + (L.length + 1) = (k + 1) + L.length by omega]
      refine ih _ (k + 1) ?_
      have := b.isLt
      rw [Nat.pow_succ]
      omega
  have := this L 0 0 (by simp)
  rw [Nat.zero_add] at this
  exact this
def cutB (L : List Byte) (f t : Nat) : List Byte := (L.drop f).take (t - f)

theorem Try.arrF : Try.prog.underlying 136 = some (.array (Try.prog.arrayLen 136) (Try.prog.elem 136)) := by kernel_rfl
theorem Try.lenF : Try.prog.arrayLen 136 = 16 := by kernel_rfl
theorem Try.elF : Try.prog.elem 136 = 5 := by kernel_rfl
theorem Try.szF (w : World) : (sizeOf (Try.prog.elem 136)).run Try.prog w = .ok 1 w := by
  rw [Try.elF]
  simp [sizeOf, go_sem]
  rfl
theorem run_cutF (b o f t : Nat) (hft : f < t) (ht : t ≤ 16) (w : World) : (Instr.sliceAt 136 (.pointer (some ⟨b, o, none⟩)) (some (.int .i64 f)) (some (.int .i64 t)) none).run Try.prog w = .ok (.slice (some ⟨b, o + f, none⟩) (t - f) (16 - f)) w := by
  rw [run_sliceAt_array_lh w 136 ⟨b, o, none⟩ Try.arrF .i64 .i64 f t (by omega) (by omega) (by rw [Try.lenF]; omega), Try.lenF, Try.szF]
  simp [go_sem, slicedAt, Addr.add, show ¬ 16 = f by omega]

theorem cutB_len {L : List Byte} {f t : Nat} (hl : L.length = 16) (ht : t ≤ 16) : (cutB L f t).length = t - f := by simp [cutB, hl]; omega
theorem cutB_get {L : List Byte} {f t i : Nat} (hi : i < t - f) : (cutB L f t).getD i default = L.getD (f + i) default := by
  simp [cutB, List.getD, hi]

set_option maxRecDepth 10000 in
set_option maxHeartbeats 1600000 in
theorem number_any (b o : Nat) (L : List Byte) (f t : Nat) (w : World) (h : FrAt w b o L) (hl : L.length = 16) (hft : f < t) (ht : t ≤ 16) (h4 : t ≤ f + 4) :
    Calls Try.prog 57 #[.pointer (some ⟨b, o, none⟩), .int .i64 f, .int .i64 t] w fun e w' => e = .returned (.int .i64 (numB (cutB L f t))) ∧ w' = w := by
  have HC : Hid (∀ i, i < t - f → w.cell? ⟨b, o + f + i, none⟩ = some (eB ((cutB L f t).getD i default))) := fun i hi => by
    rw [cutB_get hi, Nat.add_assoc]
    exact h (f + i) (by omega)
  have hcl := cutB_len (f := f) hl ht
  clear h hl
  generalize cutB L f t = M at *
  have hs := run_cutF b o f t hft ht
  obtain ⟨m, hm⟩ : ∃ m, t - f = m := ⟨_, rfl⟩
  rw [hm] at HC hcl hs
  have hm4 : m ≤ 4 := by omega
  have HL := hide hcl
  clear hcl hm
  go_enter Try.func57, Try.ntmps57
  go_wp2
  clear hs
  go_loopg [7, 16] m (fun g nv iv wr => wr = w ∧ ∃ k : Nat, k ≤ m ∧ g = m - k ∧ iv = .int .i64 k ∧ nv = .int .i64 (numB (M.take k)))
  case atStart => exact ⟨rfl, 0, Nat.zero_le _, rfl, rfl, rfl⟩
  case round =>
    obtain ⟨rfl, k, hk, rfl, rfl, rfl⟩ := hrel
    by_cases hkn : k < m
    · have hcell := unhide HC k hkn
      have hS : numB (M.take (k + 1)) = numB (M.take k) * 256 + (M.getD k default).val := by rw [take_snoc M (by rw [unhide HL]; exact hkn), numB_snoc]
      have hlt : numB (M.take k) < 16777216 := by
        have h1 := numB_lt (M.take k)
        rw [List.length_take, unhide HL] at h1
        have h2 : 256 ^ (min k m) ≤ 256 ^ 3 := Nat.pow_le_pow_right (by omega) (by omega)
        omega
      have HS := hide hS
      clear hS
      generalize numB (M.take k) = y at *
      generalize M.getD k default = z at *
      unfold eB at hcell
      have hz := z.isLt
      generalize z.val = zv at *
      have hj := i64_join y zv (by omega) hz
      go_wp2
      go_roundg (m - (k + 1))
      case measure => omega
      case rel => exact ⟨rfl, k + 1, by omega, rfl, by go_num, by rw [unhide HS]; simp⟩
    · have hkk : k = m := by omega
      subst hkk
      have e : M.take k = M := List.take_of_length_le (by rw [unhide HL]; exact Nat.le_refl _)
      rw [e]
      go_wp2
      go_ret
      exact ⟨rfl, rfl⟩

/-- 24 bits as a number with a sign. -/
def fixB (n : Nat) : Int := if 8388607 < (n : Int) then (n : Int) - 16777216 else n

set_option maxRecDepth 10000 in
set_option maxHeartbeats 1600000 in
theorem fix_any (b o : Nat) (L : List Byte) (f t : Nat) (w : World) (h : FrAt w b o L) (hl : L.length = 16) (hft : f < t) (ht : t ≤ 16) (h4 : t = f + 3) :
    Calls Try.prog 80 #[.pointer (some ⟨b, o, none⟩), .int .i64 f, .int .i64 t] w fun e w' => e = .returned (.int .i64 (fixB (numB (cutB L f t)))) ∧ w' = w := by
  have HN := hide (number_any b o L f t w h hl hft ht (by omega))
  have hlt := numB_lt (cutB L f t)
  rw [cutB_len hl ht, h4, show f + 3 - f = 3 by omega, show 256 ^ 3 = 16777216 by decide] at hlt
  rw [h4] at HN ⊢
  clear h hl h4
  generalize numB (cutB L f (f + 3)) = n at *
  have HT : Hid (fixB n = if 8388607 < (n : Int) then (n : Int) - 16777216 else n) := rfl
  generalize fixB n = r at *
  generalize f + 3 = t' at *
  go_enter Try.func80, Try.ntmps80
  go_wp2_with fail
  refine (unhide HN).mono ?_
  rintro e w' ⟨rfl, h9⟩
  have h8 := h9.symm
  subst h8
  clear h9 HN
  by_cases hn : 8388607 < (n : Int)
  · rw [if_pos hn] at HT
    go_wp2
    go_ret
    exact ⟨by rw [unhide HT]; congr 2, rfl⟩
  · rw [if_neg hn] at HT
    go_wp2
    go_ret
    exact ⟨by rw [unhide HT]; rfl, rfl⟩

end Go.Proofs.Ytkjikjeecjendaa

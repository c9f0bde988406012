/- Records of Box (ints and texts): words; contracts of the laws' own szBox, szBoxS, toBox, toBoxS, eqBox, eqBoxS, markBoxS, heldBoxS. Written by wip/mkrecm.py. -/
import Derived.Test.YtdkfleodgdpckaaWalkF
import Derived.Test.YtdkfleodgdpckaaMrA
import Derived.Test.YtdkfleodgdpckaaMtA
import Derived.Test.YtdkfleodgdpckaaExactKit
namespace Go.Proofs.Ytdkfleodgdpckaa
open Go.RowKit

abbrev BoxT := ByteArray × Int × Int × Bool × Int × Int
def eBox (x : BoxT) : Nat → Value
  | 0 => .string x.1
  | 1 => .int .i64 x.2.1
  | 2 => .int .i64 x.2.2.1
  | 3 => .bool x.2.2.2.1
  | 4 => .int .i64 x.2.2.2.2.1
  | _ => .int .i64 x.2.2.2.2.2
def vBox (x0 : ByteArray) (x1 : Int) (x2 : Int) (x3 : Bool) (x4 : Int) (x5 : Int) : Value := .agg #[.string x0, .int .i64 x1, .int .i64 x2, .bool x3, .int .i64 x4, .int .i64 x5]
abbrev RBox := RecsIn 6 eBox
theorem recBoxAt {w : World} {ao : Option Addr} {L : List BoxT} {k : Nat} (h : ∀ i, i < L.length → ∃ b o, ao = some ⟨b, o, none⟩ ∧ ∀ j, j < 6 → w.cell? ⟨b, o + (i * 6 + j), none⟩ = some (eBox (L.getD i default) j)) (hk : k < L.length) :
    ∃ b o x0 x1 x2 x3 x4 x5, ao = some ⟨b, o, none⟩ ∧ w.cell? ⟨b, o + k * 6, none⟩ = some (.string x0) ∧ w.cell? ⟨b, o + k * 6 + 1, none⟩ = some (.int .i64 x1) ∧ w.cell? ⟨b, o + k * 6 + 2, none⟩ = some (.int .i64 x2) ∧ w.cell? ⟨b, o + k * 6 + 3, none⟩ = some (.bool x3) ∧ w.cell? ⟨b, o + k * 6 + 4, none⟩ = some (.int .i64 x4) ∧ w.cell? ⟨b, o + k * 6 + 5, none⟩ = some (.int .i64 x5) ∧ Hid (L.getD k default = (x0, x1, x2, x3, x4, x5)) := by
  obtain ⟨b, o, e, hc⟩ := h k hk
  exact ⟨b, o, _, _, _, _, _, _, e, hc 0 (by omega), hc 1 (by omega), hc 2 (by omega), hc 3 (by omega), hc 4 (by omega), hc 5 (by omega), rfl⟩
theorem Try.infoBox : (Try.prog.info? 27).map (fun i => (i.zero, i.size, i.bytes)) = some (some (vBox ⟨#[]⟩ 0 0 false 0 0), 6, 56) := by kernel_rfl

def txtBox (x : BoxT) : ByteArray := x.1
set_option maxHeartbeats 400000 in
theorem szBox_any (x0 : ByteArray) (x1 : Int) (x2 : Int) (x3 : Bool) (x4 : Int) (x5 : Int) (left : Int) (w : World) (h0 : 0 ≤ left) (h1 : left ≤ 1048576) (ht : x0.size ≤ maxLen) :
    Calls Try.prog 91 #[vBox x0 x1 x2 x3 x4 x5, .int .i64 left] w fun e w' => ∃ r, e = .returned (.int .i64 r) ∧ -1 ≤ r ∧ r ≤ 1048576 ∧ Below w.heap.size w w' := by
  unfold vBox
  unfold maxLen at ht
  obtain ⟨m, em⟩ : ∃ m : Nat, x0.size = m := ⟨_, rfl⟩
  rw [em] at ht
  have q : IntKind.i64.wrap (left - (m : Int)) = left - (m : Int) := by rw [IntKind.wrap_i64]; omega
  by_cases hlt : left < m
  · go_enter Try.func91, Try.ntmps91
    go_wp2
    go_ret
    exact ⟨_, rfl, by omega, by omega, Below.alloc1 _ _⟩
  · go_enter Try.func91, Try.ntmps91
    go_wp2
    go_ret
    exact ⟨_, rfl, by omega, by omega, Below.alloc1 _ _⟩

set_option maxHeartbeats 800000 in
theorem szBoxS_any (v : Value) (L : List BoxT) (left : Int) (w : World) (h : RBox w v L) (hT : ∀ i, i < L.length → (txtBox (L.getD i default)).size ≤ maxLen) (h0 : 0 ≤ left) (h1 : left ≤ 1048576) :
    Calls Try.prog 41 #[v, .int .i64 left] w fun e w' => ∃ r, e = .returned (.int .i64 r) ∧ SizedL L.length r ∧ Below w.heap.size w w' := by
  obtain ⟨ao, cap, rfl, hl, hm, hc⟩ := h
  unfold maxLen at hm
  have HC := hide hc
  have HTX := hide hT
  clear hc hT
  by_cases hlt : left < L.length
  · go_enter Try.func41, Try.ntmps41
    go_wp2
    go_ret
    exact ⟨_, rfl, ⟨by omega, by omega, fun h => by omega⟩, Below.refl _ _⟩
  · have hL : L.length ≤ 1048576 := by omega
    go_enter Try.func41, Try.ntmps41
    go_wp2
    go_loopg [1, 5] L.length (fun g lv iv wr => ∃ k : Nat, k ≤ L.length ∧ g = L.length - k ∧ iv = .int .i64 k ∧ (∃ l : Int, lv = .int .i64 l ∧ 0 ≤ l ∧ l ≤ 1048576) ∧ Below w.heap.size w wr)
    case atStart => exact ⟨0, Nat.zero_le _, rfl, rfl, ⟨_, rfl, by omega, by omega⟩, Below.refl _ _⟩
    case round =>
      obtain ⟨k, hk, rfl, rfl, ⟨l, rfl, hl0, hl1⟩, hW⟩ := hrel
      by_cases hkn : k < L.length
      · obtain ⟨b, o, x0, x1, x2, x3, x4, x5, rfl, hc0, hc1, hc2, hc3, hc4, hc5, EX⟩ := recBoxAt (unhide HC) hkn
        have hts := unhide HTX k hkn
        rw [unhide EX] at hts
        have g0 := wcell3 hc0 hW
        have g1 := wcell3 hc1 hW
        have g2 := wcell3 hc2 hW
        have g3 := wcell3 hc3 hW
        have g4 := wcell3 hc4 hW
        have g5 := wcell3 hc5 hW
        have HW := hide hW
        have HSZ := hide fun V => szBox_any x0 x1 x2 x3 x4 x5 l V hl0 hl1 hts
        unfold vBox at HSZ
        have hki : (k : Int) < L.length := by omega
        clear hc0 hc1 hc2 hc3 hc4 hc5 hW hts
        go_wp2_with fail
        refine (unhide HSZ _).mono ?_
        rintro e w1 ⟨r, rfl, hr0, hr1, hb⟩
        have HW1 := hide (Below.step (unhide HW) hb)
        clear hb HSZ HW
        by_cases hr : r < 0
        · go_wp2
          go_ret
          exact ⟨_, rfl, ⟨by omega, by omega, fun h => by omega⟩, unhide HW1⟩
        · go_wp2
          go_roundg (L.length - (k + 1))
          case measure => omega
          case rel => exact ⟨k + 1, by omega, rfl, by go_num, ⟨r, rfl, by omega, by omega⟩, unhide HW1⟩
      · have hki : ¬ (k : Int) < L.length := by omega
        go_wp2
        go_ret
        exact ⟨_, rfl, ⟨by omega, by omega, fun _ => hL⟩, hW⟩

set_option maxHeartbeats 800000 in
theorem toBox_any (x0 : ByteArray) (x1 : Int) (x2 : Int) (x3 : Bool) (x4 : Int) (x5 : Int) (w : World) :
    Calls Try.prog 92 #[vBox x0 x1 x2 x3 x4 x5] w fun e w' => e = .returned (vBox x0 x1 x2 x3 x4 x5) ∧ Below w.heap.size w w' := by
  unfold vBox
  go_enter Try.func92, Try.ntmps92
  go_wp2
  refine bodyPost_ret (v := vBox x0 x1 x2 x3 x4 x5) (by simp [results, Try.results92, go_sem, vBox]) rfl ⟨rfl, ?_⟩
  exact (((Below.refl _ _).alloc (Nat.le_refl _) _).alloc (by simp) _).alloc (by simp; omega) _

set_option maxHeartbeats 800000 in
theorem toBoxS_any (v : Value) (L : List BoxT) (w : World) (h : RBox w v L) (hs : L.length ≤ 1048576) :
    Calls Try.prog 42 #[v] w fun e w' => ∃ g, e = .returned (.slice (some ⟨g, 0, none⟩) L.length L.length) ∧ w.heap.size ≤ g ∧ OwnV w' g (recCells 6 eBox L) ∧ Below w.heap.size w w' := by
  obtain ⟨ao, cap, rfl, hl, hm, hc⟩ := h
  clear hl hm
  have HC := hide hc
  clear hc
  have hmk := run_make_recs (P := Try.prog) 45 27 _ 6 56 Try.underlying45 Try.infoBox .i64 .i64 L.length (by omega) (by omega)
  go_enter Try.func42, Try.ntmps42
  go_wp2
  clear hmk
  go_loopg [4] L.length (fun g i wr => ∃ k : Nat, k ≤ L.length ∧ g = L.length - k ∧ i = .int .i64 k ∧ FillC 6 eBox w wr L (k * 6))
  case atStart => exact ⟨0, Nat.zero_le _, rfl, rfl, by rw [Nat.zero_mul]; exact FillC.start w L _ _⟩
  case round =>
    obtain ⟨k, hk, rfl, rfl, hF⟩ := hrel
    by_cases hkn : k < L.length
    · obtain ⟨b, o, x0, x1, x2, x3, x4, x5, rfl, hc0, hc1, hc2, hc3, hc4, hc5, EX⟩ := recBoxAt (unhide HC) hkn
      have g0 := wcell3 hc0 hF.below
      have g1 := wcell3 hc1 hF.below
      have g2 := wcell3 hc2 hF.below
      have g3 := wcell3 hc3 hF.below
      have g4 := wcell3 hc4 hF.below
      have g5 := wcell3 hc5 hF.below
      have HF := hide hF
      clear hc0 hc1 hc2 hc3 hc4 hc5 hF
      have HT := hide fun V => toBox_any x0 x1 x2 x3 x4 x5 V
      unfold vBox at HT
      go_wp2_with fail
      refine (unhide HT _).mono ?_
      rintro e w1 ⟨rfl, hb⟩
      have hF1 := (unhide HF).grow hb
      have hf := hF1.frozen
      obtain ⟨u0', hu0⟩ := hF1.cell (q := k * 6) (by omega)
      obtain ⟨u1', hu1⟩ := hF1.cell (q := k * 6 + 1) (by omega)
      obtain ⟨u2', hu2⟩ := hF1.cell (q := k * 6 + 2) (by omega)
      obtain ⟨u3', hu3⟩ := hF1.cell (q := k * 6 + 3) (by omega)
      obtain ⟨u4', hu4⟩ := hF1.cell (q := k * 6 + 4) (by omega)
      obtain ⟨u5', hu5⟩ := hF1.cell (q := k * 6 + 5) (by omega)
      have HF1 := hide hF1
      clear hb HF hF1 HT
      go_wp2
      go_roundg (L.length - (k + 1))
      case measure => omega
      case rel =>
        refine ⟨k + 1, by omega, rfl, by go_num, ?_⟩
        have s0 := (unhide HF1).set (v := .string x0) (by omega) (by rw [show (k * 6) / 6 = k by omega, show (k * 6) % 6 = 0 by omega, unhide EX]; rfl)
        have s1 := s0.set (v := .int .i64 x1) (by omega) (by rw [show (k * 6 + 1) / 6 = k by omega, show (k * 6 + 1) % 6 = 1 by omega, unhide EX]; rfl)
        have s2 := s1.set (v := .int .i64 x2) (by omega) (by rw [show (k * 6 + 2) / 6 = k by omega, show (k * 6 + 2) % 6 = 2 by omega, unhide EX]; rfl)
        have s3 := s2.set (v := .bool x3) (by omega) (by rw [show (k * 6 + 3) / 6 = k by omega, show (k * 6 + 3) % 6 = 3 by omega, unhide EX]; rfl)
        have s4 := s3.set (v := .int .i64 x4) (by omega) (by rw [show (k * 6 + 4) / 6 = k by omega, show (k * 6 + 4) % 6 = 4 by omega, unhide EX]; rfl)
        have s5 := s4.set (v := .int .i64 x5) (by omega) (by rw [show (k * 6 + 5) / 6 = k by omega, show (k * 6 + 5) % 6 = 5 by omega, unhide EX]; rfl)
        rw [show (k + 1) * 6 = k * 6 + 6 by omega]
        exact s5
    · have hkk : k = L.length := by omega
      subst hkk
      go_wp2
      go_ret
      exact ⟨_, rfl, Nat.le_refl _, hF.done, hF.below⟩

set_option maxHeartbeats 800000 in
theorem eqBox_any (x0 : ByteArray) (x1 : Int) (x2 : Int) (x3 : Bool) (x4 : Int) (x5 : Int) (w : World) :
    Calls Try.prog 93 #[vBox x0 x1 x2 x3 x4 x5, vBox x0 x1 x2 x3 x4 x5] w fun e w' => e = .returned (.bool true) ∧ Below w.heap.size w w' := by
  unfold vBox
  go_enter Try.func93, Try.ntmps93
  go_wp2
  go_ret
  exact ⟨rfl, ((Below.refl _ _).alloc (Nat.le_refl _) _).alloc (by simp) _⟩

set_option maxHeartbeats 800000 in
theorem eqBoxS_any (v v' : Value) (L : List BoxT) (w : World) (h : RBox w v L) (h' : RBox w v' L) :
    Calls Try.prog 43 #[v, v'] w fun e w' => e = .returned (.bool true) ∧ Below w.heap.size w w' := by
  obtain ⟨ao, cap, rfl, hl, hm, hc⟩ := h
  obtain ⟨ao', cap', rfl, _, _, hc'⟩ := h'
  unfold maxLen at hm
  have HC := hide hc
  have HC' := hide hc'
  clear hc hc'
  go_enter Try.func43, Try.ntmps43
  go_wp2
  go_loopg [5] L.length (fun g i wr => Below w.heap.size w wr ∧ ∃ k : Nat, k ≤ L.length ∧ g = L.length - k ∧ i = .int .i64 k)
  case atStart => exact ⟨Below.refl _ _, 0, Nat.zero_le _, rfl, rfl⟩
  case round =>
    obtain ⟨hW, k, hk, rfl, rfl⟩ := hrel
    by_cases hkn : k < L.length
    · obtain ⟨b, o, x0, x1, x2, x3, x4, x5, rfl, hc0, hc1, hc2, hc3, hc4, hc5, EX⟩ := recBoxAt (unhide HC) hkn
      obtain ⟨b', o', x0', x1', x2', x3', x4', x5', rfl, hd0, hd1, hd2, hd3, hd4, hd5, EX'⟩ := recBoxAt (unhide HC') hkn
      have eX := (unhide EX).symm.trans (unhide EX')
      simp only [Prod.mk.injEq] at eX
      obtain ⟨rfl, rfl, rfl, rfl, rfl, rfl⟩ := eX
      have r0 := fun x' : Gr wr => gr_cell (wcell3 hc0 hW) x'
      have r0' := fun x' : Gr wr => gr_cell (wcell3 hd0 hW) x'
      have r1 := fun x' : Gr wr => gr_cell (wcell3 hc1 hW) x'
      have r1' := fun x' : Gr wr => gr_cell (wcell3 hd1 hW) x'
      have r2 := fun x' : Gr wr => gr_cell (wcell3 hc2 hW) x'
      have r2' := fun x' : Gr wr => gr_cell (wcell3 hd2 hW) x'
      have r3 := fun x' : Gr wr => gr_cell (wcell3 hc3 hW) x'
      have r3' := fun x' : Gr wr => gr_cell (wcell3 hd3 hW) x'
      have r4 := fun x' : Gr wr => gr_cell (wcell3 hc4 hW) x'
      have r4' := fun x' : Gr wr => gr_cell (wcell3 hd4 hW) x'
      have r5 := fun x' : Gr wr => gr_cell (wcell3 hc5 hW) x'
      have r5' := fun x' : Gr wr => gr_cell (wcell3 hd5 hW) x'
      have S1 := hide fun x' : Gr wr => eqBox_any x0 x1 x2 x3 x4 x5 x'.val
      unfold vBox at S1
      have HW := hide hW
      have gsome := gr_some wr
      clear hc0 hc1 hc2 hc3 hc4 hc5 hd0 hd1 hd2 hd3 hd4 hd5 hW
      go_wp2
      refine wp_region_grown (by kernel_rfl) (by kernel_rfl) ?_
      repeat (go_big_quiet_step (fail))
      go_big_quiet_want
      go_big_quiet_op
      go_big_quiet_call (exact calls_grown (unhide S1 _))
      repeat (go_big_quiet_step (fail))
      refine wpQuiet_nil ?_
      intro w1 hw1
      obtain ⟨z', hz⟩ := hw1
      have hb1 : Below wr.heap.size wr w1 := hz ▸ z'.ok
      clear hz gsome
      go_wp2
      go_roundg (L.length - (k + 1))
      case measure => omega
      case rel => exact ⟨Below.step (unhide HW) hb1, k + 1, by omega, rfl, by go_num⟩
    · go_wp2
      go_ret
      exact ⟨rfl, hW⟩

end Go.Proofs.Ytdkfleodgdpckaa

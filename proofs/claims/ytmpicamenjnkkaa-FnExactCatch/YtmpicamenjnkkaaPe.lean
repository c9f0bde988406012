/- Laid together out of: RNote, ChI, ChK, ChO. -/
import Derived.Test.YtmpicamenjnkkaaPa
import Derived.Test.YtmpicamenjnkkaaPb
import Derived.Test.YtmpicamenjnkkaaPc
import Derived.Test.YtmpicamenjnkkaaPd

/- Records of Note (ints and texts): words; contracts of the laws' own szNote, szNoteS, toNote, toNoteS, eqNote, eqNoteS, markNoteS, heldNoteS. Written by wip/mkrecm.py. -/
namespace Go.Proofs.Ytmpicamenjnkkaa
open Go.RowKit

abbrev NoteT := Int × Int × Int × Int × Int × ByteArray × Int
def eNote (x : NoteT) : Nat → Value
  | 0 => .int .i64 x.1
  | 1 => .int .i64 x.2.1
  | 2 => .int .i64 x.2.2.1
  | 3 => .int .i64 x.2.2.2.1
  | 4 => .int .i64 x.2.2.2.2.1
  | 5 => .string x.2.2.2.2.2.1
  | _ => .int .i64 x.2.2.2.2.2.2
def vNote (x0 : Int) (x1 : Int) (x2 : Int) (x3 : Int) (x4 : Int) (x5 : ByteArray) (x6 : Int) : Value := .agg #[.int .i64 x0, .int .i64 x1, .int .i64 x2, .int .i64 x3, .int .i64 x4, .string x5, .int .i64 x6]
abbrev RNote := RecsIn 7 eNote
theorem recNoteAt {w : World} {ao : Option Addr} {L : List NoteT} {k : Nat} (h : ∀ i, i < L.length → ∃ b o, ao = some ⟨b, o, none⟩ ∧ ∀ j, j < 7 → w.cell? ⟨b, o + (i * 7 + j), none⟩ = some (eNote (L.getD i default) j)) (hk : k < L.length) :
    ∃ b o x0 x1 x2 x3 x4 x5 x6, ao = some ⟨b, o, none⟩ ∧ w.cell? ⟨b, o + k * 7, none⟩ = some (.int .i64 x0) ∧ w.cell? ⟨b, o + k * 7 + 1, none⟩ = some (.int .i64 x1) ∧ w.cell? ⟨b, o + k * 7 + 2, none⟩ = some (.int .i64 x2) ∧ w.cell? ⟨b, o + k * 7 + 3, none⟩ = some (.int .i64 x3) ∧ w.cell? ⟨b, o + k * 7 + 4, none⟩ = some (.int .i64 x4) ∧ w.cell? ⟨b, o + k * 7 + 5, none⟩ = some (.string x5) ∧ w.cell? ⟨b, o + k * 7 + 6, none⟩ = some (.int .i64 x6) ∧ Hid (L.getD k default = (x0, x1, x2, x3, x4, x5, x6)) := by
  obtain ⟨b, o, e, hc⟩ := h k hk
  exact ⟨b, o, _, _, _, _, _, _, _, e, hc 0 (by omega), hc 1 (by omega), hc 2 (by omega), hc 3 (by omega), hc 4 (by omega), hc 5 (by omega), hc 6 (by omega), rfl⟩
theorem Try.infoNote : (Try.prog.info? 74).map (fun i => (i.zero, i.size, i.bytes)) = some (some (vNote 0 0 0 0 0 ⟨#[]⟩ 0), 7, 64) := by kernel_rfl

def txtNote (x : NoteT) : ByteArray := x.2.2.2.2.2.1
set_option maxHeartbeats 400000 in
theorem szNote_any (x0 : Int) (x1 : Int) (x2 : Int) (x3 : Int) (x4 : Int) (x5 : ByteArray) (x6 : Int) (left : Int) (w : World) (h0 : 0 ≤ left) (h1 : left ≤ 1048576) (ht : x5.size ≤ maxLen) :
    Calls Try.prog 96 #[vNote x0 x1 x2 x3 x4 x5 x6, .int .i64 left] w fun e w' => ∃ r, e = .returned (.int .i64 r) ∧ -1 ≤ r ∧ r ≤ 1048576 ∧ Below w.heap.size w w' := by
  unfold vNote
  unfold maxLen at ht
  obtain ⟨m, em⟩ : ∃ m : Nat, x5.size = m := ⟨_, rfl⟩
  rw [em] at ht
  have q : IntKind.i64.wrap (left - (m : Int)) = left - (m : Int) := by rw [IntKind.wrap_i64]; omega
  by_cases hlt : left < m
  · go_enter Try.func96, Try.ntmps96
    go_wp2
    go_ret
    exact ⟨_, rfl, by omega, by omega, Below.alloc1 _ _⟩
  · go_enter Try.func96, Try.ntmps96
    go_wp2
    go_ret
    exact ⟨_, rfl, by omega, by omega, Below.alloc1 _ _⟩

set_option maxHeartbeats 800000 in
theorem szNoteS_any (v : Value) (L : List NoteT) (left : Int) (w : World) (h : RNote w v L) (hT : ∀ i, i < L.length → (txtNote (L.getD i default)).size ≤ maxLen) (h0 : 0 ≤ left) (h1 : left ≤ 1048576) :
    Calls Try.prog 68 #[v, .int .i64 left] w fun e w' => ∃ r, e = .returned (.int .i64 r) ∧ SizedL L.length r ∧ Below w.heap.size w w' := by
  obtain ⟨ao, cap, rfl, hl, hm, hc⟩ := h
  unfold maxLen at hm
  have HC := hide hc
  have HTX := hide hT
  clear hc hT
  by_cases hlt : left < L.length
  · go_enter Try.func68, Try.ntmps68
    go_wp2
    go_ret
    exact ⟨_, rfl, ⟨by omega, by omega, fun h => by omega⟩, Below.refl _ _⟩
  · have hL : L.length ≤ 1048576 := by omega
    go_enter Try.func68, Try.ntmps68
    go_wp2
    go_loopg [1, 5] L.length (fun g lv iv wr => ∃ k : Nat, k ≤ L.length ∧ g = L.length - k ∧ iv = .int .i64 k ∧ (∃ l : Int, lv = .int .i64 l ∧ 0 ≤ l ∧ l ≤ 1048576) ∧ Below w.heap.size w wr)
    case atStart => exact ⟨0, Nat.zero_le _, rfl, rfl, ⟨_, rfl, by omega, by omega⟩, Below.refl _ _⟩
    case round =>
      obtain ⟨k, hk, rfl, rfl, ⟨l, rfl, hl0, hl1⟩, hW⟩ := hrel
      by_cases hkn : k < L.length
      · obtain ⟨b, o, x0, x1, x2, x3, x4, x5, x6, rfl, hc0, hc1, hc2, hc3, hc4, hc5, hc6, EX⟩ := recNoteAt (unhide HC) hkn
        have hts := unhide HTX k hkn
        rw [unhide EX] at hts
        have g0 := wcell3 hc0 hW
        have g1 := wcell3 hc1 hW
        have g2 := wcell3 hc2 hW
        have g3 := wcell3 hc3 hW
        have g4 := wcell3 hc4 hW
        have g5 := wcell3 hc5 hW
        have g6 := wcell3 hc6 hW
        have HW := hide hW
        have HSZ := hide fun V => szNote_any x0 x1 x2 x3 x4 x5 x6 l V hl0 hl1 hts
        unfold vNote at HSZ
        have hki : (k : Int) < L.length := by omega
        clear hc0 hc1 hc2 hc3 hc4 hc5 hc6 hW hts
        go_wp2_with fail
        refine (unhide HSZ _).mono ?_
        rintro e w1 ⟨r, rfl, hr0, hr1, hb⟩
        have HW1 := hide (Below.step (unhide HW) hb)
        clear hb HSZ HW
        by_cases hr : r < 0
        · go_wp2
          go_ret
          exact ⟨_, rfl, ⟨by omega, by omega, fun h => by omega⟩, unhide HW1⟩
        · go_wp2
          go_roundg (L.length - (k + 1))
          case measure => omega
          case rel => exact ⟨k + 1, by omega, rfl, by go_num, ⟨r, rfl, by omega, by omega⟩, unhide HW1⟩
      · have hki : ¬ (k : Int) < L.length := by omega
        go_wp2
        go_ret
        exact ⟨_, rfl, ⟨by omega, by omega, fun _ => hL⟩, hW⟩

set_option maxHeartbeats 800000 in
theorem toNote_any (x0 : Int) (x1 : Int) (x2 : Int) (x3 : Int) (x4 : Int) (x5 : ByteArray) (x6 : Int) (w : World) :
    Calls Try.prog 99 #[vNote x0 x1 x2 x3 x4 x5 x6] w fun e w' => e = .returned (vNote x0 x1 x2 x3 x4 x5 x6) ∧ Below w.heap.size w w' := by
  unfold vNote
  go_enter Try.func99, Try.ntmps99
  go_wp2
  refine bodyPost_ret (v := vNote x0 x1 x2 x3 x4 x5 x6) (by simp [results, Try.results99, go_sem, vNote]) rfl ⟨rfl, ?_⟩
  exact (((Below.refl _ _).alloc (Nat.le_refl _) _).alloc (by simp) _).alloc (by simp; omega) _

set_option maxHeartbeats 800000 in
theorem toNoteS_any (v : Value) (L : List NoteT) (w : World) (h : RNote w v L) (hs : L.length ≤ 1048576) :
    Calls Try.prog 73 #[v] w fun e w' => ∃ g, e = .returned (.slice (some ⟨g, 0, none⟩) L.length L.length) ∧ w.heap.size ≤ g ∧ OwnV w' g (recCells 7 eNote L) ∧ Below w.heap.size w w' := by
  obtain ⟨ao, cap, rfl, hl, hm, hc⟩ := h
  clear hl hm
  have HC := hide hc
  clear hc
  have hmk := run_make_recs (P := Try.prog) 33 74 _ 7 64 Try.underlying33 Try.infoNote .i64 .i64 L.length (by omega) (by omega)
  go_enter Try.func73, Try.ntmps73
  go_wp2
  clear hmk
  go_loopg [4] L.length (fun g i wr => ∃ k : Nat, k ≤ L.length ∧ g = L.length - k ∧ i = .int .i64 k ∧ FillC 7 eNote w wr L (k * 7))
  case atStart => exact ⟨0, Nat.zero_le _, rfl, rfl, by rw [Nat.zero_mul]; exact FillC.start w L _ _⟩
  case round =>
    obtain ⟨k, hk, rfl, rfl, hF⟩ := hrel
    by_cases hkn : k < L.length
    · obtain ⟨b, o, x0, x1, x2, x3, x4, x5, x6, rfl, hc0, hc1, hc2, hc3, hc4, hc5, hc6, EX⟩ := recNoteAt (unhide HC) hkn
      have g0 := wcell3 hc0 hF.below
      have g1 := wcell3 hc1 hF.below
      have g2 := wcell3 hc2 hF.below
      have g3 := wcell3 hc3 hF.below
      have g4 := wcell3 hc4 hF.below
      have g5 := wcell3 hc5 hF.below
      have g6 := wcell3 hc6 hF.below
      have HF := hide hF
      clear hc0 hc1 hc2 hc3 hc4 hc5 hc6 hF
      have HT := hide fun V => toNote_any x0 x1 x2 x3 x4 x5 x6 V
      unfold vNote at HT
      go_wp2_with fail
      refine (unhide HT _).mono ?_
      rintro e w1 ⟨rfl, hb⟩
      have hF1 := (unhide HF).grow hb
      have hf := hF1.frozen
      obtain ⟨u0', hu0⟩ := hF1.cell (q := k * 7) (by omega)
      obtain ⟨u1', hu1⟩ := hF1.cell (q := k * 7 + 1) (by omega)
      obtain ⟨u2', hu2⟩ := hF1.cell (q := k * 7 + 2) (by omega)
      obtain ⟨u3', hu3⟩ := hF1.cell (q := k * 7 + 3) (by omega)
      obtain ⟨u4', hu4⟩ := hF1.cell (q := k * 7 + 4) (by omega)
      obtain ⟨u5', hu5⟩ := hF1.cell (q := k * 7 + 5) (by omega)
      obtain ⟨u6', hu6⟩ := hF1.cell (q := k * 7 + 6) (by omega)
      have HF1 := hide hF1
      clear hb HF hF1 HT
      go_wp2
      go_roundg (L.length - (k + 1))
      case measure => omega
      case rel =>
        refine ⟨k + 1, by omega, rfl, by go_num, ?_⟩
        have s0 := (unhide HF1).set (v := .int .i64 x0) (by omega) (by rw [show (k * 7) / 7 = k by omega, show (k * 7) % 7 = 0 by omega, unhide EX]; rfl)
        have s1 := s0.set (v := .int .i64 x1) (by omega) (by rw [show (k * 7 + 1) / 7 = k by omega, show (k * 7 + 1) % 7 = 1 by omega, unhide EX]; rfl)
        have s2 := s1.set (v := .int .i64 x2) (by omega) (by rw [show (k * 7 + 2) / 7 = k by omega, show (k * 7 + 2) % 7 = 2 by omega, unhide EX]; rfl)
        have s3 := s2.set (v := .int .i64 x3) (by omega) (by rw [show (k * 7 + 3) / 7 = k by omega, show (k * 7 + 3) % 7 = 3 by omega, unhide EX]; rfl)
        have s4 := s3.set (v := .int .i64 x4) (by omega) (by rw [show (k * 7 + 4) / 7 = k by omega, show (k * 7 + 4) % 7 = 4 by omega, unhide EX]; rfl)
        have s5 := s4.set (v := .string x5) (by omega) (by rw [show (k * 7 + 5) / 7 = k by omega, show (k * 7 + 5) % 7 = 5 by omega, unhide EX]; rfl)
        have s6 := s5.set (v := .int .i64 x6) (by omega) (by rw [show (k * 7 + 6) / 7 = k by omega, show (k * 7 + 6) % 7 = 6 by omega, unhide EX]; rfl)
        rw [show (k + 1) * 7 = k * 7 + 7 by omega]
        exact s6
    · have hkk : k = L.length := by omega
      subst hkk
      go_wp2
      go_ret
      exact ⟨_, rfl, Nat.le_refl _, hF.done, hF.below⟩

set_option maxHeartbeats 800000 in
theorem eqNote_any (x0 : Int) (x1 : Int) (x2 : Int) (x3 : Int) (x4 : Int) (x5 : ByteArray) (x6 : Int) (w : World) :
    Calls Try.prog 101 #[vNote x0 x1 x2 x3 x4 x5 x6, vNote x0 x1 x2 x3 x4 x5 x6] w fun e w' => e = .returned (.bool true) ∧ Below w.heap.size w w' := by
  unfold vNote
  go_enter Try.func101, Try.ntmps101
  go_wp2
  go_ret
  exact ⟨rfl, ((Below.refl _ _).alloc (Nat.le_refl _) _).alloc (by simp) _⟩

set_option maxHeartbeats 800000 in
theorem eqNoteS_any (v v' : Value) (L : List NoteT) (w : World) (h : RNote w v L) (h' : RNote w v' L) :
    Calls Try.prog 75 #[v, v'] w fun e w' => e = .returned (.bool true) ∧ Below w.heap.size w w' := by
  obtain ⟨ao, cap, rfl, hl, hm, hc⟩ := h
  obtain ⟨ao', cap', rfl, _, _, hc'⟩ := h'
  unfold maxLen at hm
  have HC := hide hc
  have HC' := hide hc'
  clear hc hc'
  go_enter Try.func75, Try.ntmps75
  go_wp2
  go_loopg [5] L.length (fun g i wr => Below w.heap.size w wr ∧ ∃ k : Nat, k ≤ L.length ∧ g = L.length - k ∧ i = .int .i64 k)
  case atStart => exact ⟨Below.refl _ _, 0, Nat.zero_le _, rfl, rfl⟩
  case round =>
    obtain ⟨hW, k, hk, rfl, rfl⟩ := hrel
    by_cases hkn : k < L.length
    · obtain ⟨b, o, x0, x1, x2, x3, x4, x5, x6, rfl, hc0, hc1, hc2, hc3, hc4, hc5, hc6, EX⟩ := recNoteAt (unhide HC) hkn
      obtain ⟨b', o', x0', x1', x2', x3', x4', x5', x6', rfl, hd0, hd1, hd2, hd3, hd4, hd5, hd6, EX'⟩ := recNoteAt (unhide HC') hkn
      have eX := (unhide EX).symm.trans (unhide EX')
      simp only [Prod.mk.injEq] at eX
      obtain ⟨rfl, rfl, rfl, rfl, rfl, rfl, rfl⟩ := eX
      have r0 := fun x' : Gr wr => gr_cell (wcell3 hc0 hW) x'
      have r0' := fun x' : Gr wr => gr_cell (wcell3 hd0 hW) x'
      have r1 := fun x' : Gr wr => gr_cell (wcell3 hc1 hW) x'
      have r1' := fun x' : Gr wr => gr_cell (wcell3 hd1 hW) x'
      have r2 := fun x' : Gr wr => gr_cell (wcell3 hc2 hW) x'
      have r2' := fun x' : Gr wr => gr_cell (wcell3 hd2 hW) x'
      have r3 := fun x' : Gr wr => gr_cell (wcell3 hc3 hW) x'
      have r3' := fun x' : Gr wr => gr_cell (wcell3 hd3 hW) x'
      have r4 := fun x' : Gr wr => gr_cell (wcell3 hc4 hW) x'
      have r4' := fun x' : Gr wr => gr_cell (wcell3 hd4 hW) x'
      have r5 := fun x' : Gr wr => gr_cell (wcell3 hc5 hW) x'
      have r5' := fun x' : Gr wr => gr_cell (wcell3 hd5 hW) x'
      have r6 := fun x' : Gr wr => gr_cell (wcell3 hc6 hW) x'
      have r6' := fun x' : Gr wr => gr_cell (wcell3 hd6 hW) x'
      have S1 := hide fun x' : Gr wr => eqNote_any x0 x1 x2 x3 x4 x5 x6 x'.val
      unfold vNote at S1
      have HW := hide hW
      have gsome := gr_some wr
      clear hc0 hc1 hc2 hc3 hc4 hc5 hc6 hd0 hd1 hd2 hd3 hd4 hd5 hd6 hW
      go_wp2
      refine wp_region_grown (by kernel_rfl) (by kernel_rfl) ?_
      repeat (go_big_quiet_step (fail))
      go_big_quiet_want
      go_big_quiet_op
      go_big_quiet_call (exact calls_grown (unhide S1 _))
      repeat (go_big_quiet_step (fail))
      refine wpQuiet_nil ?_
      intro w1 hw1
      obtain ⟨z', hz⟩ := hw1
      have hb1 : Below wr.heap.size wr w1 := hz ▸ z'.ok
      clear hz gsome
      go_wp2
      go_roundg (L.length - (k + 1))
      case measure => omega
      case rel => exact ⟨Below.step (unhide HW) hb1, k + 1, by omega, rfl, by go_num⟩
    · go_wp2
      go_ret
      exact ⟨rfl, hW⟩

/-- The marks of NoteS, from k on. -/
def mkNote (k : Int) (q : Nat) : Value := if q % 7 = 5 then .string (mt (k + (q : Int))) else .int .i64 (k + (q : Int))

set_option maxRecDepth 10000 in
set_option maxHeartbeats 1600000 in
theorem markNoteS_any (g cap n : Nat) (vs : List Value) (k : Int) (w : World) (h : OwnV w g vs) (hv : n * 7 ≤ vs.length) (hn : n ≤ 1048576) (hk0 : 0 ≤ k) (hk1 : k ≤ 1152921504606846976) :
    Calls Try.prog 77 #[.slice (some ⟨g, 0, none⟩) n cap, .int .i64 k] w fun e w' => e = .returned (.int .i64 (k + 7 * (n : Int))) ∧ Kept (fun b => b = g) w w' ∧ OwnV w' g ((List.range (n * 7)).map (mkNote k)) := by
  have HM0 := hide (MarkF.start (f := mkNote k) h hv)
  clear h hv
  go_enter Try.func77, Try.ntmps77
  go_wp2
  go_loopg [1, 5] n (fun gh kv iv wr => ∃ j : Nat, j ≤ n ∧ gh = n - j ∧ iv = .int .i64 j ∧ kv = .int .i64 (k + 7 * (j : Int)) ∧ Kept (fun b => b = g) w wr ∧ MarkF (mkNote k) g (n * 7) (j * 7) wr)
  case atStart => exact ⟨0, Nat.zero_le _, rfl, rfl, by congr 1; omega, Kept.refl _ _, by rw [Nat.zero_mul]; exact unhide HM0⟩
  case round =>
    obtain ⟨j, hj, rfl, rfl, rfl, hK, hM⟩ := hrel
    clear HM0
    by_cases hjn : j < n
    · have hf := hM.frozen
      obtain ⟨u0', hu0⟩ := hM.cell (q := j * 7) (by omega)
      obtain ⟨u1', hu1⟩ := hM.cell (q := j * 7 + 1) (by omega)
      obtain ⟨u2', hu2⟩ := hM.cell (q := j * 7 + 2) (by omega)
      obtain ⟨u3', hu3⟩ := hM.cell (q := j * 7 + 3) (by omega)
      obtain ⟨u4', hu4⟩ := hM.cell (q := j * 7 + 4) (by omega)
      obtain ⟨u5', hu5⟩ := hM.cell (q := j * 7 + 5) (by omega)
      obtain ⟨u6', hu6⟩ := hM.cell (q := j * 7 + 6) (by omega)
      have HM := hide hM
      have HK := hide hK
      have HTX := hide fun V => markText_any (k + 7 * (j : Int) + 1 + 1 + 1 + 1 + 1) V (by omega)
      have hjni : (j : Int) < n := by omega
      clear hM hK
      go_wp2_with fail
      refine (unhide HTX _).mono ?_
      rintro e w1 ⟨rfl, hb⟩
      have s0 := (unhide HM).set (v := (.int .i64 (k + 7 * (j : Int)))) (by omega) (by unfold mkNote; rw [if_neg (by omega)]; congr 1; omega)
      have s1 := s0.set (v := (.int .i64 (k + 7 * (j : Int) + 1))) (by omega) (by unfold mkNote; rw [if_neg (by omega)]; congr 1; omega)
      have s2 := s1.set (v := (.int .i64 (k + 7 * (j : Int) + 1 + 1))) (by omega) (by unfold mkNote; rw [if_neg (by omega)]; congr 1; omega)
      have s3 := s2.set (v := (.int .i64 (k + 7 * (j : Int) + 1 + 1 + 1))) (by omega) (by unfold mkNote; rw [if_neg (by omega)]; congr 1; omega)
      have s4 := s3.set (v := (.int .i64 (k + 7 * (j : Int) + 1 + 1 + 1 + 1))) (by omega) (by unfold mkNote; rw [if_neg (by omega)]; congr 1; omega)
      have HM1 := hide (s4.grow hb)
      have HK1 := hide (Kept.trans ((((((unhide HK).setCell (p := ⟨g, j * 7, none⟩) rfl _).setCell (p := ⟨g, j * 7 + 1, none⟩) rfl _).setCell (p := ⟨g, j * 7 + 2, none⟩) rfl _).setCell (p := ⟨g, j * 7 + 3, none⟩) rfl _).setCell (p := ⟨g, j * 7 + 4, none⟩) rfl _) (kept_of_below hb))
      clear hb HM HK HTX s0 s1 s2 s3 s4 hu0 hu1 hu2 hu3 hu4 hu5 hu6 hf
      have hf := (unhide HM1).frozen
      obtain ⟨t5', ht5⟩ := (unhide HM1).cell (q := j * 7 + 5) (by omega)
      obtain ⟨t6', ht6⟩ := (unhide HM1).cell (q := j * 7 + 6) (by omega)
      have HT : Hid (mkNote k (j * 7 + 5) = .string (mt (k + 7 * (j : Int) + 1 + 1 + 1 + 1 + 1))) := by
        show _ = _
        unfold mkNote
        rw [if_pos (by omega)]
        congr 2
        omega
      generalize mt (k + 7 * (j : Int) + 1 + 1 + 1 + 1 + 1) = tx at *
      go_wp2
      go_roundg (n - (j + 1))
      case measure => omega
      case rel =>
        have s5 := (unhide HM1).set (v := (.string tx)) (by omega) (unhide HT).symm
        have s6 := s5.set (v := (.int .i64 (k + 7 * (j : Int) + 1 + 1 + 1 + 1 + 1 + 1))) (by omega) (by unfold mkNote; rw [if_neg (by omega)]; congr 1; omega)
        refine ⟨j + 1, by omega, rfl, by go_num, by congr 1; omega, (((unhide HK1).setCell (p := ⟨g, j * 7 + 5, none⟩) rfl _).setCell (p := ⟨g, j * 7 + 6, none⟩) rfl _), ?_⟩
        rw [show (j + 1) * 7 = j * 7 + 7 by omega]
        exact s6
    · have hjj : j = n := by omega
      subst hjj
      go_wp2
      go_ret
      exact ⟨rfl, hK, hM.done⟩

end Go.Proofs.Ytmpicamenjnkkaa

/- Updates: words; contracts of the laws' own szUpdate, toUpdate, eqUpdate, markUpdate. -/
namespace Go.Proofs.Ytmpicamenjnkkaa
open Go.RowKit

def vUpdate (ed : Int) (nv : Value) : Value := .agg #[.int .i64 ed, nv]

set_option maxHeartbeats 1600000 in
theorem szUpdate_any (ed : Int) (nao : Option Addr) (nn nc : Nat) (U : List NoteT) (left : Int) (w : World) (hN : RNote w (.slice nao nn nc) U) (hT : ∀ i, i < U.length → (txtNote (U.getD i default)).size ≤ maxLen) (h0 : 0 ≤ left) (h1 : left ≤ 1048576) :
    Calls Try.prog 21 #[vUpdate ed (.slice nao nn nc), .int .i64 left] w fun e w' => ∃ r, e = .returned (.int .i64 r) ∧ SizedL U.length r ∧ Below w.heap.size w w' := by
  have A := Below.alloc1 w (.cells #[.int .i64 ed, .slice nao nn nc] 52)
  have HSZ := hide (szNoteS_any _ U left _ (hN.below A) hT h0 h1)
  have HW := hide A
  clear A hN hT
  unfold vUpdate
  go_enter Try.func21, Try.ntmps21
  go_wp2_with fail
  refine (unhide HSZ).mono ?_
  rintro e w2 ⟨r, rfl, ⟨hr1, hr2, hr3⟩, hb⟩
  replace HW := hide (Below.step (unhide HW) hb)
  clear hb HSZ
  by_cases hr : r < 0
  · go_wp2
    go_ret
    exact ⟨_, rfl, ⟨by omega, by omega, fun h => by omega⟩, unhide HW⟩
  · go_wp2
    go_ret
    exact ⟨_, rfl, ⟨by omega, by omega, fun h => hr3 h⟩, unhide HW⟩

set_option maxRecDepth 10000 in
set_option maxHeartbeats 1600000 in
theorem toUpdate_any (ed : Int) (nao : Option Addr) (nn nc : Nat) (U : List NoteT) (w : World) (hN : RNote w (.slice nao nn nc) U) (hsN : U.length ≤ 1048576) :
    Calls Try.prog 24 #[vUpdate ed (.slice nao nn nc)] w fun e w' => ∃ g, e = .returned (vUpdate ed (.slice (some ⟨g, 0, none⟩) U.length U.length)) ∧ w.heap.size ≤ g ∧ OwnV w' g (recCells 7 eNote U) ∧ Below w.heap.size w w' := by
  have HN := hide hN
  have HH := hide (b3_new w #[.int .i64 ed, .slice nao nn nc] #[.int .i64 0, .slice none 0 0] #[.int .i64 ed, .slice none 0 0] 52 35 35)
  clear hN
  unfold vUpdate
  go_enter Try.func24, Try.ntmps24
  go_wp2_with fail
  refine (toNoteS_any _ U _ ((unhide HN).below (unhide HH).below) hsN).mono ?_
  rintro e w2 ⟨g2, rfl, hg2, hO2, hb⟩
  have hg := (unhide HH).o3.lt
  replace HH := hide ((unhide HH).step hb)
  have HO2 := hide hO2
  have hg3 : w.heap.size + 1 + 1 < g2 := by omega
  clear hb hO2 hg2 hg HN
  have c0 := (unhide HH).o3.cell (i := 0) rfl
  have c1 := (unhide HH).o3.cell (i := 1) rfl
  have cf := (unhide HH).o3.frozen
  have HH1 := hide ((unhide HH).put3 1 (.slice (some ⟨g2, 0, none⟩) U.length U.length) (by simp))
  have e0 := (unhide HH1).o3.cell (i := 0) rfl
  have e1 := (unhide HH1).o3.cell (i := 1) rfl
  have d0 := (unhide HH1).o2.cell (i := 0) rfl
  have d1 := (unhide HH1).o2.cell (i := 1) rfl
  have df := (unhide HH1).o2.frozen
  have HH2 := hide (((unhide HH1).put2 0 (.int .i64 ed) (by simp)).put2 1 (.slice (some ⟨g2, 0, none⟩) U.length U.length) (by simp))
  have hq2 : g2 ≠ w.heap.size + 1 + 1 := by omega
  have hq4 : g2 ≠ w.heap.size + 1 := by omega
  have HO2' := hide (farN (farN (farN (unhide HO2) hq2 1 (.slice (some ⟨g2, 0, none⟩) U.length U.length)) hq4 0 (.int .i64 ed)) hq4 1 (.slice (some ⟨g2, 0, none⟩) U.length U.length))
  have hn1 : ¬ w.heap.size + 1 = w.heap.size + 1 + 1 := by omega
  have hn2 : ¬ w.heap.size + 1 + 1 = w.heap.size + 1 := by omega
  go_wp2
  have k0 := (unhide HH2).o2.cell (i := 0) rfl
  have k1 := (unhide HH2).o2.cell (i := 1) rfl
  refine bodyPost_ret (v := vUpdate ed (.slice (some ⟨g2, 0, none⟩) U.length U.length)) (by simp [results, Try.results24, go_sem, vUpdate, k0, k1]) rfl ⟨g2, rfl, by omega, unhide HO2', (unhide HH2).below⟩

set_option maxHeartbeats 1600000 in
theorem eqUpdate_any (ed : Int) (nao : Option Addr) (nn nc : Nat) (nao' : Option Addr) (nn' nc' : Nat) (U : List NoteT) (w : World) (hN : RNote w (.slice nao nn nc) U) (hN' : RNote w (.slice nao' nn' nc') U) :
    Calls Try.prog 26 #[vUpdate ed (.slice nao nn nc), vUpdate ed (.slice nao' nn' nc')] w fun e w' => e = .returned (.bool true) ∧ Below w.heap.size w w' := by
  have A := Below.step (Below.alloc1 w (.cells #[.int .i64 ed, .slice nao nn nc] 35)) (Below.alloc1 _ (.cells #[.int .i64 ed, .slice nao' nn' nc'] 35))
  have HE := hide (eqNoteS_any _ _ U _ (hN.below A) (hN'.below A))
  have HW := hide A
  clear A hN hN'
  unfold vUpdate
  go_enter Try.func26, Try.ntmps26
  go_wp2_with fail
  refine (unhide HE).mono ?_
  rintro e w2 ⟨rfl, hb⟩
  replace HW := hide (Below.step (unhide HW) hb)
  clear hb HE
  go_wp2
  go_ret
  exact ⟨rfl, unhide HW⟩

set_option maxHeartbeats 1600000 in
theorem markUpdate_any (ed : Int) (g cap : Nat) (U : List NoteT) (k : Int) (w : World) (h : OwnV w g (recCells 7 eNote U)) (hn : U.length ≤ 1048576) (hk0 : 0 ≤ k) (hk1 : k ≤ 1073741824) :
    Calls Try.prog 28 #[vUpdate ed (.slice (some ⟨g, 0, none⟩) U.length cap), .int .i64 k] w fun e w' => e = .returned (.int .i64 (k + 7 * (U.length : Int))) ∧ Kept (fun b => b = g) w w' := by
  have A := Below.alloc1 w (.cells #[.int .i64 ed, .slice (some ⟨g, 0, none⟩) U.length cap] 35)
  have HM := hide (markNoteS_any g cap U.length _ k _ (h.step A) (by rw [recCells_length]; omega) hn hk0 (by omega))
  have HK := hide (kept_of_below (T := fun b => b = g) A)
  clear A h
  unfold vUpdate
  go_enter Try.func28, Try.ntmps28
  go_wp2_with fail
  refine (unhide HM).mono ?_
  rintro e w2 ⟨rfl, hk, -⟩
  have HK2 := hide (Kept.trans (unhide HK) hk)
  clear hk HM HK
  go_wp2
  go_ret
  exact ⟨rfl, unhide HK2⟩

end Go.Proofs.Ytmpicamenjnkkaa

/- Lists of updates: words; a contract of the laws' own szUpdateS. No statement about the program stands here. -/
namespace Go.Proofs.Ytmpicamenjnkkaa
open Go.RowKit

abbrev UpT := Int × List NoteT
/-- v is a list of the updates L: each with its number and its notes. -/
def UpsIn (w : World) (v : Value) (L : List UpT) : Prop :=
  ∃ ao cap, v = .slice ao L.length cap ∧ L.length ≤ cap ∧ cap ≤ maxLen ∧ ∀ i, i < L.length → ∃ b o na nc, ao = some ⟨b, o, none⟩ ∧ w.cell? ⟨b, o + i * 2, none⟩ = some (.int .i64 (L.getD i default).1) ∧
    w.cell? ⟨b, o + i * 2 + 1, none⟩ = some (.slice na (L.getD i default).2.length nc) ∧ RNote w (.slice na (L.getD i default).2.length nc) (L.getD i default).2

theorem UpsIn.below {w w' : World} {v : Value} {L : List UpT} (h : UpsIn w v L) (hb : Below w.heap.size w w') : UpsIn w' v L := by
  obtain ⟨ao, cap, e, h1, h2, h3⟩ := h
  refine ⟨ao, cap, e, h1, h2, fun i hi => ?_⟩
  obtain ⟨b, o, na, nc, ea, c0, c1, hr⟩ := h3 i hi
  exact ⟨b, o, na, nc, ea, wcell3 c0 hb, wcell3 c1 hb, hr.below hb⟩
theorem upsIn_nil {w : World} : UpsIn w (.slice none 0 0) [] := ⟨none, 0, rfl, Nat.le_refl _, Nat.zero_le _, fun i hi => by simp at hi⟩

def SizedU (L : List UpT) (r : Int) : Prop := -1 ≤ r ∧ r ≤ 1048576 ∧ (0 ≤ r → L.length ≤ 1048576 ∧ ∀ i, i < L.length → (L.getD i default).2.length ≤ 1048576)

set_option maxHeartbeats 1600000 in
theorem szUpdateS_any (v : Value) (L : List UpT) (left : Int) (w : World) (h : UpsIn w v L) (hT : ∀ i, i < L.length → ∀ j, j < (L.getD i default).2.length → (txtNote ((L.getD i default).2.getD j default)).size ≤ maxLen) (h0 : 0 ≤ left) (h1 : left ≤ 1048576) :
    Calls Try.prog 30 #[v, .int .i64 left] w fun e w' => ∃ r, e = .returned (.int .i64 r) ∧ SizedU L r ∧ Below w.heap.size w w' := by
  obtain ⟨ao, cap, rfl, hl, hm, hc⟩ := h
  unfold maxLen at hm
  have HC := hide hc
  have HTX := hide hT
  clear hc hT
  by_cases hlt : left < L.length
  · go_enter Try.func30, Try.ntmps30
    go_wp2
    go_ret
    exact ⟨_, rfl, ⟨by omega, by omega, fun h => by omega⟩, Below.refl _ _⟩
  · have hL : L.length ≤ 1048576 := by omega
    go_enter Try.func30, Try.ntmps30
    go_wp2
    go_loopg [1, 5] L.length (fun g lv iv wr => ∃ k : Nat, k ≤ L.length ∧ g = L.length - k ∧ iv = .int .i64 k ∧ (∃ l : Int, lv = .int .i64 l ∧ 0 ≤ l ∧ l ≤ 1048576) ∧ Below w.heap.size w wr ∧ Hid (∀ r, r < k → (L.getD r default).2.length ≤ 1048576))
    case atStart => exact ⟨0, Nat.zero_le _, rfl, rfl, ⟨_, rfl, by omega, by omega⟩, Below.refl _ _, fun r hr => by omega⟩
    case round =>
      obtain ⟨k, hk, rfl, rfl, ⟨l, rfl, hl0, hl1⟩, hW, HD⟩ := hrel
      by_cases hkn : k < L.length
      · obtain ⟨b, o, na, nc, rfl, hc0, hc1, hr⟩ := unhide HC k hkn
        have hts := unhide HTX k hkn
        have HSZ := hide fun V (hV : Below w.heap.size w V) => szUpdate_any (L.getD k default).1 na _ nc (L.getD k default).2 l V (hr.below hV) hts hl0 hl1
        obtain ⟨⟨ed, U⟩, eq⟩ : ∃ z, z = L.getD k default := ⟨_, rfl⟩
        rw [← eq] at hc0 hc1 HSZ
        have EX := hide eq
        have g0 := wcell3 hc0 hW
        have g1 := wcell3 hc1 hW
        have HW := hide hW
        unfold vUpdate at HSZ
        have hki : (k : Int) < L.length := by omega
        clear hc0 hc1 hW hts hr eq
        dsimp only at g0 g1 HSZ
        go_wp2_with fail
        refine (unhide HSZ _ (unhide HW)).mono ?_
        rintro e w1 ⟨r, rfl, ⟨hr0, hr1, hr2⟩, hb⟩
        have HW1 := hide (Below.step (unhide HW) hb)
        have HR := hide hr2
        clear hb HSZ HW hr2
        by_cases hr : r < 0
        · go_wp2
          go_ret
          exact ⟨_, rfl, ⟨by omega, by omega, fun h => by omega⟩, unhide HW1⟩
        · go_wp2
          go_roundg (L.length - (k + 1))
          case measure => omega
          case rel => exact ⟨k + 1, by omega, rfl, by go_num, ⟨_, rfl, by omega, by omega⟩, unhide HW1, fun q hq => by
            by_cases e : q = k
            · subst e; rw [← unhide EX]; exact unhide HR (by omega)
            · exact HD.out q (by omega)⟩
      · go_wp2
        go_ret
        exact ⟨_, rfl, ⟨by omega, by omega, fun h => ⟨hL, fun i hi => HD.out i (by omega)⟩⟩, hW⟩

end Go.Proofs.Ytmpicamenjnkkaa

/- Apply6 and Catch in numbers (words for the contracts to come). No statement about the program stands here. -/
namespace Go.Proofs.Ytmpicamenjnkkaa
open Go.RowKit

/-- How many features from the front on have a lesser Id. -/
def insAt (F : List FeatureT) (id : Int) : Nat := (F.takeWhile fun f => decide (f.1 < id)).length
def addedF (n : NoteT) : FeatureT := (n.2.1, n.2.2.2.2.2.2, n.2.2.1, n.2.2.2.1, n.2.2.2.2.2.1)
def movedF (f : FeatureT) (n : NoteT) : FeatureT := (f.1, f.2.1, n.2.2.1, n.2.2.2.1, f.2.2.2.2)
def noteOf (c : Ch) (n : NoteT) : Ch × Bool :=
  if n.1 = 1 then
    if (!featB c.wd c.hg (addedF n) || decide (0 ≤ findOf c.F n.2.1) || decide (30 ≤ c.F.length)) = true then (c, false)
    else ({ c with F := c.F.take (insAt c.F n.2.1) ++ addedF n :: c.F.drop (insAt c.F n.2.1) }, true)
  else if n.1 = 2 then
    if findOf c.F n.2.1 < 0 then (c, false)
    else ({ c with F := c.F.take (findOf c.F n.2.1).toNat ++ c.F.drop ((findOf c.F n.2.1).toNat + 1) }, true)
  else if n.1 = 3 then
    if (decide (findOf c.F n.2.1 < 0) || !placeB c.wd c.hg n.2.2.1 n.2.2.2.1) = true then (c, false)
    else ({ c with F := c.F.set (findOf c.F n.2.1).toNat (movedF (c.F.getD (findOf c.F n.2.1).toNat default) n) }, true)
  else if n.1 = 4 then
    if (!placeB c.wd c.hg n.2.2.1 n.2.2.2.1 || !inB n.2.2.2.2.1 (-1000) 10000) = true then (c, false)
    else ({ c with D := c.D.set (n.2.2.2.1 * c.wd + n.2.2.1).toNat n.2.2.2.2.1 }, true)
  else (c, false)
/-- The notes one after another, until one can't be done. -/
def notesOf : List NoteT → Ch → Ch × Bool
  | [], c => (c, true)
  | n :: ns, c => if (noteOf c n).2 = true then notesOf ns (noteOf c n).1 else ((noteOf c n).1, false)
def applyOf (c : Ch) (u : UpT) : Ch × Int :=
  if (!chartB c || !inB u.2.length 1 20) = true then (c, 1)
  else if u.1 ≤ c.ed then (c, 2)
  else if c.ed + 1 < u.1 then (c, 3)
  else if (decide (u.1 ≤ 1000000) && (notesOf u.2 c).2) = true then ({ (notesOf u.2 c).1 with ed := u.1 }, 0)
  else (c, 4)
/-- From the i-th on among n: the first that is not done and can be. -/
def firstOf (c : Ch) (L : List UpT) (d : List Bool) : Nat → Nat → Option Nat
  | 0, _ => none
  | n + 1, i => if d.getD i false = false ∧ (applyOf c (L.getD i default)).2 = 0 then some i else firstOf c L d n (i + 1)
def catchGo (L : List UpT) : Nat → Ch → List Bool → Ch × List Bool
  | 0, c, d => (c, d)
  | f + 1, c, d => match firstOf c L d L.length 0 with
    | none => (c, d)
    | some i => catchGo L f (applyOf c (L.getD i default)).1 (d.set i true)
def leftOf (d : List Bool) : List Int := ((List.range d.length).filter fun i => !d.getD i false).map fun i : Nat => (i : Int)
def catchOf (c : Ch) (L : List UpT) : Ch × List Int :=
  if 60 < L.length then (c, [])
  else ((catchGo L (L.length + 1) c (List.replicate L.length false)).1, leftOf (catchGo L (L.length + 1) c (List.replicate L.length false)).2)

theorem findGo_bd (F : List FeatureT) (id : Int) : ∀ n k, findGo F id n k = -1 ∨ ((k : Int) ≤ findGo F id n k ∧ findGo F id n k < k + n)
  | 0, _ => Or.inl rfl
  | n + 1, k => by
    rw [findGo]
    split
    · right; omega
    · have := findGo_bd F id n (k + 1)
      omega
theorem findOf_bd (F : List FeatureT) (id : Int) : findOf F id = -1 ∨ (0 ≤ findOf F id ∧ findOf F id < F.length) := by
  have := findGo_bd F id F.length 0
  unfold findOf
  omega
theorem insAt_le (F : List FeatureT) (id : Int) : insAt F id ≤ F.length := (List.takeWhile_prefix _).length_le
/-- A note leaves the size of the chart, its edition, the number of depths, and at most 30 features. -/
theorem noteOf_keeps (c : Ch) (n : NoteT) (h : c.F.length ≤ 30) : (noteOf c n).1.wd = c.wd ∧ (noteOf c n).1.hg = c.hg ∧ (noteOf c n).1.ed = c.ed ∧ (noteOf c n).1.D.length = c.D.length ∧ (noteOf c n).1.F.length ≤ 30 := by
  have hi := insAt_le c.F n.2.1
  have hf := findOf_bd c.F n.2.1
  unfold noteOf
  split
  · split
    · exact ⟨rfl, rfl, rfl, rfl, h⟩
    · next hn =>
      simp only [Bool.or_eq_true, decide_eq_true_eq, not_or] at hn
      refine ⟨rfl, rfl, rfl, rfl, ?_⟩
      simp only [List.length_append, List.length_take, List.length_cons, List.length_drop]
      omega
  · split
    · split
      · exact ⟨rfl, rfl, rfl, rfl, h⟩
      · refine ⟨rfl, rfl, rfl, rfl, ?_⟩
        simp only [List.length_append, List.length_take, List.length_drop]
        omega
    · split
      · split
        · exact ⟨rfl, rfl, rfl, rfl, h⟩
        · exact ⟨rfl, rfl, rfl, rfl, by simpa using h⟩
      · split
        · split
          · exact ⟨rfl, rfl, rfl, rfl, h⟩
          · exact ⟨rfl, rfl, rfl, by simp, h⟩
        · exact ⟨rfl, rfl, rfl, rfl, h⟩
theorem notesOf_keeps : ∀ (ns : List NoteT) (c : Ch), c.F.length ≤ 30 → (notesOf ns c).1.wd = c.wd ∧ (notesOf ns c).1.hg = c.hg ∧ (notesOf ns c).1.ed = c.ed ∧ (notesOf ns c).1.D.length = c.D.length ∧ (notesOf ns c).1.F.length ≤ 30
  | [], c, h => ⟨rfl, rfl, rfl, rfl, h⟩
  | n :: ns, c, h => by
    obtain ⟨h1, h2, h3, h4, h5⟩ := noteOf_keeps c n h
    rw [notesOf]
    split
    · obtain ⟨q1, q2, q3, q4, q5⟩ := notesOf_keeps ns (noteOf c n).1 h5
      exact ⟨q1.trans h1, q2.trans h2, q3.trans h3, q4.trans h4, q5⟩
    · exact ⟨h1, h2, h3, h4, h5⟩

end Go.Proofs.Ytmpicamenjnkkaa

/- Records of BillOp (ints and texts): words; contracts of the laws' own szBillOp, szBillOpS, toBillOp, toBillOpS, eqBillOp, eqBillOpS, markBillOpS. After wip/mkrecm.py, with two texts. -/
import Derived.Test.YtdcbonfhakdhhaaWalkF
import Derived.Test.YtdcbonfhakdhhaaMrA
import Derived.Test.YtdcbonfhakdhhaaMtA
import Derived.Test.YtdcbonfhakdhhaaExactKit
namespace Go.Proofs.Ytdcbonfhakdhhaa
open Go.RowKit

abbrev BillOpT := Int × Int × ByteArray × ByteArray × Int × Int
def eBillOp (x : BillOpT) : Nat → Value
  | 0 => .int .i64 x.1
  | 1 => .int .i64 x.2.1
  | 2 => .string x.2.2.1
  | 3 => .string x.2.2.2.1
  | 4 => .int .i64 x.2.2.2.2.1
  | _ => .int .i64 x.2.2.2.2.2
def vBillOp (x0 : Int) (x1 : Int) (x2 : ByteArray) (x3 : ByteArray) (x4 : Int) (x5 : Int) : Value := .agg #[.int .i64 x0, .int .i64 x1, .string x2, .string x3, .int .i64 x4, .int .i64 x5]
abbrev RBillOp := RecsIn 6 eBillOp
theorem recBillOpAt {w : World} {ao : Option Addr} {L : List BillOpT} {k : Nat} (h : ∀ i, i < L.length → ∃ b o, ao = some ⟨b, o, none⟩ ∧ ∀ j, j < 6 → w.cell? ⟨b, o + (i * 6 + j), none⟩ = some (eBillOp (L.getD i default) j)) (hk : k < L.length) :
    ∃ b o x0 x1 x2 x3 x4 x5, ao = some ⟨b, o, none⟩ ∧ w.cell? ⟨b, o + k * 6, none⟩ = some (.int .i64 x0) ∧ w.cell? ⟨b, o + k * 6 + 1, none⟩ = some (.int .i64 x1) ∧ w.cell? ⟨b, o + k * 6 + 2, none⟩ = some (.string x2) ∧ w.cell? ⟨b, o + k * 6 + 3, none⟩ = some (.string x3) ∧ w.cell? ⟨b, o + k * 6 + 4, none⟩ = some (.int .i64 x4) ∧ w.cell? ⟨b, o + k * 6 + 5, none⟩ = some (.int .i64 x5) ∧ Hid (L.getD k default = (x0, x1, x2, x3, x4, x5)) := by
  obtain ⟨b, o, e, hc⟩ := h k hk
  exact ⟨b, o, _, _, _, _, _, _, e, hc 0 (by omega), hc 1 (by omega), hc 2 (by omega), hc 3 (by omega), hc 4 (by omega), hc 5 (by omega), rfl⟩
theorem Try.infoBillOp : (Try.prog.info? 34).map (fun i => (i.zero, i.size, i.bytes)) = some (some (vBillOp 0 0 ⟨#[]⟩ ⟨#[]⟩ 0 0), 6, 64) := by kernel_rfl

def txtBillOp (x : BillOpT) (L : Nat) : Prop := x.2.2.1.size ≤ L ∧ x.2.2.2.1.size ≤ L
set_option maxHeartbeats 400000 in
theorem szBillOp_any (x0 : Int) (x1 : Int) (x2 : ByteArray) (x3 : ByteArray) (x4 : Int) (x5 : Int) (left : Int) (w : World) (h0 : 0 ≤ left) (h1 : left ≤ 1048576) (ht : txtBillOp (x0, x1, x2, x3, x4, x5) maxLen) :
    Calls Try.prog 16 #[vBillOp x0 x1 x2 x3 x4 x5, .int .i64 left] w fun e w' => ∃ r, e = .returned (.int .i64 r) ∧ -1 ≤ r ∧ r ≤ 1048576 ∧ Below w.heap.size w w' := by
  unfold vBillOp
  obtain ⟨ht, ht2⟩ := ht
  unfold maxLen at ht ht2
  dsimp only at ht ht2
  obtain ⟨m, em⟩ : ∃ m : Nat, x2.size = m := ⟨_, rfl⟩
  rw [em] at ht
  obtain ⟨m2, em2⟩ : ∃ m : Nat, x3.size = m := ⟨_, rfl⟩
  rw [em2] at ht2
  have q : IntKind.i64.wrap (left - (m : Int)) = left - (m : Int) := by rw [IntKind.wrap_i64]; omega
  by_cases hlt : left < m
  · go_enter Try.func16, Try.ntmps16
    go_wp2
    go_ret
    exact ⟨_, rfl, by omega, by omega, Below.alloc1 _ _⟩
  · have q2 : IntKind.i64.wrap (left - (m : Int) - (m2 : Int)) = left - (m : Int) - (m2 : Int) := by rw [IntKind.wrap_i64]; omega
    by_cases hlt2 : left - (m : Int) < m2
    · go_enter Try.func16, Try.ntmps16
      go_wp2
      go_ret
      exact ⟨_, rfl, by omega, by omega, Below.alloc1 _ _⟩
    · go_enter Try.func16, Try.ntmps16
      go_wp2
      go_ret
      exact ⟨_, rfl, by omega, by omega, Below.alloc1 _ _⟩

set_option maxHeartbeats 800000 in
theorem szBillOpS_any (v : Value) (L : List BillOpT) (left : Int) (w : World) (h : RBillOp w v L) (hT : ∀ i, i < L.length → txtBillOp (L.getD i default) maxLen) (h0 : 0 ≤ left) (h1 : left ≤ 1048576) :
    Calls Try.prog 22 #[v, .int .i64 left] w fun e w' => ∃ r, e = .returned (.int .i64 r) ∧ SizedL L.length r ∧ Below w.heap.size w w' := by
  obtain ⟨ao, cap, rfl, hl, hm, hc⟩ := h
  unfold maxLen at hm
  have HC := hide hc
  have HTX := hide hT
  clear hc hT
  by_cases hlt : left < L.length
  · go_enter Try.func22, Try.ntmps22
    go_wp2
    go_ret
    exact ⟨_, rfl, ⟨by omega, by omega, fun h => by omega⟩, Below.refl _ _⟩
  · have hL : L.length ≤ 1048576 := by omega
    go_enter Try.func22, Try.ntmps22
    go_wp2
    go_loopg [1, 5] L.length (fun g lv iv wr => ∃ k : Nat, k ≤ L.length ∧ g = L.length - k ∧ iv = .int .i64 k ∧ (∃ l : Int, lv = .int .i64 l ∧ 0 ≤ l ∧ l ≤ 1048576) ∧ Below w.heap.size w wr)
    case atStart => exact ⟨0, Nat.zero_le _, rfl, rfl, ⟨_, rfl, by omega, by omega⟩, Below.refl _ _⟩
    case round =>
      obtain ⟨k, hk, rfl, rfl, ⟨l, rfl, hl0, hl1⟩, hW⟩ := hrel
      by_cases hkn : k < L.length
      · obtain ⟨b, o, x0, x1, x2, x3, x4, x5, rfl, hc0, hc1, hc2, hc3, hc4, hc5, EX⟩ := recBillOpAt (unhide HC) hkn
        have hts := unhide HTX k hkn
        rw [unhide EX] at hts
        have g0 := wcell3 hc0 hW
        have g1 := wcell3 hc1 hW
        have g2 := wcell3 hc2 hW
        have g3 := wcell3 hc3 hW
        have g4 := wcell3 hc4 hW
        have g5 := wcell3 hc5 hW
        have HW := hide hW
        have HSZ := hide fun V => szBillOp_any x0 x1 x2 x3 x4 x5 l V hl0 hl1 hts
        unfold vBillOp at HSZ
        have hki : (k : Int) < L.length := by omega
        clear hc0 hc1 hc2 hc3 hc4 hc5 hW hts
        go_wp2_with fail
        refine (unhide HSZ _).mono ?_
        rintro e w1 ⟨r, rfl, hr0, hr1, hb⟩
        have HW1 := hide (Below.step (unhide HW) hb)
        clear hb HSZ HW
        by_cases hr : r < 0
        · go_wp2
          go_ret
          exact ⟨_, rfl, ⟨by omega, by omega, fun h => by omega⟩, unhide HW1⟩
        · go_wp2
          go_roundg (L.length - (k + 1))
          case measure => omega
          case rel => exact ⟨k + 1, by omega, rfl, by go_num, ⟨r, rfl, by omega, by omega⟩, unhide HW1⟩
      · have hki : ¬ (k : Int) < L.length := by omega
        go_wp2
        go_ret
        exact ⟨_, rfl, ⟨by omega, by omega, fun _ => hL⟩, hW⟩

set_option maxHeartbeats 800000 in
theorem toBillOp_any (x0 : Int) (x1 : Int) (x2 : ByteArray) (x3 : ByteArray) (x4 : Int) (x5 : Int) (w : World) :
    Calls Try.prog 18 #[vBillOp x0 x1 x2 x3 x4 x5] w fun e w' => e = .returned (vBillOp x0 x1 x2 x3 x4 x5) ∧ Below w.heap.size w w' := by
  unfold vBillOp
  go_enter Try.func18, Try.ntmps18
  go_wp2
  refine bodyPost_ret (v := vBillOp x0 x1 x2 x3 x4 x5) (by simp [results, Try.results18, go_sem, vBillOp]) rfl ⟨rfl, ?_⟩
  exact (((Below.refl _ _).alloc (Nat.le_refl _) _).alloc (by simp) _).alloc (by simp; omega) _

set_option maxHeartbeats 800000 in
theorem toBillOpS_any (v : Value) (L : List BillOpT) (w : World) (h : RBillOp w v L) (hs : L.length ≤ 1048576) :
    Calls Try.prog 24 #[v] w fun e w' => ∃ g, e = .returned (.slice (some ⟨g, 0, none⟩) L.length L.length) ∧ w.heap.size ≤ g ∧ OwnV w' g (recCells 6 eBillOp L) ∧ Below w.heap.size w w' := by
  obtain ⟨ao, cap, rfl, hl, hm, hc⟩ := h
  clear hl hm
  have HC := hide hc
  clear hc
  have hmk := run_make_recs (P := Try.prog) 28 34 _ 6 64 Try.underlying28 Try.infoBillOp .i64 .i64 L.length (by omega) (by omega)
  go_enter Try.func24, Try.ntmps24
  go_wp2
  clear hmk
  go_loopg [4] L.length (fun g i wr => ∃ k : Nat, k ≤ L.length ∧ g = L.length - k ∧ i = .int .i64 k ∧ FillC 6 eBillOp w wr L (k * 6))
  case atStart => exact ⟨0, Nat.zero_le _, rfl, rfl, by rw [Nat.zero_mul]; exact FillC.start w L _ _⟩
  case round =>
    obtain ⟨k, hk, rfl, rfl, hF⟩ := hrel
    by_cases hkn : k < L.length
    · obtain ⟨b, o, x0, x1, x2, x3, x4, x5, rfl, hc0, hc1, hc2, hc3, hc4, hc5, EX⟩ := recBillOpAt (unhide HC) hkn
      have g0 := wcell3 hc0 hF.below
      have g1 := wcell3 hc1 hF.below
      have g2 := wcell3 hc2 hF.below
      have g3 := wcell3 hc3 hF.below
      have g4 := wcell3 hc4 hF.below
      have g5 := wcell3 hc5 hF.below
      have HF := hide hF
      clear hc0 hc1 hc2 hc3 hc4 hc5 hF
      have HT := hide fun V => toBillOp_any x0 x1 x2 x3 x4 x5 V
      unfold vBillOp at HT
      go_wp2_with fail
      refine (unhide HT _).mono ?_
      rintro e w1 ⟨rfl, hb⟩
      have hF1 := (unhide HF).grow hb
      have hf := hF1.frozen
      obtain ⟨u0', hu0⟩ := hF1.cell (q := k * 6) (by omega)
      obtain ⟨u1', hu1⟩ := hF1.cell (q := k * 6 + 1) (by omega)
      obtain ⟨u2', hu2⟩ := hF1.cell (q := k * 6 + 2) (by omega)
      obtain ⟨u3', hu3⟩ := hF1.cell (q := k * 6 + 3) (by omega)
      obtain ⟨u4', hu4⟩ := hF1.cell (q := k * 6 + 4) (by omega)
      obtain ⟨u5', hu5⟩ := hF1.cell (q := k * 6 + 5) (by omega)
      have HF1 := hide hF1
      clear hb HF hF1 HT
      go_wp2
      go_roundg (L.length - (k + 1))
      case measure => omega
      case rel =>
        refine ⟨k + 1, by omega, rfl, by go_num, ?_⟩
        have s0 := (unhide HF1).set (v := .int .i64 x0) (by omega) (by rw [show (k * 6) / 6 = k by omega, show (k * 6) % 6 = 0 by omega, unhide EX]; rfl)
        have s1 := s0.set (v := .int .i64 x1) (by omega) (by rw [show (k * 6 + 1) / 6 = k by omega, show (k * 6 + 1) % 6 = 1 by omega, unhide EX]; rfl)
        have s2 := s1.set (v := .string x2) (by omega) (by rw [show (k * 6 + 2) / 6 = k by omega, show (k * 6 + 2) % 6 = 2 by omega, unhide EX]; rfl)
        have s3 := s2.set (v := .string x3) (by omega) (by rw [show (k * 6 + 3) / 6 = k by omega, show (k * 6 + 3) % 6 = 3 by omega, unhide EX]; rfl)
        have s4 := s3.set (v := .int .i64 x4) (by omega) (by rw [show (k * 6 + 4) / 6 = k by omega, show (k * 6 + 4) % 6 = 4 by omega, unhide EX]; rfl)
        have s5 := s4.set (v := .int .i64 x5) (by omega) (by rw [show (k * 6 + 5) / 6 = k by omega, show (k * 6 + 5) % 6 = 5 by omega, unhide EX]; rfl)
        rw [show (k + 1) * 6 = k * 6 + 6 by omega]
        exact s5
    · have hkk : k = L.length := by omega
      subst hkk
      go_wp2
      go_ret
      exact ⟨_, rfl, Nat.le_refl _, hF.done, hF.below⟩

set_option maxHeartbeats 800000 in
theorem eqBillOp_any (x0 : Int) (x1 : Int) (x2 : ByteArray) (x3 : ByteArray) (x4 : Int) (x5 : Int) (w : World) :
    Calls Try.prog 56 #[vBillOp x0 x1 x2 x3 x4 x5, vBillOp x0 x1 x2 x3 x4 x5] w fun e w' => e = .returned (.bool true) ∧ Below w.heap.size w w' := by
  unfold vBillOp
  go_enter Try.func56, Try.ntmps56
  go_wp2
  go_ret
  exact ⟨rfl, ((Below.refl _ _).alloc (Nat.le_refl _) _).alloc (by simp) _⟩

set_option maxHeartbeats 800000 in
theorem eqBillOpS_any (v v' : Value) (L : List BillOpT) (w : World) (h : RBillOp w v L) (h' : RBillOp w v' L) :
    Calls Try.prog 26 #[v, v'] w fun e w' => e = .returned (.bool true) ∧ Below w.heap.size w w' := by
  obtain ⟨ao, cap, rfl, hl, hm, hc⟩ := h
  obtain ⟨ao', cap', rfl, _, _, hc'⟩ := h'
  unfold maxLen at hm
  have HC := hide hc
  have HC' := hide hc'
  clear hc hc'
  go_enter Try.func26, Try.ntmps26
  go_wp2
  go_loopg [5] L.length (fun g i wr => Below w.heap.size w wr ∧ ∃ k : Nat, k ≤ L.length ∧ g = L.length - k ∧ i = .int .i64 k)
  case atStart => exact ⟨Below.refl _ _, 0, Nat.zero_le _, rfl, rfl⟩
  case round =>
    obtain ⟨hW, k, hk, rfl, rfl⟩ := hrel
    by_cases hkn : k < L.length
    · obtain ⟨b, o, x0, x1, x2, x3, x4, x5, rfl, hc0, hc1, hc2, hc3, hc4, hc5, EX⟩ := recBillOpAt (unhide HC) hkn
      obtain ⟨b', o', x0', x1', x2', x3', x4', x5', rfl, hd0, hd1, hd2, hd3, hd4, hd5, EX'⟩ := recBillOpAt (unhide HC') hkn
      have eX := (unhide EX).symm.trans (unhide EX')
      simp only [Prod.mk.injEq] at eX
      obtain ⟨rfl, rfl, rfl, rfl, rfl, rfl⟩ := eX
      have r0 := fun x' : Gr wr => gr_cell (wcell3 hc0 hW) x'
      have r0' := fun x' : Gr wr => gr_cell (wcell3 hd0 hW) x'
      have r1 := fun x' : Gr wr => gr_cell (wcell3 hc1 hW) x'
      have r1' := fun x' : Gr wr => gr_cell (wcell3 hd1 hW) x'
      have r2 := fun x' : Gr wr => gr_cell (wcell3 hc2 hW) x'
      have r2' := fun x' : Gr wr => gr_cell (wcell3 hd2 hW) x'
      have r3 := fun x' : Gr wr => gr_cell (wcell3 hc3 hW) x'
      have r3' := fun x' : Gr wr => gr_cell (wcell3 hd3 hW) x'
      have r4 := fun x' : Gr wr => gr_cell (wcell3 hc4 hW) x'
      have r4' := fun x' : Gr wr => gr_cell (wcell3 hd4 hW) x'
      have r5 := fun x' : Gr wr => gr_cell (wcell3 hc5 hW) x'
      have r5' := fun x' : Gr wr => gr_cell (wcell3 hd5 hW) x'
      have S1 := hide fun x' : Gr wr => eqBillOp_any x0 x1 x2 x3 x4 x5 x'.val
      unfold vBillOp at S1
      have HW := hide hW
      have gsome := gr_some wr
      clear hc0 hc1 hc2 hc3 hc4 hc5 hd0 hd1 hd2 hd3 hd4 hd5 hW
      go_wp2
      refine wp_region_grown (by kernel_rfl) (by kernel_rfl) ?_
      repeat (go_big_quiet_step (fail))
      go_big_quiet_want
      go_big_quiet_op
      go_big_quiet_call (exact calls_grown (unhide S1 _))
      repeat (go_big_quiet_step (fail))
      refine wpQuiet_nil ?_
      intro w1 hw1
      obtain ⟨z', hz⟩ := hw1
      have hb1 : Below wr.heap.size wr w1 := hz ▸ z'.ok
      clear hz gsome
      go_wp2
      go_roundg (L.length - (k + 1))
      case measure => omega
      case rel => exact ⟨Below.step (unhide HW) hb1, k + 1, by omega, rfl, by go_num⟩
    · go_wp2
      go_ret
      exact ⟨rfl, hW⟩

set_option maxRecDepth 10000 in
set_option maxHeartbeats 1600000 in
theorem markBillOpS_any (g cap n : Nat) (vs : List Value) (k : Int) (w : World) (h : OwnV w g vs) (hv : n * 6 ≤ vs.length) (hn : n ≤ 1048576) (hk0 : 0 ≤ k) (hk1 : k ≤ 1152921504606846976) :
    Calls Try.prog 27 #[.slice (some ⟨g, 0, none⟩) n cap, .int .i64 k] w fun e w' => e = .returned (.int .i64 (k + 6 * (n : Int))) ∧ Kept (fun b => b = g) w w' := by
  have HM0 : Hid (∃ us : List Value, OwnV w g us ∧ n * 6 ≤ us.length) := ⟨vs, h, hv⟩
  clear h hv
  go_enter Try.func27, Try.ntmps27
  go_wp2
  go_loopg [1, 5] n (fun gh kv iv wr => ∃ j : Nat, j ≤ n ∧ gh = n - j ∧ iv = .int .i64 j ∧ kv = .int .i64 (k + 6 * (j : Int)) ∧ Kept (fun b => b = g) w wr ∧ Hid (∃ us : List Value, OwnV wr g us ∧ n * 6 ≤ us.length))
  case atStart => exact ⟨0, Nat.zero_le _, rfl, rfl, by congr 1; omega, Kept.refl _ _, HM0⟩
  case round =>
    obtain ⟨j, hj, rfl, rfl, rfl, hK, HU⟩ := hrel
    clear HM0
    by_cases hjn : j < n
    · obtain ⟨us, hO, hul⟩ := unhide HU
      have hf := hO.frozen
      have cl := fun {W : World} {us : List Value} (hO : OwnV W g us) (hul : n * 6 ≤ us.length) (q : Nat) (hq : q < n * 6) => (⟨_, hO.cell (List.getElem?_eq_getElem (show q < us.length by omega))⟩ : ∃ u, W.cell? ⟨g, q, none⟩ = some u)
      obtain ⟨u0', hu0⟩ := cl hO hul (j * 6) (by omega)
      obtain ⟨u1', hu1⟩ := cl hO hul (j * 6 + 1) (by omega)
      have HS := hide hO
      have HK := hide hK
      have HTX := hide fun V => markText_any (k + 6 * (j : Int) + 1 + 1) V (by omega)
      have HTY := hide fun V => markText_any (k + 6 * (j : Int) + 1 + 1 + 1) V (by omega)
      have hjni : (j : Int) < n := by omega
      clear hO hK HU
      go_wp2_with fail
      refine (unhide HTX _).mono ?_
      rintro e w1 ⟨rfl, hb⟩
      replace HS := hide ((((unhide HS).set (j * 6) (.int .i64 (k + 6 * (j : Int))) (by omega)).set (j * 6 + 1) (.int .i64 (k + 6 * (j : Int) + 1)) (by rw [List.length_set]; omega)).step hb)
      replace HK := hide (Kept.trans (((unhide HK).setCell (p := ⟨g, j * 6, none⟩) rfl _).setCell (p := ⟨g, j * 6 + 1, none⟩) rfl _) (kept_of_below hb))
      clear hb HTX hu0 hu1 hf
      have hul1 : n * 6 ≤ ((us.set (j * 6) (.int .i64 (k + 6 * (j : Int)))).set (j * 6 + 1) (.int .i64 (k + 6 * (j : Int) + 1))).length := by simpa using hul
      generalize (us.set (j * 6) (.int .i64 (k + 6 * (j : Int)))).set (j * 6 + 1) (.int .i64 (k + 6 * (j : Int) + 1)) = u1 at *
      have hf := (unhide HS).frozen
      obtain ⟨t2', ht2⟩ := cl (unhide HS) hul1 (j * 6 + 2) (by omega)
      generalize hta : mt (k + 6 * (j : Int) + 1 + 1) = ta at *
      clear hta
      go_wp2_with fail
      refine (unhide HTY _).mono ?_
      rintro e w2 ⟨rfl, hb⟩
      replace HS := hide (((unhide HS).set (j * 6 + 2) (.string ta) (by omega)).step hb)
      replace HK := hide (Kept.trans ((unhide HK).setCell (p := ⟨g, j * 6 + 2, none⟩) rfl _) (kept_of_below hb))
      clear hb HTY ht2 hf
      have hul2 : n * 6 ≤ (u1.set (j * 6 + 2) (.string ta)).length := by simpa using hul1
      generalize u1.set (j * 6 + 2) (.string ta) = u2 at *
      have hf := (unhide HS).frozen
      obtain ⟨t3', ht3⟩ := cl (unhide HS) hul2 (j * 6 + 3) (by omega)
      obtain ⟨t4', ht4⟩ := cl (unhide HS) hul2 (j * 6 + 4) (by omega)
      obtain ⟨t5', ht5⟩ := cl (unhide HS) hul2 (j * 6 + 5) (by omega)
      generalize htb : mt (k + 6 * (j : Int) + 1 + 1 + 1) = tb at *
      clear htb
      go_wp2
      go_roundg (n - (j + 1))
      case measure => omega
      case rel =>
        have s3 := (((unhide HS).set (j * 6 + 3) (.string tb) (by omega)).set (j * 6 + 4) (.int .i64 (k + 6 * (j : Int) + 1 + 1 + 1 + 1)) (by rw [List.length_set]; omega)).set (j * 6 + 5) (.int .i64 (k + 6 * (j : Int) + 1 + 1 + 1 + 1 + 1)) (by rw [List.length_set, List.length_set]; omega)
        exact ⟨j + 1, by omega, rfl, by go_num, by congr 1; omega, ((((unhide HK).setCell (p := ⟨g, j * 6 + 3, none⟩) rfl _).setCell (p := ⟨g, j * 6 + 4, none⟩) rfl _).setCell (p := ⟨g, j * 6 + 5, none⟩) rfl _), ⟨_, s3, by simpa using hul2⟩⟩
    · have hjj : j = n := by omega
      subst hjj
      go_wp2
      go_ret
      exact ⟨rfl, hK⟩

end Go.Proofs.Ytdcbonfhakdhhaa

/- Laid together out of: MtA, ExactKit, RFeature, WalkG, WalkH, WalkJ, WalkK, WalkL, WalkQ. -/
import Derived.Test.YtmpicamenjnkkaaPa
import Derived.Laws.Concat
import Derived.Laws.BytesString
import Derived.Deep.RegionWith
import Derived.Deep.RegionHeld3

/- Contract of the laws' own markText: a text for each number. -/
namespace Go.Proofs.Ytmpicamenjnkkaa
open Go.RowKit

def dB (n : Nat) : ByteArray := ByteArray.empty.push (UInt8.ofNat (48 + n % 10))
def digB (n : Nat) : ByteArray := if _h : n = 0 then ByteArray.empty else digB (n / 10) ++ dB n
termination_by n
decreasing_by omega
theorem digB_zero : digB 0 = ByteArray.empty := by rw [digB]; simp
theorem digB_pos {n : Nat} (h : 0 < n) : digB n = digB (n / 10) ++ dB n := by
  rw [digB, dif_neg (by omega)]
theorem dB_size (n : Nat) : (dB n).size = 1 := rfl
theorem digB_size : ∀ d n, n < 10 ^ d → (digB n).size ≤ d
  | 0, n, h => by
    have : n = 0 := by simpa using h
    subst this
    rw [digB_zero]
    exact Nat.le_refl _
  | d + 1, n, h => by
    by_cases h0 : n = 0
    · subst h0
      rw [digB_zero]
      exact Nat.zero_le _
    · rw [digB_pos (by omega), ByteArray.size_append, dB_size]
      have := digB_size d (n / 10) (by rw [Nat.pow_succ] at h; omega)
      omega
theorem byt_assoc (a b c : ByteArray) : a ++ b ++ c = a ++ (b ++ c) := by
  apply ByteArray.ext
  simp [ByteArray.data_append]
theorem byt_nil (a : ByteArray) : a ++ ⟨#[]⟩ = a := by
  apply ByteArray.ext
  simp [ByteArray.data_append]
theorem byt_nil' (a : ByteArray) : ByteArray.empty ++ a = a := by
  apply ByteArray.ext
  simp
theorem cv_dig (k : Nat) (dd : Int) (ed : dd = 48 + (k : Int) % 10) (wr : World) : (convert 22 9 (.slice (some ⟨wr.heap.size, 0, none⟩) 1 1)).run Try.prog (wr.alloc (.cells #[.int .u8 dd] 5)) = .ok (.string (dB k)) (wr.alloc (.cells #[.int .u8 dd] 5)) := by
  rw [run_convert_bytes_string _ _ _ _ _ _ _ Try.underlying22 Try.underlying5 Try.underlying9]
  rw [run_bytesToString _ _ _ _ [dd] (by simp [loadCells, go_sem])]
  have e : dd.toNat = 48 + k % 10 := by omega
  simp [dB, e]
/-- The text of a mark. -/
def mt (k : Int) : ByteArray := if k ≤ 0 then ⟨#[109, 48]⟩ else ⟨#[109]⟩ ++ digB k.toNat

set_option maxRecDepth 10000 in
set_option maxHeartbeats 1600000 in
theorem markText_any (k : Int) (w : World) (hk : k ≤ 4611686018427387904) :
    Calls Try.prog 102 #[.int .i64 k] w fun e w' => e = .returned (.string (mt k)) ∧ Below w.heap.size w w' := by
  by_cases h0 : k ≤ 0
  · have HM : Hid (mt k = ⟨#[109, 48]⟩) := by show _ = _; rw [mt, if_pos h0]
    go_enter Try.func102, Try.ntmps102
    go_wp2
    go_ret
    exact ⟨by rw [unhide HM]; rfl, Below.refl _ _⟩
  · have HM : Hid (mt k = ⟨#[109]⟩ ++ digB k.toNat) := by show _ = _; rw [mt, if_neg h0]
    obtain ⟨n, rfl⟩ := Int.eq_ofNat_of_zero_le (show 0 ≤ k by omega)
    rw [Int.toNat_natCast] at HM
    have hs : (digB n).size ≤ 19 := digB_size 19 n (by have : (10 : Nat) ^ 19 = 10000000000000000000 := by decide
                                                       omega)
    have HS := hide hs
    clear hs
    go_enter Try.func102, Try.ntmps102
    go_wp2
    go_loopg [0, 3] n (fun g kv ov wr => ∃ (k : Nat) (t : ByteArray), g = k ∧ k ≤ n ∧ kv = .int .i64 k ∧ ov = .string t ∧ digB n = digB k ++ t ∧ Below w.heap.size w wr)
    case atStart => exact ⟨n, _, rfl, Nat.le_refl _, rfl, rfl, by rw [byt_nil], Below.refl _ _⟩
    case round =>
      obtain ⟨k, t, hg, hkn, rfl, rfl, hD, hW⟩ := hrel
      have hg' := hg.symm
      subst hg'
      clear hg
      have hts : t.size ≤ 19 := by
        have := unhide HS
        rw [hD, ByteArray.size_append] at this
        omega
      have HD := hide hD
      have HW := hide hW
      clear hD hW
      by_cases hk0 : 0 < k
      · obtain ⟨dd, edd⟩ : ∃ d : Int, d = 48 + (k : Int) % 10 := ⟨_, rfl⟩
        have hcv := cv_dig k dd edd wr
        have HW1 := hide (Below.step (unhide HW) (Below.alloc1 wr (.cells #[.int .u8 dd] 5)))
        have HN : Hid (digB n = digB (k / 10) ++ (dB k ++ t)) := by show _ = _; rw [unhide HD, digB_pos hk0, byt_assoc]
        have q1 : IntKind.i64.wrap (48 + (k : Int) % 10) = dd := by rw [IntKind.wrap_i64]; omega
        have q1' : (48 + (k : Int) % 10) = dd := edd.symm
        have q2 : IntKind.u8.wrap dd = dd := by
          have hd : dd = 48 ∨ dd = 49 ∨ dd = 50 ∨ dd = 51 ∨ dd = 52 ∨ dd = 53 ∨ dd = 54 ∨ dd = 55 ∨ dd = 56 ∨ dd = 57 := by omega
          rcases hd with h | h | h | h | h | h | h | h | h | h <;> rw [h] <;> rfl
        have hds := dB_size k
        have hk0i : (0 : Int) < k := by omega
        clear edd
        generalize dB k = db at *
        go_wp2
        go_roundg (k / 10)
        case measure => omega
        case rel => exact ⟨k / 10, db ++ t, rfl, by omega, by congr 1, rfl, unhide HN, unhide HW1⟩
      · have hkk : k = 0 := by omega
        subst hkk
        have HE : Hid (t = digB n) := by show _ = _; rw [unhide HD, digB_zero, byt_nil']
        go_wp2
        go_ret
        exact ⟨by rw [unhide HM, ← unhide HE]; rfl, unhide HW⟩

end Go.Proofs.Ytmpicamenjnkkaa

/- Own words for the walks of the exact laws. No statement about the program stands here. -/
namespace Go.Proofs.Ytmpicamenjnkkaa
open Go.RowKit

theorem OwnV.step {w w' : World} {g : Nat} {vs : List Value} (h : OwnV w g vs) (hb : Below w.heap.size w w') : OwnV w' g vs := h.below hb h.lt

theorem ownV_alloc (w : World) (c : Array Value) (t : TypeId) : OwnV (w.alloc (.cells c t)) w.heap.size c.toList :=
  ⟨c, t, Deep.blk_alloc_new _ _, fun i _ => by simp⟩

end Go.Proofs.Ytmpicamenjnkkaa

/- Records of Feature (ints and texts): words; contracts of the laws' own szFeature, szFeatureS, toFeature, toFeatureS, eqFeature, eqFeatureS, markFeatureS, heldFeatureS. Written by wip/mkrecm.py. -/
namespace Go.Proofs.Ytmpicamenjnkkaa
open Go.RowKit

abbrev FeatureT := Int × Int × Int × Int × ByteArray
def eFeature (x : FeatureT) : Nat → Value
  | 0 => .int .i64 x.1
  | 1 => .int .i64 x.2.1
  | 2 => .int .i64 x.2.2.1
  | 3 => .int .i64 x.2.2.2.1
  | _ => .string x.2.2.2.2
def vFeature (x0 : Int) (x1 : Int) (x2 : Int) (x3 : Int) (x4 : ByteArray) : Value := .agg #[.int .i64 x0, .int .i64 x1, .int .i64 x2, .int .i64 x3, .string x4]
abbrev RFeature := RecsIn 5 eFeature
theorem recFeatureAt {w : World} {ao : Option Addr} {L : List FeatureT} {k : Nat} (h : ∀ i, i < L.length → ∃ b o, ao = some ⟨b, o, none⟩ ∧ ∀ j, j < 5 → w.cell? ⟨b, o + (i * 5 + j), none⟩ = some (eFeature (L.getD i default) j)) (hk : k < L.length) :
    ∃ b o x0 x1 x2 x3 x4, ao = some ⟨b, o, none⟩ ∧ w.cell? ⟨b, o + k * 5, none⟩ = some (.int .i64 x0) ∧ w.cell? ⟨b, o + k * 5 + 1, none⟩ = some (.int .i64 x1) ∧ w.cell? ⟨b, o + k * 5 + 2, none⟩ = some (.int .i64 x2) ∧ w.cell? ⟨b, o + k * 5 + 3, none⟩ = some (.int .i64 x3) ∧ w.cell? ⟨b, o + k * 5 + 4, none⟩ = some (.string x4) ∧ Hid (L.getD k default = (x0, x1, x2, x3, x4)) := by
  obtain ⟨b, o, e, hc⟩ := h k hk
  exact ⟨b, o, _, _, _, _, _, e, hc 0 (by omega), hc 1 (by omega), hc 2 (by omega), hc 3 (by omega), hc 4 (by omega), rfl⟩
theorem Try.infoFeature : (Try.prog.info? 91).map (fun i => (i.zero, i.size, i.bytes)) = some (some (vFeature 0 0 0 0 ⟨#[]⟩), 5, 48) := by kernel_rfl

def txtFeature (x : FeatureT) : ByteArray := x.2.2.2.2
set_option maxHeartbeats 400000 in
theorem szFeature_any (x0 : Int) (x1 : Int) (x2 : Int) (x3 : Int) (x4 : ByteArray) (left : Int) (w : World) (h0 : 0 ≤ left) (h1 : left ≤ 1048576) (ht : x4.size ≤ maxLen) :
    Calls Try.prog 95 #[vFeature x0 x1 x2 x3 x4, .int .i64 left] w fun e w' => ∃ r, e = .returned (.int .i64 r) ∧ -1 ≤ r ∧ r ≤ 1048576 ∧ Below w.heap.size w w' := by
  unfold vFeature
  unfold maxLen at ht
  obtain ⟨m, em⟩ : ∃ m : Nat, x4.size = m := ⟨_, rfl⟩
  rw [em] at ht
  have q : IntKind.i64.wrap (left - (m : Int)) = left - (m : Int) := by rw [IntKind.wrap_i64]; omega
  by_cases hlt : left < m
  · go_enter Try.func95, Try.ntmps95
    go_wp2
    go_ret
    exact ⟨_, rfl, by omega, by omega, Below.alloc1 _ _⟩
  · go_enter Try.func95, Try.ntmps95
    go_wp2
    go_ret
    exact ⟨_, rfl, by omega, by omega, Below.alloc1 _ _⟩

set_option maxHeartbeats 800000 in
theorem szFeatureS_any (v : Value) (L : List FeatureT) (left : Int) (w : World) (h : RFeature w v L) (hT : ∀ i, i < L.length → (txtFeature (L.getD i default)).size ≤ maxLen) (h0 : 0 ≤ left) (h1 : left ≤ 1048576) :
    Calls Try.prog 67 #[v, .int .i64 left] w fun e w' => ∃ r, e = .returned (.int .i64 r) ∧ SizedL L.length r ∧ Below w.heap.size w w' := by
  obtain ⟨ao, cap, rfl, hl, hm, hc⟩ := h
  unfold maxLen at hm
  have HC := hide hc
  have HTX := hide hT
  clear hc hT
  by_cases hlt : left < L.length
  · go_enter Try.func67, Try.ntmps67
    go_wp2
    go_ret
    exact ⟨_, rfl, ⟨by omega, by omega, fun h => by omega⟩, Below.refl _ _⟩
  · have hL : L.length ≤ 1048576 := by omega
    go_enter Try.func67, Try.ntmps67
    go_wp2
    go_loopg [1, 5] L.length (fun g lv iv wr => ∃ k : Nat, k ≤ L.length ∧ g = L.length - k ∧ iv = .int .i64 k ∧ (∃ l : Int, lv = .int .i64 l ∧ 0 ≤ l ∧ l ≤ 1048576) ∧ Below w.heap.size w wr)
    case atStart => exact ⟨0, Nat.zero_le _, rfl, rfl, ⟨_, rfl, by omega, by omega⟩, Below.refl _ _⟩
    case round =>
      obtain ⟨k, hk, rfl, rfl, ⟨l, rfl, hl0, hl1⟩, hW⟩ := hrel
      by_cases hkn : k < L.length
      · obtain ⟨b, o, x0, x1, x2, x3, x4, rfl, hc0, hc1, hc2, hc3, hc4, EX⟩ := recFeatureAt (unhide HC) hkn
        have hts := unhide HTX k hkn
        rw [unhide EX] at hts
        have g0 := wcell3 hc0 hW
        have g1 := wcell3 hc1 hW
        have g2 := wcell3 hc2 hW
        have g3 := wcell3 hc3 hW
        have g4 := wcell3 hc4 hW
        have HW := hide hW
        have HSZ := hide fun V => szFeature_any x0 x1 x2 x3 x4 l V hl0 hl1 hts
        unfold vFeature at HSZ
        have hki : (k : Int) < L.length := by omega
        clear hc0 hc1 hc2 hc3 hc4 hW hts
        go_wp2_with fail
        refine (unhide HSZ _).mono ?_
        rintro e w1 ⟨r, rfl, hr0, hr1, hb⟩
        have HW1 := hide (Below.step (unhide HW) hb)
        clear hb HSZ HW
        by_cases hr : r < 0
        · go_wp2
          go_ret
          exact ⟨_, rfl, ⟨by omega, by omega, fun h => by omega⟩, unhide HW1⟩
        · go_wp2
          go_roundg (L.length - (k + 1))
          case measure => omega
          case rel => exact ⟨k + 1, by omega, rfl, by go_num, ⟨r, rfl, by omega, by omega⟩, unhide HW1⟩
      · have hki : ¬ (k : Int) < L.length := by omega
        go_wp2
        go_ret
        exact ⟨_, rfl, ⟨by omega, by omega, fun _ => hL⟩, hW⟩

set_option maxHeartbeats 800000 in
theorem toFeature_any (x0 : Int) (x1 : Int) (x2 : Int) (x3 : Int) (x4 : ByteArray) (w : World) :
    Calls Try.prog 98 #[vFeature x0 x1 x2 x3 x4] w fun e w' => e = .returned (vFeature x0 x1 x2 x3 x4) ∧ Below w.heap.size w w' := by
  unfold vFeature
  go_enter Try.func98, Try.ntmps98
  go_wp2
  refine bodyPost_ret (v := vFeature x0 x1 x2 x3 x4) (by simp [results, Try.results98, go_sem, vFeature]) rfl ⟨rfl, ?_⟩
  exact (((Below.refl _ _).alloc (Nat.le_refl _) _).alloc (by simp) _).alloc (by simp; omega) _

set_option maxHeartbeats 800000 in
theorem toFeatureS_any (v : Value) (L : List FeatureT) (w : World) (h : RFeature w v L) (hs : L.length ≤ 1048576) :
    Calls Try.prog 72 #[v] w fun e w' => ∃ g, e = .returned (.slice (some ⟨g, 0, none⟩) L.length L.length) ∧ w.heap.size ≤ g ∧ OwnV w' g (recCells 5 eFeature L) ∧ Below w.heap.size w w' := by
  obtain ⟨ao, cap, rfl, hl, hm, hc⟩ := h
  clear hl hm
  have HC := hide hc
  clear hc
  have hmk := run_make_recs (P := Try.prog) 25 91 _ 5 48 Try.underlying25 Try.infoFeature .i64 .i64 L.length (by omega) (by omega)
  go_enter Try.func72, Try.ntmps72
  go_wp2
  clear hmk
  go_loopg [4] L.length (fun g i wr => ∃ k : Nat, k ≤ L.length ∧ g = L.length - k ∧ i = .int .i64 k ∧ FillC 5 eFeature w wr L (k * 5))
  case atStart => exact ⟨0, Nat.zero_le _, rfl, rfl, by rw [Nat.zero_mul]; exact FillC.start w L _ _⟩
  case round =>
    obtain ⟨k, hk, rfl, rfl, hF⟩ := hrel
    by_cases hkn : k < L.length
    · obtain ⟨b, o, x0, x1, x2, x3, x4, rfl, hc0, hc1, hc2, hc3, hc4, EX⟩ := recFeatureAt (unhide HC) hkn
      have g0 := wcell3 hc0 hF.below
      have g1 := wcell3 hc1 hF.below
      have g2 := wcell3 hc2 hF.below
      have g3 := wcell3 hc3 hF.below
      have g4 := wcell3 hc4 hF.below
      have HF := hide hF
      clear hc0 hc1 hc2 hc3 hc4 hF
      have HT := hide fun V => toFeature_any x0 x1 x2 x3 x4 V
      unfold vFeature at HT
      go_wp2_with fail
      refine (unhide HT _).mono ?_
      rintro e w1 ⟨rfl, hb⟩
      have hF1 := (unhide HF).grow hb
      have hf := hF1.frozen
      obtain ⟨u0', hu0⟩ := hF1.cell (q := k * 5) (by omega)
      obtain ⟨u1', hu1⟩ := hF1.cell (q := k * 5 + 1) (by omega)
      obtain ⟨u2', hu2⟩ := hF1.cell (q := k * 5 + 2) (by omega)
      obtain ⟨u3', hu3⟩ := hF1.cell (q := k * 5 + 3) (by omega)
      obtain ⟨u4', hu4⟩ := hF1.cell (q := k * 5 + 4) (by omega)
      have HF1 := hide hF1
      clear hb HF hF1 HT
      go_wp2
      go_roundg (L.length - (k + 1))
      case measure => omega
      case rel =>
        refine ⟨k + 1, by omega, rfl, by go_num, ?_⟩
        have s0 := (unhide HF1).set (v := .int .i64 x0) (by omega) (by rw [show (k * 5) / 5 = k by omega, show (k * 5) % 5 = 0 by omega, unhide EX]; rfl)
        have s1 := s0.set (v := .int .i64 x1) (by omega) (by rw [show (k * 5 + 1) / 5 = k by omega, show (k * 5 + 1) % 5 = 1 by omega, unhide EX]; rfl)
        have s2 := s1.set (v := .int .i64 x2) (by omega) (by rw [show (k * 5 + 2) / 5 = k by omega, show (k * 5 + 2) % 5 = 2 by omega, unhide EX]; rfl)
        have s3 := s2.set (v := .int .i64 x3) (by omega) (by rw [show (k * 5 + 3) / 5 = k by omega, show (k * 5 + 3) % 5 = 3 by omega, unhide EX]; rfl)
        have s4 := s3.set (v := .string x4) (by omega) (by rw [show (k * 5 + 4) / 5 = k by omega, show (k * 5 + 4) % 5 = 4 by omega, unhide EX]; rfl)
        rw [show (k + 1) * 5 = k * 5 + 5 by omega]
        exact s4
    · have hkk : k = L.length := by omega
      subst hkk
      go_wp2
      go_ret
      exact ⟨_, rfl, Nat.le_refl _, hF.done, hF.below⟩

set_option maxHeartbeats 800000 in
theorem eqFeature_any (x0 : Int) (x1 : Int) (x2 : Int) (x3 : Int) (x4 : ByteArray) (w : World) :
    Calls Try.prog 100 #[vFeature x0 x1 x2 x3 x4, vFeature x0 x1 x2 x3 x4] w fun e w' => e = .returned (.bool true) ∧ Below w.heap.size w w' := by
  unfold vFeature
  go_enter Try.func100, Try.ntmps100
  go_wp2
  go_ret
  exact ⟨rfl, ((Below.refl _ _).alloc (Nat.le_refl _) _).alloc (by simp) _⟩

set_option maxHeartbeats 800000 in
theorem eqFeatureS_any (v v' : Value) (L : List FeatureT) (w : World) (h : RFeature w v L) (h' : RFeature w v' L) :
    Calls Try.prog 74 #[v, v'] w fun e w' => e = .returned (.bool true) ∧ Below w.heap.size w w' := by
  obtain ⟨ao, cap, rfl, hl, hm, hc⟩ := h
  obtain ⟨ao', cap', rfl, _, _, hc'⟩ := h'
  unfold maxLen at hm
  have HC := hide hc
  have HC' := hide hc'
  clear hc hc'
  go_enter Try.func74, Try.ntmps74
  go_wp2
  go_loopg [5] L.length (fun g i wr => Below w.heap.size w wr ∧ ∃ k : Nat, k ≤ L.length ∧ g = L.length - k ∧ i = .int .i64 k)
  case atStart => exact ⟨Below.refl _ _, 0, Nat.zero_le _, rfl, rfl⟩
  case round =>
    obtain ⟨hW, k, hk, rfl, rfl⟩ := hrel
    by_cases hkn : k < L.length
    · obtain ⟨b, o, x0, x1, x2, x3, x4, rfl, hc0, hc1, hc2, hc3, hc4, EX⟩ := recFeatureAt (unhide HC) hkn
      obtain ⟨b', o', x0', x1', x2', x3', x4', rfl, hd0, hd1, hd2, hd3, hd4, EX'⟩ := recFeatureAt (unhide HC') hkn
      have eX := (unhide EX).symm.trans (unhide EX')
      simp only [Prod.mk.injEq] at eX
      obtain ⟨rfl, rfl, rfl, rfl, rfl⟩ := eX
      have r0 := fun x' : Gr wr => gr_cell (wcell3 hc0 hW) x'
      have r0' := fun x' : Gr wr => gr_cell (wcell3 hd0 hW) x'
      have r1 := fun x' : Gr wr => gr_cell (wcell3 hc1 hW) x'
      have r1' := fun x' : Gr wr => gr_cell (wcell3 hd1 hW) x'
      have r2 := fun x' : Gr wr => gr_cell (wcell3 hc2 hW) x'
      have r2' := fun x' : Gr wr => gr_cell (wcell3 hd2 hW) x'
      have r3 := fun x' : Gr wr => gr_cell (wcell3 hc3 hW) x'
      have r3' := fun x' : Gr wr => gr_cell (wcell3 hd3 hW) x'
      have r4 := fun x' : Gr wr => gr_cell (wcell3 hc4 hW) x'
      have r4' := fun x' : Gr wr => gr_cell (wcell3 hd4 hW) x'
      have S1 := hide fun x' : Gr wr => eqFeature_any x0 x1 x2 x3 x4 x'.val
      unfold vFeature at S1
      have HW := hide hW
      have gsome := gr_some wr
      clear hc0 hc1 hc2 hc3 hc4 hd0 hd1 hd2 hd3 hd4 hW
      go_wp2
      refine wp_region_grown (by kernel_rfl) (by kernel_rfl) ?_
      repeat (go_big_quiet_step (fail))
      go_big_quiet_want
      go_big_quiet_op
      go_big_quiet_call (exact calls_grown (unhide S1 _))
      repeat (go_big_quiet_step (fail))
      refine wpQuiet_nil ?_
      intro w1 hw1
      obtain ⟨z', hz⟩ := hw1
      have hb1 : Below wr.heap.size wr w1 := hz ▸ z'.ok
      clear hz gsome
      go_wp2
      go_roundg (L.length - (k + 1))
      case measure => omega
      case rel => exact ⟨Below.step (unhide HW) hb1, k + 1, by omega, rfl, by go_num⟩
    · go_wp2
      go_ret
      exact ⟨rfl, hW⟩

/-- The marks of FeatureS, from k on. -/
def mkFeature (k : Int) (q : Nat) : Value := if q % 5 = 4 then .string (mt (k + (q : Int))) else .int .i64 (k + (q : Int))

set_option maxRecDepth 10000 in
set_option maxHeartbeats 1600000 in
theorem markFeatureS_any (g cap n : Nat) (vs : List Value) (k : Int) (w : World) (h : OwnV w g vs) (hv : n * 5 ≤ vs.length) (hn : n ≤ 1048576) (hk0 : 0 ≤ k) (hk1 : k ≤ 1152921504606846976) :
    Calls Try.prog 76 #[.slice (some ⟨g, 0, none⟩) n cap, .int .i64 k] w fun e w' => e = .returned (.int .i64 (k + 5 * (n : Int))) ∧ Kept (fun b => b = g) w w' ∧ OwnV w' g ((List.range (n * 5)).map (mkFeature k)) := by
  have HM0 := hide (MarkF.start (f := mkFeature k) h hv)
  clear h hv
  go_enter Try.func76, Try.ntmps76
  go_wp2
  go_loopg [1, 5] n (fun gh kv iv wr => ∃ j : Nat, j ≤ n ∧ gh = n - j ∧ iv = .int .i64 j ∧ kv = .int .i64 (k + 5 * (j : Int)) ∧ Kept (fun b => b = g) w wr ∧ MarkF (mkFeature k) g (n * 5) (j * 5) wr)
  case atStart => exact ⟨0, Nat.zero_le _, rfl, rfl, by congr 1; omega, Kept.refl _ _, by rw [Nat.zero_mul]; exact unhide HM0⟩
  case round =>
    obtain ⟨j, hj, rfl, rfl, rfl, hK, hM⟩ := hrel
    clear HM0
    by_cases hjn : j < n
    · have hf := hM.frozen
      obtain ⟨u0', hu0⟩ := hM.cell (q := j * 5) (by omega)
      obtain ⟨u1', hu1⟩ := hM.cell (q := j * 5 + 1) (by omega)
      obtain ⟨u2', hu2⟩ := hM.cell (q := j * 5 + 2) (by omega)
      obtain ⟨u3', hu3⟩ := hM.cell (q := j * 5 + 3) (by omega)
      obtain ⟨u4', hu4⟩ := hM.cell (q := j * 5 + 4) (by omega)
      have HM := hide hM
      have HK := hide hK
      have HTX := hide fun V => markText_any (k + 5 * (j : Int) + 1 + 1 + 1 + 1) V (by omega)
      have hjni : (j : Int) < n := by omega
      clear hM hK
      go_wp2_with fail
      refine (unhide HTX _).mono ?_
      rintro e w1 ⟨rfl, hb⟩
      have s0 := (unhide HM).set (v := (.int .i64 (k + 5 * (j : Int)))) (by omega) (by unfold mkFeature; rw [if_neg (by omega)]; congr 1; omega)
      have s1 := s0.set (v := (.int .i64 (k + 5 * (j : Int) + 1))) (by omega) (by unfold mkFeature; rw [if_neg (by omega)]; congr 1; omega)
      have s2 := s1.set (v := (.int .i64 (k + 5 * (j : Int) + 1 + 1))) (by omega) (by unfold mkFeature; rw [if_neg (by omega)]; congr 1; omega)
      have s3 := s2.set (v := (.int .i64 (k + 5 * (j : Int) + 1 + 1 + 1))) (by omega) (by unfold mkFeature; rw [if_neg (by omega)]; congr 1; omega)
      have HM1 := hide (s3.grow hb)
      have HK1 := hide (Kept.trans (((((unhide HK).setCell (p := ⟨g, j * 5, none⟩) rfl _).setCell (p := ⟨g, j * 5 + 1, none⟩) rfl _).setCell (p := ⟨g, j * 5 + 2, none⟩) rfl _).setCell (p := ⟨g, j * 5 + 3, none⟩) rfl _) (kept_of_below hb))
      clear hb HM HK HTX s0 s1 s2 s3 hu0 hu1 hu2 hu3 hu4 hf
      have hf := (unhide HM1).frozen
      obtain ⟨t4', ht4⟩ := (unhide HM1).cell (q := j * 5 + 4) (by omega)
      have HT : Hid (mkFeature k (j * 5 + 4) = .string (mt (k + 5 * (j : Int) + 1 + 1 + 1 + 1))) := by
        show _ = _
        unfold mkFeature
        rw [if_pos (by omega)]
        congr 2
        omega
      generalize mt (k + 5 * (j : Int) + 1 + 1 + 1 + 1) = tx at *
      go_wp2
      go_roundg (n - (j + 1))
      case measure => omega
      case rel =>
        have s4 := (unhide HM1).set (v := (.string tx)) (by omega) (unhide HT).symm
        refine ⟨j + 1, by omega, rfl, by go_num, by congr 1; omega, ((unhide HK1).setCell (p := ⟨g, j * 5 + 4, none⟩) rfl _), ?_⟩
        rw [show (j + 1) * 5 = j * 5 + 5 by omega]
        exact s4
    · have hjj : j = n := by omega
      subst hjj
      go_wp2
      go_ret
      exact ⟨rfl, hK, hM.done⟩

set_option maxRecDepth 10000 in
set_option maxHeartbeats 1600000 in
theorem heldFeatureS_any (g cap n : Nat) (k : Int) (w : World) (h : OwnV w g ((List.range (n * 5)).map (mkFeature k))) (hn : n ≤ 1048576) (hk0 : 0 ≤ k) (hk1 : k ≤ 1152921504606846976) :
    Calls Try.prog 78 #[.slice (some ⟨g, 0, none⟩) n cap, .int .i64 k] w fun e w' => e = .returned (.int .i64 (k + 5 * (n : Int))) ∧ Below w.heap.size w w' := by
  have H := hide h
  clear h
  go_enter Try.func78, Try.ntmps78
  go_wp2
  go_loopg [1, 5] n (fun gh kv iv wr => Below w.heap.size w wr ∧ ∃ j : Nat, j ≤ n ∧ gh = n - j ∧ iv = .int .i64 j ∧ kv = .int .i64 (k + 5 * (j : Int)))
  case atStart => exact ⟨Below.refl _ _, 0, Nat.zero_le _, rfl, rfl, by congr 1; omega⟩
  case round =>
    obtain ⟨hW, j, hj, rfl, rfl, rfl⟩ := hrel
    by_cases hjn : j < n
    · have hO := OwnV.step (unhide H) hW
      have c0 : wr.cell? ⟨g, j * 5, none⟩ = some (.int .i64 (k + 5 * (j : Int))) := by rw [hO.cell (i := j * 5) (v := mkFeature k (j * 5)) (by simp [show j * 5 < n * 5 by omega])]; unfold mkFeature; rw [if_neg (by omega)]; congr 2; omega
      have c1 : wr.cell? ⟨g, j * 5 + 1, none⟩ = some (.int .i64 (k + 5 * (j : Int) + 1)) := by rw [hO.cell (i := j * 5 + 1) (v := mkFeature k (j * 5 + 1)) (by simp [show j * 5 + 1 < n * 5 by omega])]; unfold mkFeature; rw [if_neg (by omega)]; congr 2; omega
      have c2 : wr.cell? ⟨g, j * 5 + 2, none⟩ = some (.int .i64 (k + 5 * (j : Int) + 1 + 1)) := by rw [hO.cell (i := j * 5 + 2) (v := mkFeature k (j * 5 + 2)) (by simp [show j * 5 + 2 < n * 5 by omega])]; unfold mkFeature; rw [if_neg (by omega)]; congr 2; omega
      have c3 : wr.cell? ⟨g, j * 5 + 3, none⟩ = some (.int .i64 (k + 5 * (j : Int) + 1 + 1 + 1)) := by rw [hO.cell (i := j * 5 + 3) (v := mkFeature k (j * 5 + 3)) (by simp [show j * 5 + 3 < n * 5 by omega])]; unfold mkFeature; rw [if_neg (by omega)]; congr 2; omega
      have c4 : wr.cell? ⟨g, j * 5 + 4, none⟩ = some (.string (mt (k + 5 * (j : Int) + 1 + 1 + 1 + 1))) := by rw [hO.cell (i := j * 5 + 4) (v := mkFeature k (j * 5 + 4)) (by simp [show j * 5 + 4 < n * 5 by omega])]; unfold mkFeature; rw [if_pos (by omega)]; congr 3; omega
      have HO := hide hO
      have HW := hide hW
      have S1 := hide fun x' : Gr wr => markText_any (k + 5 * (j : Int) + 1 + 1 + 1 + 1) x'.val (by omega)
      have hjni : (j : Int) < n := by omega
      clear hO hW
      generalize mt (k + 5 * (j : Int) + 1 + 1 + 1 + 1) = tx at *
      have rT := fun x' : Gr wr => gr_cell c4 x'
      have gsome := gr_some wr
      go_wp2
      refine wp_region_grown (by kernel_rfl) (by kernel_rfl) ?_
      repeat (go_big_quiet_step (fail))
      go_big_quiet_want
      go_big_quiet_op
      go_big_quiet_call (exact calls_grown (unhide S1 _))
      repeat (go_big_quiet_step (fail))
      refine wpQuiet_nil ?_
      intro w1 hw1
      obtain ⟨z', hz⟩ := hw1
      have hb : Below wr.heap.size wr w1 := hz ▸ z'.ok
      have HW1 := hide (Below.step (unhide HW) hb)
      clear hz gsome rT S1 hb HW HO c0 c1 c2 c3
      have hO := OwnV.step (unhide H) (unhide HW1)

      clear hO
      go_wp2
      go_roundg (n - (j + 1))
      case measure => omega
      case rel => exact ⟨unhide HW1, j + 1, by omega, rfl, by go_num, by congr 1; omega⟩
    · have hjj : j = n := by omega
      subst hjj
      go_wp2
      go_ret
      exact ⟨rfl, hW⟩

end Go.Proofs.Ytmpicamenjnkkaa

/- Contracts of the specification's l1Water and of the program's bothHalves. -/
namespace Go.Proofs.Ytmpicamenjnkkaa
open Go.RowKit

theorem rows0_le {w : World} {v : Value} {R : List (List Int)} (h : RowsIn w v R) {r : Nat} (hr : r < R.length) : (R.getD r []).length ≤ 9223372036854775807 := by
  obtain ⟨ao', cap', _, _, _, hc⟩ := h
  obtain ⟨b, o, ar, m, cr, _, _, _, EM, hm0⟩ := rowAt hc hr
  rw [unhide EM]; exact hm0

/-- The half-breadth at a station and a water line. -/
def cellOf (R : List (List Int)) (s c : Nat) : Int := (R.getD s []).getD c 0

end Go.Proofs.Ytmpicamenjnkkaa

/- The area at a water line as a plain function, and the contracts of the specification's and the program's Plane: both tell it. -/
namespace Go.Proofs.Ytmpicamenjnkkaa
open Go.RowKit

theorem ret_int {k : IntKind} {a b : Int} (h : a = b) : Ending.returned (.int k a) = .returned (.int k b) := by rw [h]

/-- f 0 + f 1 + .. + f (k - 1). -/
def sumTo (f : Nat → Int) : Nat → Int
  | 0 => 0
  | k + 1 => sumTo f k + f k

theorem sumTo_bd {f : Nat → Int} {B : Int} {n : Nat} (h : ∀ i, i < n → 0 ≤ f i ∧ f i ≤ B) : ∀ k, k ≤ n → 0 ≤ sumTo f k ∧ sumTo f k ≤ k * B
  | 0, _ => by simp [sumTo]
  | k + 1, hk => by
    have h1 := sumTo_bd h k (by omega)
    have h2 := h k (by omega)
    have e : ((k + 1 : Nat) : Int) * B = k * B + B := by
      rw [Int.natCast_add, Int.add_mul]; simp
    simp only [sumTo]
    omega

theorem mul_bd {a b A B : Int} (h1 : 0 ≤ a) (h2 : a ≤ A) (h3 : 0 ≤ b) (h4 : b ≤ B) : 0 ≤ a * b ∧ a * b ≤ A * B :=
  ⟨Int.mul_nonneg h1 h3, Int.mul_le_mul h2 h4 h3 (Int.le_trans h1 h2)⟩

/-- What a right hull is. -/
structure Right (step rise : Int) (R : List (List Int)) : Prop where
  step1 : 1 ≤ step
  step2 : step ≤ 100
  rise1 : 1 ≤ rise
  rise2 : rise ≤ 20
  len1 : 2 ≤ R.length
  len2 : R.length ≤ 12
  wat1 : 2 ≤ (R.getD 0 []).length
  wat2 : (R.getD 0 []).length ≤ 10
  even : ∀ r, r < R.length → (R.getD r []).length = (R.getD 0 []).length
  cells : ∀ r c, r < R.length → c < (R.getD 0 []).length → 0 ≤ cellOf R r c ∧ cellOf R r c ≤ 50

theorem hullOk_right {step rise : Int} {R : List (List Int)} (h : hullOk step rise R = true) : Right step rise R := by
  unfold hullOk at h
  simp only [Bool.and_eq_true] at h
  obtain ⟨⟨⟨h1, h2⟩, h3⟩, h4⟩ := h
  have h1 := inB_true h1
  have h2 := inB_true h2
  have h3 := inB_true h3
  have row : ∀ r, r < R.length → (R.getD r []).length = (R.getD 0 []).length ∧ inB (R.getD r []).length 2 10 = true ∧ ((R.getD r []).all fun x => inB x 0 50) = true := fun r hr => by
    have := all_at (d := []) h4 hr
    unfold rowOk at this
    simp only [Bool.and_eq_true, beq_iff_eq] at this
    exact ⟨this.1.1, this.1.2, this.2⟩
  have r0 := row 0 (by omega)
  have i0 := inB_true r0.2.1
  refine ⟨h1.1, h1.2, h2.1, h2.2, by omega, by omega, by omega, by omega, fun r hr => (row r hr).1, fun r c hr hc => ?_⟩
  have := all_at (d := 0) (row r hr).2.2 (show c < (R.getD r []).length by rw [(row r hr).1]; exact hc)
  exact inB_true this

def planeF (step : Int) (R : List (List Int)) (c : Nat) (s : Nat) : Int := step * (cellOf R s c + cellOf R (s + 1) c)

theorem planeF_bd {step rise : Int} {R : List (List Int)} (h : Right step rise R) {c : Nat} (hc : c < (R.getD 0 []).length) : ∀ s, s < R.length - 1 → 0 ≤ planeF step R c s ∧ planeF step R c s ≤ 10000 := fun s hs => by
  have a := h.cells s c (by omega) hc
  have b := h.cells (s + 1) c (by omega) hc
  have h1 := h.step1
  have h2 := h.step2
  exact mul_bd (A := 100) (B := 100) (by omega) h2 (by omega) (by omega)

def plane (step rise : Int) (R : List (List Int)) (c : Int) : Int := if waterOk step rise R c = true then sumTo (planeF step R c.toNat) (R.length - 1) else 0

/-- Two rows beside each other, their values written out, with the numbers at place j. -/
theorem two_cells {w : World} {ao : Option Addr} {R : List (List Int)} {k j : Nat} (h : ∀ r, r < R.length → ∃ b o vr, ao = some ⟨b, o, none⟩ ∧ w.cell? ⟨b, o + r, none⟩ = some vr ∧ IntsIn w vr (R.getD r [])) (hk : k + 1 < R.length)
    (hj : j < (R.getD k []).length) (hj' : j < (R.getD (k + 1) []).length) :
    ∃ b o b1 o1 m cr b2 o2 m' cr', ao = some ⟨b, o, none⟩ ∧ w.cell? ⟨b, o + k, none⟩ = some (.slice (some ⟨b1, o1, none⟩) m cr) ∧ w.cell? ⟨b, o + (k + 1), none⟩ = some (.slice (some ⟨b2, o2, none⟩) m' cr') ∧
      w.cell? ⟨b1, o1 + j, none⟩ = some (.int .i64 (cellOf R k j)) ∧ w.cell? ⟨b2, o2 + j, none⟩ = some (.int .i64 (cellOf R (k + 1) j)) ∧ (j : Int) < m ∧ (j : Int) < m' := by
  obtain ⟨b, o, ar, m, cr, rfl, hcell, hrow, EM, hm0⟩ := rowAt h (show k < R.length by omega)
  obtain ⟨b', o', ar', m', cr', eb, hcell', hrow', EM', hm0'⟩ := rowAt h hk
  simp only [Option.some.injEq, Addr.mk.injEq, and_true] at eb
  obtain ⟨rfl, rfl⟩ := eb
  rw [unhide EM] at hj
  rw [unhide EM'] at hj'
  obtain ⟨b1, o1, rfl, hx⟩ := intAt hrow hj
  obtain ⟨b2, o2, rfl, hy⟩ := intAt hrow' hj'
  exact ⟨b, o, b1, o1, m, cr, b2, o2, m', cr', rfl, hcell, hcell', hx, hy, by omega, by omega⟩

end Go.Proofs.Ytmpicamenjnkkaa

/- Twice the volumes of the strips as a plain function; the contracts of the program's stripHalves and Strips2. -/
namespace Go.Proofs.Ytmpicamenjnkkaa
open Go.RowKit

def halvesF (R : List (List Int)) (s k : Nat) : Int := cellOf R s k + cellOf R (s + 1) k + cellOf R s (k + 1) + cellOf R (s + 1) (k + 1)

theorem halvesF_bd {step rise : Int} {R : List (List Int)} (h : Right step rise R) {s c : Nat} (hs : s + 1 < R.length) (hc : c < (R.getD 0 []).length) : ∀ k, k < c → 0 ≤ halvesF R s k ∧ halvesF R s k ≤ 200 := fun k hk => by
  have a1 := h.cells s k (by omega) (by omega)
  have a2 := h.cells (s + 1) k (by omega) (by omega)
  have a3 := h.cells s (k + 1) (by omega) (by omega)
  have a4 := h.cells (s + 1) (k + 1) (by omega) (by omega)
  unfold halvesF
  omega

def stripH (R : List (List Int)) (c s : Nat) : Int := sumTo (halvesF R s) c

theorem stripH_bd {step rise : Int} {R : List (List Int)} (h : Right step rise R) {s c : Nat} (hs : s + 1 < R.length) (hc : c < (R.getD 0 []).length) : 0 ≤ stripH R c s ∧ stripH R c s ≤ 2000 := by
  have := sumTo_bd (halvesF_bd h hs hc) c (Nat.le_refl _)
  have := h.wat2
  unfold stripH
  omega

/-- Twice the volume of a strip up to a water line. -/
def strip2 (step rise : Int) (R : List (List Int)) (c s : Nat) : Int := rise * step * stripH R c s

theorem strip2_bd {step rise : Int} {R : List (List Int)} (h : Right step rise R) {s c : Nat} (hs : s + 1 < R.length) (hc : c < (R.getD 0 []).length) :
    (0 ≤ rise * step ∧ rise * step ≤ 2000) ∧ (0 ≤ rise * step * stripH R c s ∧ rise * step * stripH R c s ≤ 4000000) := by
  have a := mul_bd (A := 20) (B := 100) (by have := h.rise1; omega) h.rise2 (by have := h.step1; omega) h.step2
  have b := stripH_bd h hs hc
  have d := mul_bd (A := 2000) (B := 2000) a.1 (by omega) b.1 b.2
  exact ⟨⟨a.1, by omega⟩, ⟨d.1, by omega⟩⟩

def strips (step rise : Int) (R : List (List Int)) (c : Int) : List Int := if waterOk step rise R c = true then (List.range (R.length - 1)).map (strip2 step rise R c.toNat) else []

/-- A slice that the call itself made: its block, where it has an element, lies from B on. -/
def OwnSl (B : Nat) (w : World) (v : Value) (xs : List Int) : Prop :=
  ∃ ao cap, v = .slice ao xs.length cap ∧ xs.length ≤ cap ∧ cap ≤ maxLen ∧ (xs ≠ [] → ∃ g, ao = some ⟨g, 0, none⟩ ∧ B ≤ g ∧ OwnV w g (ints xs))

theorem OwnSl.intsIn {B : Nat} {w : World} {v : Value} {xs : List Int} (h : OwnSl B w v xs) : IntsIn w v xs := by
  obtain ⟨ao, cap, rfl, h1, h2, h3⟩ := h
  refine ⟨ao, cap, rfl, h1, h2, fun i hi => ?_⟩
  obtain ⟨g, rfl, _, ho⟩ := h3 (fun e => by rw [e] at hi; simp at hi)
  exact ⟨g, 0, rfl, by rw [Nat.zero_add]; exact ho.cell (ints_get xs hi)⟩

theorem OwnSl.below {B : Nat} {w w' : World} {v : Value} {xs : List Int} (h : OwnSl B w v xs) (hb : Below w.heap.size w w') : OwnSl B w' v xs := by
  obtain ⟨ao, cap, rfl, h1, h2, h3⟩ := h
  refine ⟨ao, cap, rfl, h1, h2, fun hne => ?_⟩
  obtain ⟨g, rfl, hg, ho⟩ := h3 hne
  exact ⟨g, rfl, hg, ho.below hb ho.lt⟩

theorem OwnSl.mono {B B' : Nat} {w : World} {v : Value} {xs : List Int} (h : OwnSl B w v xs) (hB : B' ≤ B) : OwnSl B' w v xs := by
  obtain ⟨ao, cap, rfl, h1, h2, h3⟩ := h
  refine ⟨ao, cap, rfl, h1, h2, fun hne => ?_⟩
  obtain ⟨g, rfl, hg, ho⟩ := h3 hne
  exact ⟨g, rfl, Nat.le_trans hB hg, ho⟩

/-- The new list of strips, k of its n cells filled. -/
structure FillS (w wr : World) (f : Nat → Int) (n k : Nat) : Prop where
  below : Below w.heap.size w wr
  row : wr.rowIs w.heap.size 3 n (fun i => if i < k then .int .i64 (f i) else .int .i64 0)

theorem fillS_start (w : World) (f : Nat → Int) (n : Nat) : FillS w (w.alloc (.cells (madeCells #[.int .i64 0] n) 3)) f n 0 :=
  ⟨(Below.refl _ _).alloc (Nat.le_refl _) _, (World.rowIs_made w _ n 3).congr (fun j _ => by simp)⟩

theorem fillS_step {w wr w1 : World} {f : Nat → Int} {n k : Nat} (h : FillS w wr f n k) (hb : Below wr.heap.size wr w1) : FillS w (w1.setCell ⟨w.heap.size, k, none⟩ (.int .i64 (f k))) f n (k + 1) := by
  refine ⟨(Below.step h.below hb).setCell (Nat.le_refl _) _, ((h.row.of_block (hb.block _ h.row.lt)).set k _).congr (fun i _ => ?_)⟩
  by_cases e : i = k
  · subst e; simp
  · rw [if_neg e]
    by_cases hlt : i < k
    · rw [if_pos hlt, if_pos (by omega)]
    · rw [if_neg hlt, if_neg (by omega)]

theorem fillS_done {w wr : World} {f : Nat → Int} {n : Nat} (h : FillS w wr f n n) (hn : n ≤ maxLen) : OwnSl w.heap.size wr (.slice (some ⟨w.heap.size, 0, none⟩) n n) ((List.range n).map f) := by
  refine ⟨_, n, by simp, by simp, hn, fun _ => ⟨_, rfl, Nat.le_refl _, ?_⟩⟩
  exact rowIs_ownV h.row (by simp [ints]) (fun i hi => by rw [if_pos hi]; simp [ints, hi])

end Go.Proofs.Ytmpicamenjnkkaa

/- The contract of the program's Strips2: the strips, in memory of its own. -/
namespace Go.Proofs.Ytmpicamenjnkkaa
open Go.RowKit

theorem ret_val {a b : Value} (h : a = b) : Ending.returned a = .returned b := by rw [h]

end Go.Proofs.Ytmpicamenjnkkaa

/- The contract of the specification's Strips2: the strips, in memory of its own. -/
namespace Go.Proofs.Ytmpicamenjnkkaa
open Go.RowKit

theorem ownsRow_below {w w' : World} {base n size : Nat} {e : TypeId} {v : Value} {xs : List Value} (h : w.ownsRow base e size v n xs) (hb : Below w.heap.size w w') : w'.ownsRow base e size v n xs := by
  obtain ⟨h1, h2⟩ := h
  refine ⟨h1, ?_⟩
  rcases h2 with h2 | ⟨g, cap, cur, hv, hg, hh, r⟩
  · exact Or.inl h2
  · obtain ⟨hlt, _⟩ := Array.getElem?_eq_some_iff.1 hh
    exact Or.inr ⟨g, cap, cur, hv, hg, (hb.block g hlt).trans hh, r⟩

theorem ownsRow_ownSl {w : World} {base : Nat} {e : TypeId} {v : Value} {n : Nat} {xs : List Int} (h : w.ownsRow base e 1 v n (ints xs)) : OwnSl base w v xs ∧ ∃ ao cap, v = .slice ao n cap := by
  obtain ⟨h1, h2⟩ := h
  have hn : xs.length = n := by rw [ints_length] at h1; omega
  subst hn
  rcases h2 with ⟨rfl, h0⟩ | ⟨g, cap, cur, rfl, hg, hh, hc, hm, hs, ht⟩
  · have : xs = [] := List.length_eq_zero_iff.1 h0
    subst this
    exact ⟨⟨none, 0, rfl, Nat.le_refl _, Nat.zero_le _, fun h => absurd rfl h⟩, none, 0, rfl⟩
  · refine ⟨⟨_, cap, rfl, hc, hm, fun _ => ⟨g, rfl, hg, cur, e, hh, fun i hi => ?_⟩⟩, _, cap, rfl⟩
    rw [← ht]
    rw [ints_length] at hi
    simp [hi]

theorem range_snoc (f : Nat → Int) (k : Nat) : ints ((List.range (k + 1)).map f) = ints ((List.range k).map f) ++ [.int .i64 (f k)] := by
  simp [ints, List.range_succ]

theorem range_len (f : Nat → Int) (k : Nat) : ((List.range k).map f).length = k := by simp

/-- Two rows beside each other, at two places beside each other. -/
theorem four_cells {w : World} {ao : Option Addr} {R : List (List Int)} {k j : Nat} (h : ∀ r, r < R.length → ∃ b o vr, ao = some ⟨b, o, none⟩ ∧ w.cell? ⟨b, o + r, none⟩ = some vr ∧ IntsIn w vr (R.getD r [])) (hk : k + 1 < R.length)
    (hj : j + 1 < (R.getD k []).length) (hj' : j + 1 < (R.getD (k + 1) []).length) :
    ∃ b o b1 o1 m cr b2 o2 m' cr', ao = some ⟨b, o, none⟩ ∧ w.cell? ⟨b, o + k, none⟩ = some (.slice (some ⟨b1, o1, none⟩) m cr) ∧ w.cell? ⟨b, o + (k + 1), none⟩ = some (.slice (some ⟨b2, o2, none⟩) m' cr') ∧
      w.cell? ⟨b1, o1 + j, none⟩ = some (.int .i64 (cellOf R k j)) ∧ w.cell? ⟨b2, o2 + j, none⟩ = some (.int .i64 (cellOf R (k + 1) j)) ∧
      w.cell? ⟨b1, o1 + (j + 1), none⟩ = some (.int .i64 (cellOf R k (j + 1))) ∧ w.cell? ⟨b2, o2 + (j + 1), none⟩ = some (.int .i64 (cellOf R (k + 1) (j + 1))) ∧ (j : Int) + 1 < m ∧ (j : Int) + 1 < m' := by
  obtain ⟨b, o, ar, m, cr, rfl, hcell, hrow, EM, hm0⟩ := rowAt h (show k < R.length by omega)
  obtain ⟨b', o', ar', m', cr', eb, hcell', hrow', EM', hm0'⟩ := rowAt h hk
  simp only [Option.some.injEq, Addr.mk.injEq, and_true] at eb
  obtain ⟨rfl, rfl⟩ := eb
  rw [unhide EM] at hj
  rw [unhide EM'] at hj'
  obtain ⟨b1, o1, rfl, hx⟩ := intAt hrow (show j < m by omega)
  obtain ⟨b2, o2, rfl, hy⟩ := intAt hrow' (show j < m' by omega)
  obtain ⟨_, _, e1, hz⟩ := intAt hrow hj
  obtain ⟨_, _, e2, hu⟩ := intAt hrow' hj'
  simp only [Option.some.injEq, Addr.mk.injEq, and_true] at e1 e2
  obtain ⟨rfl, rfl⟩ := e1
  obtain ⟨rfl, rfl⟩ := e2
  exact ⟨b, o, b1, o1, m, cr, b2, o2, m', cr', rfl, hcell, hcell', hx, hy, hz, hu, by omega, by omega⟩

end Go.Proofs.Ytmpicamenjnkkaa

/- Contracts of the laws' own markers and holders: markIntS, heldIntS, markIntSS, heldIntSS, markHull, heldHull. -/
namespace Go.Proofs.Ytmpicamenjnkkaa
open Go.RowKit

/-- k, k + 1, .. : n numbers. -/
def marks (k : Int) (n : Nat) : List Int := (List.range n).map fun i : Nat => k + (i : Int)

theorem marks_len (k : Int) (n : Nat) : (marks k n).length = n := by simp [marks]
theorem marks_get (k : Int) {n i : Nat} (h : i < n) : (marks k n).getD i 0 = k + i := by simp [marks, List.getD, h]

/-- i of n numbers are marked. -/
def midway (xs : List Int) (k : Int) (i : Nat) : List Int := (List.range xs.length).map fun j : Nat => if j < i then k + (j : Int) else xs.getD j 0

theorem midway_len (xs : List Int) (k : Int) (i : Nat) : (midway xs k i).length = xs.length := by simp [midway]

theorem midway_zero (xs : List Int) (k : Int) : midway xs k 0 = xs := by
  apply List.ext_getElem
  · simp [midway]
  · intro i h1 h2
    simp [midway, List.getElem?_eq_getElem h2]

theorem midway_step (xs : List Int) (k : Int) (i : Nat) : (midway xs k i).set i (k + i) = midway xs k (i + 1) := by
  apply List.ext_getElem
  · simp [midway]
  · intro j h1 h2
    rw [List.getElem_set]
    simp only [midway, List.getElem_map, List.getElem_range]
    by_cases e : i = j
    · subst e; simp
    · rw [if_neg e]
      by_cases hlt : j < i
      · rw [if_pos hlt, if_pos (by omega)]
      · rw [if_neg hlt, if_neg (by omega)]

theorem midway_done (xs : List Int) (k : Int) : midway xs k xs.length = marks k xs.length := by
  unfold midway marks
  refine List.map_congr_left fun j hj => ?_
  rw [if_pos (List.mem_range.1 hj)]

set_option maxHeartbeats 800000 in
theorem markIntS_any (ao : Option Addr) (cap : Nat) (xs : List Int) (k : Int) (g : Nat) (w : World) (h : xs ≠ [] → ao = some ⟨g, 0, none⟩ ∧ OwnV w g (ints xs)) (hn : xs.length ≤ 1048576) (hk0 : 0 ≤ k) (hk1 : k ≤ 4611686018427387904) :
    Calls Try.prog 36 #[.slice ao xs.length cap, .int .i64 k] w fun e w' => e = .returned (.int .i64 (k + xs.length)) ∧ Kept (fun b => b = g ∧ xs ≠ []) w w' ∧ (xs ≠ [] → OwnV w' g (ints (marks k xs.length))) := by
  have HH := hide h
  clear h
  go_enter Try.func36, Try.ntmps36
  go_wp2
  go_loopg [1, 5] xs.length (fun gh kv iv wr => ∃ i : Nat, i ≤ xs.length ∧ gh = xs.length - i ∧ iv = .int .i64 i ∧ kv = .int .i64 (k + i) ∧ Kept (fun b => b = g ∧ xs ≠ []) w wr ∧ (xs ≠ [] → OwnV wr g (ints (midway xs k i))))
  case atStart => exact ⟨0, Nat.zero_le _, rfl, rfl, by go_num, Kept.refl _ _, fun hne => by rw [midway_zero]; exact (unhide HH hne).2⟩
  case round =>
    obtain ⟨i, hi, rfl, rfl, rfl, hK, hO⟩ := hrel
    by_cases hin : i < xs.length
    · have hne : xs ≠ [] := fun e => by rw [e] at hin; simp at hin
      obtain ⟨rfl, _⟩ := unhide HH hne
      have ho := hO hne
      have g1 : wr.cell? ⟨g, i, none⟩ = some (.int .i64 ((midway xs k i).getD i 0)) := ho.cell (ints_get _ (by rw [midway_len]; exact hin))
      have g2 : wr.frozen? ⟨g, i, none⟩ = false := ho.frozen i
      have HO' := hide (ho.set i (.int .i64 (k + i)) (by rw [ints_length, midway_len]; exact hin))
      have HK := hide hK
      rw [ints_set, midway_step] at HO'
      clear ho hO hK HH
      generalize (midway xs k i).getD i 0 = x at *
      go_wp2
      go_roundg (xs.length - (i + 1))
      case measure => omega
      case rel => exact ⟨i + 1, by omega, rfl, by go_num, by go_num, (unhide HK).setCell ⟨rfl, hne⟩ _, fun _ => unhide HO'⟩
    · have hii : i = xs.length := by omega
      subst hii
      have HK := hide hK
      have HO := hide hO
      clear hK hO
      go_wp2
      go_ret
      exact ⟨rfl, unhide HK, fun hne => by rw [← midway_done]; exact unhide HO hne⟩

set_option maxHeartbeats 800000 in
theorem heldIntS_any (v : Value) (xs : List Int) (k : Int) (w : World) (h : IntsIn w v xs) (hx : xs = marks k xs.length) (hn : xs.length ≤ 1048576) (hk0 : 0 ≤ k) (hk1 : k ≤ 4611686018427387904) :
    Calls Try.prog 37 #[v, .int .i64 k] w fun e w' => e = .returned (.int .i64 (k + xs.length)) ∧ w = w' := by
  obtain ⟨ao, cap, rfl, hl, hm, hc⟩ := h
  have HC := hide hc
  have HX : Hid (∀ i, i < xs.length → xs.getD i 0 = k + i) := fun i hi => by rw [hx]; exact marks_get k hi
  clear hc hl hm hx
  go_enter Try.func37, Try.ntmps37
  go_wp2
  go_loopg [1, 5] xs.length (fun gh kv iv wr => w = wr ∧ ∃ i : Nat, i ≤ xs.length ∧ gh = xs.length - i ∧ iv = .int .i64 i ∧ kv = .int .i64 (k + i))
  case atStart => exact ⟨rfl, 0, Nat.zero_le _, rfl, rfl, by go_num⟩
  case round =>
    obtain ⟨rfl, i, hi, rfl, rfl, rfl⟩ := hrel
    by_cases hin : i < xs.length
    · obtain ⟨b, o, rfl, hcell⟩ := unhide HC i hin
      rw [unhide HX i hin] at hcell
      go_wp2
      go_roundg (xs.length - (i + 1))
      case measure => omega
      case rel => exact ⟨rfl, i + 1, by omega, rfl, by go_num, by go_num⟩
    · have hii : i = xs.length := by omega
      subst hii
      go_wp2
      go_ret
      exact ⟨rfl, rfl⟩

end Go.Proofs.Ytmpicamenjnkkaa

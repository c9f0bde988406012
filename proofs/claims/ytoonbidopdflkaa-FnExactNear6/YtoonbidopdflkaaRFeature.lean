/- Records of Feature (ints and texts): words; contracts of the laws' own szFeature, szFeatureS, toFeature, toFeatureS, eqFeature, eqFeatureS, markFeatureS, heldFeatureS. Written by wip/mkrecm.py. -/
import Derived.Test.YtoonbidopdflkaaWalkF
import Derived.Test.YtoonbidopdflkaaMrA
import Derived.Test.YtoonbidopdflkaaMtA
import Derived.Test.YtoonbidopdflkaaExactKit
namespace Go.Proofs.Ytoonbidopdflkaa
open Go.RowKit

abbrev FeatureT := Int × Int × Int × Int × ByteArray
def eFeature (x : FeatureT) : Nat → Value
  | 0 => .int .i64 x.1
  | 1 => .int .i64 x.2.1
  | 2 => .int .i64 x.2.2.1
  | 3 => .int .i64 x.2.2.2.1
  | _ => .string x.2.2.2.2
def vFeature (x0 : Int) (x1 : Int) (x2 : Int) (x3 : Int) (x4 : ByteArray) : Value := .agg #[.int .i64 x0, .int .i64 x1, .int .i64 x2, .int .i64 x3, .string x4]
abbrev RFeature := RecsIn 5 eFeature
theorem recFeatureAt {w : World} {ao : Option Addr} {L : List FeatureT} {k : Nat} (h : ∀ i, i < L.length → ∃ b o, ao = some ⟨b, o, none⟩ ∧ ∀ j, j < 5 → w.cell? ⟨b, o + (i * 5 + j), none⟩ = some (eFeature (L.getD i default) j)) (hk : k < L.length) :
    ∃ b o x0 x1 x2 x3 x4, ao = some ⟨b, o, none⟩ ∧ w.cell? ⟨b, o + k * 5, none⟩ = some (.int .i64 x0) ∧ w.cell? ⟨b, o + k * 5 + 1, none⟩ = some (.int .i64 x1) ∧ w.cell? ⟨b, o + k * 5 + 2, none⟩ = some (.int .i64 x2) ∧ w.cell? ⟨b, o + k * 5 + 3, none⟩ = some (.int .i64 x3) ∧ w.cell? ⟨b, o + k * 5 + 4, none⟩ = some (.string x4) ∧ Hid (L.getD k default = (x0, x1, x2, x3, x4)) := by
  obtain ⟨b, o, e, hc⟩ := h k hk
  exact ⟨b, o, _, _, _, _, _, e, hc 0 (by omega), hc 1 (by omega), hc 2 (by omega), hc 3 (by omega), hc 4 (by omega), rfl⟩
theorem Try.infoFeature : (Try.prog.info? 95).map (fun i => (i.zero, i.size, i.bytes)) = some (some (vFeature 0 0 0 0 ⟨#[]⟩), 5, 48) := by kernel_rfl

def txtFeature (x : FeatureT) : ByteArray := x.2.2.2.2
set_option maxHeartbeats 400000 in
theorem szFeature_any (x0 : Int) (x1 : Int) (x2 : Int) (x3 : Int) (x4 : ByteArray) (left : Int) (w : World) (h0 : 0 ≤ left) (h1 : left ≤ 1048576) (ht : x4.size ≤ maxLen) :
    Calls Try.prog 103 #[vFeature x0 x1 x2 x3 x4, .int .i64 left] w fun e w' => ∃ r, e = .returned (.int .i64 r) ∧ -1 ≤ r ∧ r ≤ 1048576 ∧ Below w.heap.size w w' := by
  unfold vFeature
  unfold maxLen at ht
  obtain ⟨m, em⟩ : ∃ m : Nat, x4.size = m := ⟨_, rfl⟩
  rw [em] at ht
  have q : IntKind.i64.wrap (left - (m : Int)) = left - (m : Int) := by rw [IntKind.wrap_i64]; omega
  by_cases hlt : left < m
  · go_enter Try.func103, Try.ntmps103
    go_wp2
    go_ret
    exact ⟨_, rfl, by omega, by omega, Below.alloc1 _ _⟩
  · go_enter Try.func103, Try.ntmps103
    go_wp2
    go_ret
    exact ⟨_, rfl, by omega, by omega, Below.alloc1 _ _⟩

set_option maxHeartbeats 800000 in
theorem szFeatureS_any (v : Value) (L : List FeatureT) (left : Int) (w : World) (h : RFeature w v L) (hT : ∀ i, i < L.length → (txtFeature (L.getD i default)).size ≤ maxLen) (h0 : 0 ≤ left) (h1 : left ≤ 1048576) :
    Calls Try.prog 74 #[v, .int .i64 left] w fun e w' => ∃ r, e = .returned (.int .i64 r) ∧ SizedL L.length r ∧ Below w.heap.size w w' := by
  obtain ⟨ao, cap, rfl, hl, hm, hc⟩ := h
  unfold maxLen at hm
  have HC := hide hc
  have HTX := hide hT
  clear hc hT
  by_cases hlt : left < L.length
  · go_enter Try.func74, Try.ntmps74
    go_wp2
    go_ret
    exact ⟨_, rfl, ⟨by omega, by omega, fun h => by omega⟩, Below.refl _ _⟩
  · have hL : L.length ≤ 1048576 := by omega
    go_enter Try.func74, Try.ntmps74
    go_wp2
    go_loopg [1, 5] L.length (fun g lv iv wr => ∃ k : Nat, k ≤ L.length ∧ g = L.length - k ∧ iv = .int .i64 k ∧ (∃ l : Int, lv = .int .i64 l ∧ 0 ≤ l ∧ l ≤ 1048576) ∧ Below w.heap.size w wr)
    case atStart => exact ⟨0, Nat.zero_le _, rfl, rfl, ⟨_, rfl, by omega, by omega⟩, Below.refl _ _⟩
    case round =>
      obtain ⟨k, hk, rfl, rfl, ⟨l, rfl, hl0, hl1⟩, hW⟩ := hrel
      by_cases hkn : k < L.length
      · obtain ⟨b, o, x0, x1, x2, x3, x4, rfl, hc0, hc1, hc2, hc3, hc4, EX⟩ := recFeatureAt (unhide HC) hkn
        have hts := unhide HTX k hkn
        rw [unhide EX] at hts
        have g0 := wcell3 hc0 hW
        have g1 := wcell3 hc1 hW
        have g2 := wcell3 hc2 hW
        have g3 := wcell3 hc3 hW
        have g4 := wcell3 hc4 hW
        have HW := hide hW
        have HSZ := hide fun V => szFeature_any x0 x1 x2 x3 x4 l V hl0 hl1 hts
        unfold vFeature at HSZ
        have hki : (k : Int) < L.length := by omega
        clear hc0 hc1 hc2 hc3 hc4 hW hts
        go_wp2_with fail
        refine (unhide HSZ _).mono ?_
        rintro e w1 ⟨r, rfl, hr0, hr1, hb⟩
        have HW1 := hide (Below.step (unhide HW) hb)
        clear hb HSZ HW
        by_cases hr : r < 0
        · go_wp2
          go_ret
          exact ⟨_, rfl, ⟨by omega, by omega, fun h => by omega⟩, unhide HW1⟩
        · go_wp2
          go_roundg (L.length - (k + 1))
          case measure => omega
          case rel => exact ⟨k + 1, by omega, rfl, by go_num, ⟨r, rfl, by omega, by omega⟩, unhide HW1⟩
      · have hki : ¬ (k : Int) < L.length := by omega
        go_wp2
        go_ret
        exact ⟨_, rfl, ⟨by omega, by omega, fun _ => hL⟩, hW⟩

set_option maxHeartbeats 800000 in
theorem toFeature_any (x0 : Int) (x1 : Int) (x2 : Int) (x3 : Int) (x4 : ByteArray) (w : World) :
    Calls Try.prog 104 #[vFeature x0 x1 x2 x3 x4] w fun e w' => e = .returned (vFeature x0 x1 x2 x3 x4) ∧ Below w.heap.size w w' := by
  unfold vFeature
  go_enter Try.func104, Try.ntmps104
  go_wp2
  refine bodyPost_ret (v := vFeature x0 x1 x2 x3 x4) (by simp [results, Try.results104, go_sem, vFeature]) rfl ⟨rfl, ?_⟩
  exact (((Below.refl _ _).alloc (Nat.le_refl _) _).alloc (by simp) _).alloc (by simp; omega) _

set_option maxHeartbeats 800000 in
theorem toFeatureS_any (v : Value) (L : List FeatureT) (w : World) (h : RFeature w v L) (hs : L.length ≤ 1048576) :
    Calls Try.prog 76 #[v] w fun e w' => ∃ g, e = .returned (.slice (some ⟨g, 0, none⟩) L.length L.length) ∧ w.heap.size ≤ g ∧ OwnV w' g (recCells 5 eFeature L) ∧ Below w.heap.size w w' := by
  obtain ⟨ao, cap, rfl, hl, hm, hc⟩ := h
  clear hl hm
  have HC := hide hc
  clear hc
  have hmk := run_make_recs (P := Try.prog) 25 95 _ 5 48 Try.underlying25 Try.infoFeature .i64 .i64 L.length (by omega) (by omega)
  go_enter Try.func76, Try.ntmps76
  go_wp2
  clear hmk
  go_loopg [4] L.length (fun g i wr => ∃ k : Nat, k ≤ L.length ∧ g = L.length - k ∧ i = .int .i64 k ∧ FillC 5 eFeature w wr L (k * 5))
  case atStart => exact ⟨0, Nat.zero_le _, rfl, rfl, by rw [Nat.zero_mul]; exact FillC.start w L _ _⟩
  case round =>
    obtain ⟨k, hk, rfl, rfl, hF⟩ := hrel
    by_cases hkn : k < L.length
    · obtain ⟨b, o, x0, x1, x2, x3, x4, rfl, hc0, hc1, hc2, hc3, hc4, EX⟩ := recFeatureAt (unhide HC) hkn
      have g0 := wcell3 hc0 hF.below
      have g1 := wcell3 hc1 hF.below
      have g2 := wcell3 hc2 hF.below
      have g3 := wcell3 hc3 hF.below
      have g4 := wcell3 hc4 hF.below
      have HF := hide hF
      clear hc0 hc1 hc2 hc3 hc4 hF
      have HT := hide fun V => toFeature_any x0 x1 x2 x3 x4 V
      unfold vFeature at HT
      go_wp2_with fail
      refine (unhide HT _).mono ?_
      rintro e w1 ⟨rfl, hb⟩
      have hF1 := (unhide HF).grow hb
      have hf := hF1.frozen
      obtain ⟨u0', hu0⟩ := hF1.cell (q := k * 5) (by omega)
      obtain ⟨u1', hu1⟩ := hF1.cell (q := k * 5 + 1) (by omega)
      obtain ⟨u2', hu2⟩ := hF1.cell (q := k * 5 + 2) (by omega)
      obtain ⟨u3', hu3⟩ := hF1.cell (q := k * 5 + 3) (by omega)
      obtain ⟨u4', hu4⟩ := hF1.cell (q := k * 5 + 4) (by omega)
      have HF1 := hide hF1
      clear hb HF hF1 HT
      go_wp2
      go_roundg (L.length - (k + 1))
      case measure => omega
      case rel =>
        refine ⟨k + 1, by omega, rfl, by go_num, ?_⟩
        have s0 := (unhide HF1).set (v := .int .i64 x0) (by omega) (by rw [show (k * 5) / 5 = k by omega, show (k * 5) % 5 = 0 by omega, unhide EX]; rfl)
        have s1 := s0.set (v := .int .i64 x1) (by omega) (by rw [show (k * 5 + 1) / 5 = k by omega, show (k * 5 + 1) % 5 = 1 by omega, unhide EX]; rfl)
        have s2 := s1.set (v := .int .i64 x2) (by omega) (by rw [show (k * 5 + 2) / 5 = k by omega, show (k * 5 + 2) % 5 = 2 by omega, unhide EX]; rfl)
        have s3 := s2.set (v := .int .i64 x3) (by omega) (by rw [show (k * 5 + 3) / 5 = k by omega, show (k * 5 + 3) % 5 = 3 by omega, unhide EX]; rfl)
        have s4 := s3.set (v := .string x4) (by omega) (by rw [show (k * 5 + 4) / 5 = k by omega, show (k * 5 + 4) % 5 = 4 by omega, unhide EX]; rfl)
        rw [show (k + 1) * 5 = k * 5 + 5 by omega]
        exact s4
    · have hkk : k = L.length := by omega
      subst hkk
      go_wp2
      go_ret
      exact ⟨_, rfl, Nat.le_refl _, hF.done, hF.below⟩

set_option maxHeartbeats 800000 in
theorem eqFeature_any (x0 : Int) (x1 : Int) (x2 : Int) (x3 : Int) (x4 : ByteArray) (w : World) :
    Calls Try.prog 105 #[vFeature x0 x1 x2 x3 x4, vFeature x0 x1 x2 x3 x4] w fun e w' => e = .returned (.bool true) ∧ Below w.heap.size w w' := by
  unfold vFeature
  go_enter Try.func105, Try.ntmps105
  go_wp2
  go_ret
  exact ⟨rfl, ((Below.refl _ _).alloc (Nat.le_refl _) _).alloc (by simp) _⟩

set_option maxHeartbeats 800000 in
theorem eqFeatureS_any (v v' : Value) (L : List FeatureT) (w : World) (h : RFeature w v L) (h' : RFeature w v' L) :
    Calls Try.prog 77 #[v, v'] w fun e w' => e = .returned (.bool true) ∧ Below w.heap.size w w' := by
  obtain ⟨ao, cap, rfl, hl, hm, hc⟩ := h
  obtain ⟨ao', cap', rfl, _, _, hc'⟩ := h'
  unfold maxLen at hm
  have HC := hide hc
  have HC' := hide hc'
  clear hc hc'
  go_enter Try.func77, Try.ntmps77
  go_wp2
  go_loopg [5] L.length (fun g i wr => Below w.heap.size w wr ∧ ∃ k : Nat, k ≤ L.length ∧ g = L.length - k ∧ i = .int .i64 k)
  case atStart => exact ⟨Below.refl _ _, 0, Nat.zero_le _, rfl, rfl⟩
  case round =>
    obtain ⟨hW, k, hk, rfl, rfl⟩ := hrel
    by_cases hkn : k < L.length
    · obtain ⟨b, o, x0, x1, x2, x3, x4, rfl, hc0, hc1, hc2, hc3, hc4, EX⟩ := recFeatureAt (unhide HC) hkn
      obtain ⟨b', o', x0', x1', x2', x3', x4', rfl, hd0, hd1, hd2, hd3, hd4, EX'⟩ := recFeatureAt (unhide HC') hkn
      have eX := (unhide EX).symm.trans (unhide EX')
      simp only [Prod.mk.injEq] at eX
      obtain ⟨rfl, rfl, rfl, rfl, rfl⟩ := eX
      have r0 := fun x' : Gr wr => gr_cell (wcell3 hc0 hW) x'
      have r0' := fun x' : Gr wr => gr_cell (wcell3 hd0 hW) x'
      have r1 := fun x' : Gr wr => gr_cell (wcell3 hc1 hW) x'
      have r1' := fun x' : Gr wr => gr_cell (wcell3 hd1 hW) x'
      have r2 := fun x' : Gr wr => gr_cell (wcell3 hc2 hW) x'
      have r2' := fun x' : Gr wr => gr_cell (wcell3 hd2 hW) x'
      have r3 := fun x' : Gr wr => gr_cell (wcell3 hc3 hW) x'
      have r3' := fun x' : Gr wr => gr_cell (wcell3 hd3 hW) x'
      have r4 := fun x' : Gr wr => gr_cell (wcell3 hc4 hW) x'
      have r4' := fun x' : Gr wr => gr_cell (wcell3 hd4 hW) x'
      have S1 := hide fun x' : Gr wr => eqFeature_any x0 x1 x2 x3 x4 x'.val
      unfold vFeature at S1
      have HW := hide hW
      have gsome := gr_some wr
      clear hc0 hc1 hc2 hc3 hc4 hd0 hd1 hd2 hd3 hd4 hW
      go_wp2
      refine wp_region_grown (by kernel_rfl) (by kernel_rfl) ?_
      repeat (go_big_quiet_step (fail))
      go_big_quiet_want
      go_big_quiet_op
      go_big_quiet_call (exact calls_grown (unhide S1 _))
      repeat (go_big_quiet_step (fail))
      refine wpQuiet_nil ?_
      intro w1 hw1
      obtain ⟨z', hz⟩ := hw1
      have hb1 : Below wr.heap.size wr w1 := hz ▸ z'.ok
      clear hz gsome
      go_wp2
      go_roundg (L.length - (k + 1))
      case measure => omega
      case rel => exact ⟨Below.step (unhide HW) hb1, k + 1, by omega, rfl, by go_num⟩
    · go_wp2
      go_ret
      exact ⟨rfl, hW⟩

/-- The marks of FeatureS, from k on. -/
def mkFeature (k : Int) (q : Nat) : Value := if q % 5 = 4 then .string (mt (k + (q : Int))) else .int .i64 (k + (q : Int))

set_option maxRecDepth 10000 in
set_option maxHeartbeats 1600000 in
theorem markFeatureS_any (g cap n : Nat) (vs : List Value) (k : Int) (w : World) (h : OwnV w g vs) (hv : n * 5 ≤ vs.length) (hn : n ≤ 1048576) (hk0 : 0 ≤ k) (hk1 : k ≤ 1152921504606846976) :
    Calls Try.prog 84 #[.slice (some ⟨g, 0, none⟩) n cap, .int .i64 k] w fun e w' => e = .returned (.int .i64 (k + 5 * (n : Int))) ∧ Kept (fun b => b = g) w w' ∧ OwnV w' g ((List.range (n * 5)).map (mkFeature k)) := by
  have HM0 := hide (MarkF.start (f := mkFeature k) h hv)
  clear h hv
  go_enter Try.func84, Try.ntmps84
  go_wp2
  go_loopg [1, 5] n (fun gh kv iv wr => ∃ j : Nat, j ≤ n ∧ gh = n - j ∧ iv = .int .i64 j ∧ kv = .int .i64 (k + 5 * (j : Int)) ∧ Kept (fun b => b = g) w wr ∧ MarkF (mkFeature k) g (n * 5) (j * 5) wr)
  case atStart => exact ⟨0, Nat.zero_le _, rfl, rfl, by congr 1; omega, Kept.refl _ _, by rw [Nat.zero_mul]; exact unhide HM0⟩
  case round =>
    obtain ⟨j, hj, rfl, rfl, rfl, hK, hM⟩ := hrel
    clear HM0
    by_cases hjn : j < n
    · have hf := hM.frozen
      obtain ⟨u0', hu0⟩ := hM.cell (q := j * 5) (by omega)
      obtain ⟨u1', hu1⟩ := hM.cell (q := j * 5 + 1) (by omega)
      obtain ⟨u2', hu2⟩ := hM.cell (q := j * 5 + 2) (by omega)
      obtain ⟨u3', hu3⟩ := hM.cell (q := j * 5 + 3) (by omega)
      obtain ⟨u4', hu4⟩ := hM.cell (q := j * 5 + 4) (by omega)
      have HM := hide hM
      have HK := hide hK
      have HTX := hide fun V => markText_any (k + 5 * (j : Int) + 1 + 1 + 1 + 1) V (by omega)
      have hjni : (j : Int) < n := by omega
      clear hM hK
      go_wp2_with fail
      refine (unhide HTX _).mono ?_
      rintro e w1 ⟨rfl, hb⟩
      have s0 := (unhide HM).set (v := (.int .i64 (k + 5 * (j : Int)))) (by omega) (by unfold mkFeature; rw [if_neg (by omega)]; congr 1; omega)
      have s1 := s0.set (v := (.int .i64 (k + 5 * (j : Int) + 1))) (by omega) (by unfold mkFeature; rw [if_neg (by omega)]; congr 1; omega)
      have s2 := s1.set (v := (.int .i64 (k + 5 * (j : Int) + 1 + 1))) (by omega) (by unfold mkFeature; rw [if_neg (by omega)]; congr 1; omega)
      have s3 := s2.set (v := (.int .i64 (k + 5 * (j : Int) + 1 + 1 + 1))) (by omega) (by unfold mkFeature; rw [if_neg (by omega)]; congr 1; omega)
      have HM1 := hide (s3.grow hb)
      have HK1 := hide (Kept.trans (((((unhide HK).setCell (p := ⟨g, j * 5, none⟩) rfl _).setCell (p := ⟨g, j * 5 + 1, none⟩) rfl _).setCell (p := ⟨g, j * 5 + 2, none⟩) rfl _).setCell (p := ⟨g, j * 5 + 3, none⟩) rfl _) (kept_of_below hb))
      clear hb HM HK HTX s0 s1 s2 s3 hu0 hu1 hu2 hu3 hu4 hf
      have hf := (unhide HM1).frozen
      obtain ⟨t4', ht4⟩ := (unhide HM1).cell (q := j * 5 + 4) (by omega)
      have HT : Hid (mkFeature k (j * 5 + 4) = .string (mt (k + 5 * (j : Int) + 1 + 1 + 1 + 1))) := by
        show _ = _
        unfold mkFeature
        rw [if_pos (by omega)]
        congr 2
        omega
      generalize mt (k + 5 * (j : Int) + 1 + 1 + 1 + 1) = tx at *
      go_wp2
      go_roundg (n - (j + 1))
      case measure => omega
      case rel =>
        have s4 := (unhide HM1).set (v := (.string tx)) (by omega) (unhide HT).symm
        refine ⟨j + 1, by omega, rfl, by go_num, by congr 1; omega, ((unhide HK1).setCell (p := ⟨g, j * 5 + 4, none⟩) rfl _), ?_⟩
        rw [show (j + 1) * 5 = j * 5 + 5 by omega]
        exact s4
    · have hjj : j = n := by omega
      subst hjj
      go_wp2
      go_ret
      exact ⟨rfl, hK, hM.done⟩

set_option maxRecDepth 10000 in
set_option maxHeartbeats 1600000 in
theorem heldFeatureS_any (g cap n : Nat) (k : Int) (w : World) (h : OwnV w g ((List.range (n * 5)).map (mkFeature k))) (hn : n ≤ 1048576) (hk0 : 0 ≤ k) (hk1 : k ≤ 1152921504606846976) :
    Calls Try.prog 86 #[.slice (some ⟨g, 0, none⟩) n cap, .int .i64 k] w fun e w' => e = .returned (.int .i64 (k + 5 * (n : Int))) ∧ Below w.heap.size w w' := by
  have H := hide h
  clear h
  go_enter Try.func86, Try.ntmps86
  go_wp2
  go_loopg [1, 5] n (fun gh kv iv wr => Below w.heap.size w wr ∧ ∃ j : Nat, j ≤ n ∧ gh = n - j ∧ iv = .int .i64 j ∧ kv = .int .i64 (k + 5 * (j : Int)))
  case atStart => exact ⟨Below.refl _ _, 0, Nat.zero_le _, rfl, rfl, by congr 1; omega⟩
  case round =>
    obtain ⟨hW, j, hj, rfl, rfl, rfl⟩ := hrel
    by_cases hjn : j < n
    · have hO := OwnV.step (unhide H) hW
      have c0 : wr.cell? ⟨g, j * 5, none⟩ = some (.int .i64 (k + 5 * (j : Int))) := by rw [hO.cell (i := j * 5) (v := mkFeature k (j * 5)) (by simp [show j * 5 < n * 5 by omega])]; unfold mkFeature; rw [if_neg (by omega)]; congr 2; omega
      have c1 : wr.cell? ⟨g, j * 5 + 1, none⟩ = some (.int .i64 (k + 5 * (j : Int) + 1)) := by rw [hO.cell (i := j * 5 + 1) (v := mkFeature k (j * 5 + 1)) (by simp [show j * 5 + 1 < n * 5 by omega])]; unfold mkFeature; rw [if_neg (by omega)]; congr 2; omega
      have c2 : wr.cell? ⟨g, j * 5 + 2, none⟩ = some (.int .i64 (k + 5 * (j : Int) + 1 + 1)) := by rw [hO.cell (i := j * 5 + 2) (v := mkFeature k (j * 5 + 2)) (by simp [show j * 5 + 2 < n * 5 by omega])]; unfold mkFeature; rw [if_neg (by omega)]; congr 2; omega
      have c3 : wr.cell? ⟨g, j * 5 + 3, none⟩ = some (.int .i64 (k + 5 * (j : Int) + 1 + 1 + 1)) := by rw [hO.cell (i := j * 5 + 3) (v := mkFeature k (j * 5 + 3)) (by simp [show j * 5 + 3 < n * 5 by omega])]; unfold mkFeature; rw [if_neg (by omega)]; congr 2; omega
      have c4 : wr.cell? ⟨g, j * 5 + 4, none⟩ = some (.string (mt (k + 5 * (j : Int) + 1 + 1 + 1 + 1))) := by rw [hO.cell (i := j * 5 + 4) (v := mkFeature k (j * 5 + 4)) (by simp [show j * 5 + 4 < n * 5 by omega])]; unfold mkFeature; rw [if_pos (by omega)]; congr 3; omega
      have HO := hide hO
      have HW := hide hW
      have S1 := hide fun x' : Gr wr => markText_any (k + 5 * (j : Int) + 1 + 1 + 1 + 1) x'.val (by omega)
      have hjni : (j : Int) < n := by omega
      clear hO hW
      generalize mt (k + 5 * (j : Int) + 1 + 1 + 1 + 1) = tx at *
      have rT := fun x' : Gr wr => gr_cell c4 x'
      have gsome := gr_some wr
      go_wp2
      refine wp_region_grown (by kernel_rfl) (by kernel_rfl) ?_
      repeat (go_big_quiet_step (fail))
      go_big_quiet_want
      go_big_quiet_op
      go_big_quiet_call (exact calls_grown (unhide S1 _))
      repeat (go_big_quiet_step (fail))
      refine wpQuiet_nil ?_
      intro w1 hw1
      obtain ⟨z', hz⟩ := hw1
      have hb : Below wr.heap.size wr w1 := hz ▸ z'.ok
      have HW1 := hide (Below.step (unhide HW) hb)
      clear hz gsome rT S1 hb HW HO c0 c1 c2 c3
      have hO := OwnV.step (unhide H) (unhide HW1)

      clear hO
      go_wp2
      go_roundg (n - (j + 1))
      case measure => omega
      case rel => exact ⟨unhide HW1, j + 1, by omega, rfl, by go_num, by congr 1; omega⟩
    · have hjj : j = n := by omega
      subst hjj
      go_wp2
      go_ret
      exact ⟨rfl, hW⟩

end Go.Proofs.Ytoonbidopdflkaa

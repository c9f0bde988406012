/- Records of Call (ints and texts): words; contracts of the laws' own szCall, szCallS, toCall, toCallS, eqCall, eqCallS, markCallS, heldCallS. Written by wip/mkrecm.py. -/
import Derived.Test.YtogoknldhimgfaaWalkF
import Derived.Test.YtogoknldhimgfaaMrA
import Derived.Test.YtogoknldhimgfaaMtA
import Derived.Test.YtogoknldhimgfaaExactKit
namespace Go.Proofs.Ytogoknldhimgfaa
open Go.RowKit

abbrev CallT := Int × Int × Int × Int × Int
def eCall (x : CallT) : Nat → Value
  | 0 => .int .i64 x.1
  | 1 => .int .i64 x.2.1
  | 2 => .int .i64 x.2.2.1
  | 3 => .int .i64 x.2.2.2.1
  | _ => .int .i64 x.2.2.2.2
def vCall (x0 : Int) (x1 : Int) (x2 : Int) (x3 : Int) (x4 : Int) : Value := .agg #[.int .i64 x0, .int .i64 x1, .int .i64 x2, .int .i64 x3, .int .i64 x4]
abbrev RCall := RecsIn 5 eCall
theorem recCallAt {w : World} {ao : Option Addr} {L : List CallT} {k : Nat} (h : ∀ i, i < L.length → ∃ b o, ao = some ⟨b, o, none⟩ ∧ ∀ j, j < 5 → w.cell? ⟨b, o + (i * 5 + j), none⟩ = some (eCall (L.getD i default) j)) (hk : k < L.length) :
    ∃ b o x0 x1 x2 x3 x4, ao = some ⟨b, o, none⟩ ∧ w.cell? ⟨b, o + k * 5, none⟩ = some (.int .i64 x0) ∧ w.cell? ⟨b, o + k * 5 + 1, none⟩ = some (.int .i64 x1) ∧ w.cell? ⟨b, o + k * 5 + 2, none⟩ = some (.int .i64 x2) ∧ w.cell? ⟨b, o + k * 5 + 3, none⟩ = some (.int .i64 x3) ∧ w.cell? ⟨b, o + k * 5 + 4, none⟩ = some (.int .i64 x4) ∧ Hid (L.getD k default = (x0, x1, x2, x3, x4)) := by
  obtain ⟨b, o, e, hc⟩ := h k hk
  exact ⟨b, o, _, _, _, _, _, e, hc 0 (by omega), hc 1 (by omega), hc 2 (by omega), hc 3 (by omega), hc 4 (by omega), rfl⟩
theorem Try.infoCall : (Try.prog.info? 31).map (fun i => (i.zero, i.size, i.bytes)) = some (some (vCall 0 0 0 0 0), 5, 40) := by kernel_rfl

set_option maxHeartbeats 400000 in
theorem szCallS_any (v : Value) (L : List CallT) (left : Int) (w : World) (h : RCall w v L) (h0 : 0 ≤ left) (h1 : left ≤ 1048576) :
    Calls Try.prog 26 #[v, .int .i64 left] w fun e w' => ∃ r, e = .returned (.int .i64 r) ∧ SizedL L.length r ∧ Below w.heap.size w w' := by
  obtain ⟨ao, cap, rfl, hl, hm, hc⟩ := h
  clear hc
  unfold maxLen at hm
  generalize L.length = n at *
  by_cases hlt : left < n
  · go_enter Try.func26, Try.ntmps26
    go_wp2
    go_ret
    exact ⟨_, rfl, ⟨by omega, by omega, fun h => by omega⟩, Below.refl _ _⟩
  · go_enter Try.func26, Try.ntmps26
    go_wp2
    go_ret
    exact ⟨_, rfl, ⟨by omega, by omega, fun h => by omega⟩, Below.refl _ _⟩

set_option maxHeartbeats 800000 in
theorem toCall_any (x0 : Int) (x1 : Int) (x2 : Int) (x3 : Int) (x4 : Int) (w : World) :
    Calls Try.prog 74 #[vCall x0 x1 x2 x3 x4] w fun e w' => e = .returned (vCall x0 x1 x2 x3 x4) ∧ Below w.heap.size w w' := by
  unfold vCall
  go_enter Try.func74, Try.ntmps74
  go_wp2
  refine bodyPost_ret (v := vCall x0 x1 x2 x3 x4) (by simp [results, Try.results74, go_sem, vCall]) rfl ⟨rfl, ?_⟩
  exact (((Below.refl _ _).alloc (Nat.le_refl _) _).alloc (by simp) _).alloc (by simp; omega) _

set_option maxHeartbeats 800000 in
theorem toCallS_any (v : Value) (L : List CallT) (w : World) (h : RCall w v L) (hs : L.length ≤ 1048576) :
    Calls Try.prog 28 #[v] w fun e w' => ∃ g, e = .returned (.slice (some ⟨g, 0, none⟩) L.length L.length) ∧ w.heap.size ≤ g ∧ OwnV w' g (recCells 5 eCall L) ∧ Below w.heap.size w w' := by
  obtain ⟨ao, cap, rfl, hl, hm, hc⟩ := h
  clear hl hm
  have HC := hide hc
  clear hc
  have hmk := run_make_recs (P := Try.prog) 24 31 _ 5 40 Try.underlying24 Try.infoCall .i64 .i64 L.length (by omega) (by omega)
  go_enter Try.func28, Try.ntmps28
  go_wp2
  clear hmk
  go_loopg [4] L.length (fun g i wr => ∃ k : Nat, k ≤ L.length ∧ g = L.length - k ∧ i = .int .i64 k ∧ FillC 5 eCall w wr L (k * 5))
  case atStart => exact ⟨0, Nat.zero_le _, rfl, rfl, by rw [Nat.zero_mul]; exact FillC.start w L _ _⟩
  case round =>
    obtain ⟨k, hk, rfl, rfl, hF⟩ := hrel
    by_cases hkn : k < L.length
    · obtain ⟨b, o, x0, x1, x2, x3, x4, rfl, hc0, hc1, hc2, hc3, hc4, EX⟩ := recCallAt (unhide HC) hkn
      have g0 := wcell3 hc0 hF.below
      have g1 := wcell3 hc1 hF.below
      have g2 := wcell3 hc2 hF.below
      have g3 := wcell3 hc3 hF.below
      have g4 := wcell3 hc4 hF.below
      have HF := hide hF
      clear hc0 hc1 hc2 hc3 hc4 hF
      have HT := hide fun V => toCall_any x0 x1 x2 x3 x4 V
      unfold vCall at HT
      go_wp2_with fail
      refine (unhide HT _).mono ?_
      rintro e w1 ⟨rfl, hb⟩
      have hF1 := (unhide HF).grow hb
      have hf := hF1.frozen
      obtain ⟨u0', hu0⟩ := hF1.cell (q := k * 5) (by omega)
      obtain ⟨u1', hu1⟩ := hF1.cell (q := k * 5 + 1) (by omega)
      obtain ⟨u2', hu2⟩ := hF1.cell (q := k * 5 + 2) (by omega)
      obtain ⟨u3', hu3⟩ := hF1.cell (q := k * 5 + 3) (by omega)
      obtain ⟨u4', hu4⟩ := hF1.cell (q := k * 5 + 4) (by omega)
      have HF1 := hide hF1
      clear hb HF hF1 HT
      go_wp2
      go_roundg (L.length - (k + 1))
      case measure => omega
      case rel =>
        refine ⟨k + 1, by omega, rfl, by go_num, ?_⟩
        have s0 := (unhide HF1).set (v := .int .i64 x0) (by omega) (by rw [show (k * 5) / 5 = k by omega, show (k * 5) % 5 = 0 by omega, unhide EX]; rfl)
        have s1 := s0.set (v := .int .i64 x1) (by omega) (by rw [show (k * 5 + 1) / 5 = k by omega, show (k * 5 + 1) % 5 = 1 by omega, unhide EX]; rfl)
        have s2 := s1.set (v := .int .i64 x2) (by omega) (by rw [show (k * 5 + 2) / 5 = k by omega, show (k * 5 + 2) % 5 = 2 by omega, unhide EX]; rfl)
        have s3 := s2.set (v := .int .i64 x3) (by omega) (by rw [show (k * 5 + 3) / 5 = k by omega, show (k * 5 + 3) % 5 = 3 by omega, unhide EX]; rfl)
        have s4 := s3.set (v := .int .i64 x4) (by omega) (by rw [show (k * 5 + 4) / 5 = k by omega, show (k * 5 + 4) % 5 = 4 by omega, unhide EX]; rfl)
        rw [show (k + 1) * 5 = k * 5 + 5 by omega]
        exact s4
    · have hkk : k = L.length := by omega
      subst hkk
      go_wp2
      go_ret
      exact ⟨_, rfl, Nat.le_refl _, hF.done, hF.below⟩

set_option maxHeartbeats 800000 in
theorem eqCall_any (x0 : Int) (x1 : Int) (x2 : Int) (x3 : Int) (x4 : Int) (w : World) :
    Calls Try.prog 75 #[vCall x0 x1 x2 x3 x4, vCall x0 x1 x2 x3 x4] w fun e w' => e = .returned (.bool true) ∧ Below w.heap.size w w' := by
  unfold vCall
  go_enter Try.func75, Try.ntmps75
  go_wp2
  go_ret
  exact ⟨rfl, ((Below.refl _ _).alloc (Nat.le_refl _) _).alloc (by simp) _⟩

set_option maxHeartbeats 800000 in
theorem eqCallS_any (v v' : Value) (L : List CallT) (w : World) (h : RCall w v L) (h' : RCall w v' L) :
    Calls Try.prog 29 #[v, v'] w fun e w' => e = .returned (.bool true) ∧ Below w.heap.size w w' := by
  obtain ⟨ao, cap, rfl, hl, hm, hc⟩ := h
  obtain ⟨ao', cap', rfl, _, _, hc'⟩ := h'
  unfold maxLen at hm
  have HC := hide hc
  have HC' := hide hc'
  clear hc hc'
  go_enter Try.func29, Try.ntmps29
  go_wp2
  go_loopg [5] L.length (fun g i wr => Below w.heap.size w wr ∧ ∃ k : Nat, k ≤ L.length ∧ g = L.length - k ∧ i = .int .i64 k)
  case atStart => exact ⟨Below.refl _ _, 0, Nat.zero_le _, rfl, rfl⟩
  case round =>
    obtain ⟨hW, k, hk, rfl, rfl⟩ := hrel
    by_cases hkn : k < L.length
    · obtain ⟨b, o, x0, x1, x2, x3, x4, rfl, hc0, hc1, hc2, hc3, hc4, EX⟩ := recCallAt (unhide HC) hkn
      obtain ⟨b', o', x0', x1', x2', x3', x4', rfl, hd0, hd1, hd2, hd3, hd4, EX'⟩ := recCallAt (unhide HC') hkn
      have eX := (unhide EX).symm.trans (unhide EX')
      simp only [Prod.mk.injEq] at eX
      obtain ⟨rfl, rfl, rfl, rfl, rfl⟩ := eX
      have r0 := fun x' : Gr wr => gr_cell (wcell3 hc0 hW) x'
      have r0' := fun x' : Gr wr => gr_cell (wcell3 hd0 hW) x'
      have r1 := fun x' : Gr wr => gr_cell (wcell3 hc1 hW) x'
      have r1' := fun x' : Gr wr => gr_cell (wcell3 hd1 hW) x'
      have r2 := fun x' : Gr wr => gr_cell (wcell3 hc2 hW) x'
      have r2' := fun x' : Gr wr => gr_cell (wcell3 hd2 hW) x'
      have r3 := fun x' : Gr wr => gr_cell (wcell3 hc3 hW) x'
      have r3' := fun x' : Gr wr => gr_cell (wcell3 hd3 hW) x'
      have r4 := fun x' : Gr wr => gr_cell (wcell3 hc4 hW) x'
      have r4' := fun x' : Gr wr => gr_cell (wcell3 hd4 hW) x'
      have S1 := hide fun x' : Gr wr => eqCall_any x0 x1 x2 x3 x4 x'.val
      unfold vCall at S1
      have HW := hide hW
      have gsome := gr_some wr
      clear hc0 hc1 hc2 hc3 hc4 hd0 hd1 hd2 hd3 hd4 hW
      go_wp2
      refine wp_region_grown (by kernel_rfl) (by kernel_rfl) ?_
      repeat (go_big_quiet_step (fail))
      go_big_quiet_want
      go_big_quiet_op
      go_big_quiet_call (exact calls_grown (unhide S1 _))
      repeat (go_big_quiet_step (fail))
      refine wpQuiet_nil ?_
      intro w1 hw1
      obtain ⟨z', hz⟩ := hw1
      have hb1 : Below wr.heap.size wr w1 := hz ▸ z'.ok
      clear hz gsome
      go_wp2
      go_roundg (L.length - (k + 1))
      case measure => omega
      case rel => exact ⟨Below.step (unhide HW) hb1, k + 1, by omega, rfl, by go_num⟩
    · go_wp2
      go_ret
      exact ⟨rfl, hW⟩

/-- The marks of CallS, from k on. -/
def mkCall (k : Int) (q : Nat) : Value := .int .i64 (k + (q : Int))

set_option maxRecDepth 10000 in
set_option maxHeartbeats 1600000 in
theorem markCallS_any (g cap n : Nat) (vs : List Value) (k : Int) (w : World) (h : OwnV w g vs) (hv : n * 5 ≤ vs.length) (hn : n ≤ 1048576) (hk0 : 0 ≤ k) (hk1 : k ≤ 1152921504606846976) :
    Calls Try.prog 33 #[.slice (some ⟨g, 0, none⟩) n cap, .int .i64 k] w fun e w' => e = .returned (.int .i64 (k + 5 * (n : Int))) ∧ Kept (fun b => b = g) w w' ∧ OwnV w' g ((List.range (n * 5)).map (mkCall k)) := by
  have HM0 := hide (MarkF.start (f := mkCall k) h hv)
  clear h hv
  go_enter Try.func33, Try.ntmps33
  go_wp2
  go_loopg [1, 5] n (fun gh kv iv wr => ∃ j : Nat, j ≤ n ∧ gh = n - j ∧ iv = .int .i64 j ∧ kv = .int .i64 (k + 5 * (j : Int)) ∧ Kept (fun b => b = g) w wr ∧ MarkF (mkCall k) g (n * 5) (j * 5) wr)
  case atStart => exact ⟨0, Nat.zero_le _, rfl, rfl, by congr 1; omega, Kept.refl _ _, by rw [Nat.zero_mul]; exact unhide HM0⟩
  case round =>
    obtain ⟨j, hj, rfl, rfl, rfl, hK, hM⟩ := hrel
    clear HM0
    by_cases hjn : j < n
    · have hf := hM.frozen
      obtain ⟨u0', hu0⟩ := hM.cell (q := j * 5) (by omega)
      obtain ⟨u1', hu1⟩ := hM.cell (q := j * 5 + 1) (by omega)
      obtain ⟨u2', hu2⟩ := hM.cell (q := j * 5 + 2) (by omega)
      obtain ⟨u3', hu3⟩ := hM.cell (q := j * 5 + 3) (by omega)
      obtain ⟨u4', hu4⟩ := hM.cell (q := j * 5 + 4) (by omega)
      have HM := hide hM
      have HK := hide hK
      have hjni : (j : Int) < n := by omega
      clear hM hK
      go_wp2
      go_roundg (n - (j + 1))
      case measure => omega
      case rel =>
        have s0 := (unhide HM).set (v := (.int .i64 (k + 5 * (j : Int)))) (by omega) (by unfold mkCall; congr 1; omega)
        have s1 := s0.set (v := (.int .i64 (k + 5 * (j : Int) + 1))) (by omega) (by unfold mkCall; congr 1; omega)
        have s2 := s1.set (v := (.int .i64 (k + 5 * (j : Int) + 1 + 1))) (by omega) (by unfold mkCall; congr 1; omega)
        have s3 := s2.set (v := (.int .i64 (k + 5 * (j : Int) + 1 + 1 + 1))) (by omega) (by unfold mkCall; congr 1; omega)
        have s4 := s3.set (v := (.int .i64 (k + 5 * (j : Int) + 1 + 1 + 1 + 1))) (by omega) (by unfold mkCall; congr 1; omega)
        refine ⟨j + 1, by omega, rfl, by go_num, by congr 1; omega, ((((((unhide HK).setCell (p := ⟨g, j * 5, none⟩) rfl _).setCell (p := ⟨g, j * 5 + 1, none⟩) rfl _).setCell (p := ⟨g, j * 5 + 2, none⟩) rfl _).setCell (p := ⟨g, j * 5 + 3, none⟩) rfl _).setCell (p := ⟨g, j * 5 + 4, none⟩) rfl _), ?_⟩
        rw [show (j + 1) * 5 = j * 5 + 5 by omega]
        exact s4
    · have hjj : j = n := by omega
      subst hjj
      go_wp2
      go_ret
      exact ⟨rfl, hK, hM.done⟩

set_option maxRecDepth 10000 in
set_option maxHeartbeats 1600000 in
theorem heldCallS_any (g cap n : Nat) (k : Int) (w : World) (h : OwnV w g ((List.range (n * 5)).map (mkCall k))) (hn : n ≤ 1048576) (hk0 : 0 ≤ k) (hk1 : k ≤ 1152921504606846976) :
    Calls Try.prog 34 #[.slice (some ⟨g, 0, none⟩) n cap, .int .i64 k] w fun e w' => e = .returned (.int .i64 (k + 5 * (n : Int))) ∧ Below w.heap.size w w' := by
  have H := hide h
  clear h
  go_enter Try.func34, Try.ntmps34
  go_wp2
  go_loopg [1, 5] n (fun gh kv iv wr => Below w.heap.size w wr ∧ ∃ j : Nat, j ≤ n ∧ gh = n - j ∧ iv = .int .i64 j ∧ kv = .int .i64 (k + 5 * (j : Int)))
  case atStart => exact ⟨Below.refl _ _, 0, Nat.zero_le _, rfl, rfl, by congr 1; omega⟩
  case round =>
    obtain ⟨hW, j, hj, rfl, rfl, rfl⟩ := hrel
    by_cases hjn : j < n
    · have hO := OwnV.step (unhide H) hW
      have c0 : wr.cell? ⟨g, j * 5, none⟩ = some (.int .i64 (k + 5 * (j : Int))) := by rw [hO.cell (i := j * 5) (v := mkCall k (j * 5)) (by simp [show j * 5 < n * 5 by omega])]; unfold mkCall; congr 2; omega
      have c1 : wr.cell? ⟨g, j * 5 + 1, none⟩ = some (.int .i64 (k + 5 * (j : Int) + 1)) := by rw [hO.cell (i := j * 5 + 1) (v := mkCall k (j * 5 + 1)) (by simp [show j * 5 + 1 < n * 5 by omega])]; unfold mkCall; congr 2; omega
      have c2 : wr.cell? ⟨g, j * 5 + 2, none⟩ = some (.int .i64 (k + 5 * (j : Int) + 1 + 1)) := by rw [hO.cell (i := j * 5 + 2) (v := mkCall k (j * 5 + 2)) (by simp [show j * 5 + 2 < n * 5 by omega])]; unfold mkCall; congr 2; omega
      have c3 : wr.cell? ⟨g, j * 5 + 3, none⟩ = some (.int .i64 (k + 5 * (j : Int) + 1 + 1 + 1)) := by rw [hO.cell (i := j * 5 + 3) (v := mkCall k (j * 5 + 3)) (by simp [show j * 5 + 3 < n * 5 by omega])]; unfold mkCall; congr 2; omega
      have c4 : wr.cell? ⟨g, j * 5 + 4, none⟩ = some (.int .i64 (k + 5 * (j : Int) + 1 + 1 + 1 + 1)) := by rw [hO.cell (i := j * 5 + 4) (v := mkCall k (j * 5 + 4)) (by simp [show j * 5 + 4 < n * 5 by omega])]; unfold mkCall; congr 2; omega
      have HW := hide hW
      have hjni : (j : Int) < n := by omega
      clear hO hW
      go_wp2
      go_roundg (n - (j + 1))
      case measure => omega
      case rel => first | exact ⟨unhide HW, j + 1, by omega, rfl, by go_num, by congr 1; omega⟩ | exact ⟨(unhide HW).drew, j + 1, by omega, rfl, by go_num, by congr 1; omega⟩
    · have hjj : j = n := by omega
      subst hjj
      go_wp2
      go_ret
      exact ⟨rfl, hW⟩

end Go.Proofs.Ytogoknldhimgfaa

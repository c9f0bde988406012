/- Records of Signal (ints and texts): words; contracts of the laws' own szSignal, szSignalS, toSignal, toSignalS, eqSignal, eqSignalS, markSignalS, heldSignalS. Written by wip/mkrecm.py. -/
import Derived.Test.YtgmhijbepkobkaaWalkF
import Derived.Test.YtgmhijbepkobkaaMrA
import Derived.Test.YtgmhijbepkobkaaMtA
import Derived.Test.YtgmhijbepkobkaaExactKit
namespace Go.Proofs.Ytgmhijbepkobkaa
open Go.RowKit

abbrev SignalT := Int × Int
def eSignal (x : SignalT) : Nat → Value
  | 0 => .int .i64 x.1
  | _ => .int .i64 x.2
def vSignal (x0 : Int) (x1 : Int) : Value := .agg #[.int .i64 x0, .int .i64 x1]
abbrev RSignal := RecsIn 2 eSignal
theorem recSignalAt {w : World} {ao : Option Addr} {L : List SignalT} {k : Nat} (h : ∀ i, i < L.length → ∃ b o, ao = some ⟨b, o, none⟩ ∧ ∀ j, j < 2 → w.cell? ⟨b, o + (i * 2 + j), none⟩ = some (eSignal (L.getD i default) j)) (hk : k < L.length) :
    ∃ b o x0 x1, ao = some ⟨b, o, none⟩ ∧ w.cell? ⟨b, o + k * 2, none⟩ = some (.int .i64 x0) ∧ w.cell? ⟨b, o + k * 2 + 1, none⟩ = some (.int .i64 x1) ∧ Hid (L.getD k default = (x0, x1)) := by
  obtain ⟨b, o, e, hc⟩ := h k hk
  exact ⟨b, o, _, _, e, hc 0 (by omega), hc 1 (by omega), rfl⟩
theorem Try.infoSignal : (Try.prog.info? 44).map (fun i => (i.zero, i.size, i.bytes)) = some (some (vSignal 0 0), 2, 16) := by kernel_rfl

set_option maxHeartbeats 400000 in
theorem szSignalS_any (v : Value) (L : List SignalT) (left : Int) (w : World) (h : RSignal w v L) (h0 : 0 ≤ left) (h1 : left ≤ 1048576) :
    Calls Try.prog 39 #[v, .int .i64 left] w fun e w' => ∃ r, e = .returned (.int .i64 r) ∧ SizedL L.length r ∧ Below w.heap.size w w' := by
  obtain ⟨ao, cap, rfl, hl, hm, hc⟩ := h
  clear hc
  unfold maxLen at hm
  generalize L.length = n at *
  by_cases hlt : left < n
  · go_enter Try.func39, Try.ntmps39
    go_wp2
    go_ret
    exact ⟨_, rfl, ⟨by omega, by omega, fun h => by omega⟩, Below.refl _ _⟩
  · go_enter Try.func39, Try.ntmps39
    go_wp2
    go_ret
    exact ⟨_, rfl, ⟨by omega, by omega, fun h => by omega⟩, Below.refl _ _⟩

set_option maxHeartbeats 800000 in
theorem toSignal_any (x0 : Int) (x1 : Int) (w : World) :
    Calls Try.prog 37 #[vSignal x0 x1] w fun e w' => e = .returned (vSignal x0 x1) ∧ Below w.heap.size w w' := by
  unfold vSignal
  go_enter Try.func37, Try.ntmps37
  go_wp2
  refine bodyPost_ret (v := vSignal x0 x1) (by simp [results, Try.results37, go_sem, vSignal]) rfl ⟨rfl, ?_⟩
  exact (((Below.refl _ _).alloc (Nat.le_refl _) _).alloc (by simp) _).alloc (by simp; omega) _

set_option maxHeartbeats 800000 in
theorem toSignalS_any (v : Value) (L : List SignalT) (w : World) (h : RSignal w v L) (hs : L.length ≤ 1048576) :
    Calls Try.prog 41 #[v] w fun e w' => ∃ g, e = .returned (.slice (some ⟨g, 0, none⟩) L.length L.length) ∧ w.heap.size ≤ g ∧ OwnV w' g (recCells 2 eSignal L) ∧ Below w.heap.size w w' := by
  obtain ⟨ao, cap, rfl, hl, hm, hc⟩ := h
  clear hl hm
  have HC := hide hc
  clear hc
  have hmk := run_make_recs (P := Try.prog) 38 44 _ 2 16 Try.underlying38 Try.infoSignal .i64 .i64 L.length (by omega) (by omega)
  go_enter Try.func41, Try.ntmps41
  go_wp2
  clear hmk
  go_loopg [4] L.length (fun g i wr => ∃ k : Nat, k ≤ L.length ∧ g = L.length - k ∧ i = .int .i64 k ∧ FillC 2 eSignal w wr L (k * 2))
  case atStart => exact ⟨0, Nat.zero_le _, rfl, rfl, by rw [Nat.zero_mul]; exact FillC.start w L _ _⟩
  case round =>
    obtain ⟨k, hk, rfl, rfl, hF⟩ := hrel
    by_cases hkn : k < L.length
    · obtain ⟨b, o, x0, x1, rfl, hc0, hc1, EX⟩ := recSignalAt (unhide HC) hkn
      have g0 := wcell3 hc0 hF.below
      have g1 := wcell3 hc1 hF.below
      have HF := hide hF
      clear hc0 hc1 hF
      have HT := hide fun V => toSignal_any x0 x1 V
      unfold vSignal at HT
      go_wp2_with fail
      refine (unhide HT _).mono ?_
      rintro e w1 ⟨rfl, hb⟩
      have hF1 := (unhide HF).grow hb
      have hf := hF1.frozen
      obtain ⟨u0', hu0⟩ := hF1.cell (q := k * 2) (by omega)
      obtain ⟨u1', hu1⟩ := hF1.cell (q := k * 2 + 1) (by omega)
      have HF1 := hide hF1
      clear hb HF hF1 HT
      go_wp2
      go_roundg (L.length - (k + 1))
      case measure => omega
      case rel =>
        refine ⟨k + 1, by omega, rfl, by go_num, ?_⟩
        have s0 := (unhide HF1).set (v := .int .i64 x0) (by omega) (by rw [show (k * 2) / 2 = k by omega, show (k * 2) % 2 = 0 by omega, unhide EX]; rfl)
        have s1 := s0.set (v := .int .i64 x1) (by omega) (by rw [show (k * 2 + 1) / 2 = k by omega, show (k * 2 + 1) % 2 = 1 by omega, unhide EX]; rfl)
        rw [show (k + 1) * 2 = k * 2 + 2 by omega]
        exact s1
    · have hkk : k = L.length := by omega
      subst hkk
      go_wp2
      go_ret
      exact ⟨_, rfl, Nat.le_refl _, hF.done, hF.below⟩

set_option maxHeartbeats 800000 in
theorem eqSignal_any (x0 : Int) (x1 : Int) (w : World) :
    Calls Try.prog 60 #[vSignal x0 x1, vSignal x0 x1] w fun e w' => e = .returned (.bool true) ∧ Below w.heap.size w w' := by
  unfold vSignal
  go_enter Try.func60, Try.ntmps60
  go_wp2
  go_ret
  exact ⟨rfl, ((Below.refl _ _).alloc (Nat.le_refl _) _).alloc (by simp) _⟩

set_option maxHeartbeats 800000 in
theorem eqSignalS_any (v v' : Value) (L : List SignalT) (w : World) (h : RSignal w v L) (h' : RSignal w v' L) :
    Calls Try.prog 43 #[v, v'] w fun e w' => e = .returned (.bool true) ∧ Below w.heap.size w w' := by
  obtain ⟨ao, cap, rfl, hl, hm, hc⟩ := h
  obtain ⟨ao', cap', rfl, _, _, hc'⟩ := h'
  unfold maxLen at hm
  have HC := hide hc
  have HC' := hide hc'
  clear hc hc'
  go_enter Try.func43, Try.ntmps43
  go_wp2
  go_loopg [5] L.length (fun g i wr => Below w.heap.size w wr ∧ ∃ k : Nat, k ≤ L.length ∧ g = L.length - k ∧ i = .int .i64 k)
  case atStart => exact ⟨Below.refl _ _, 0, Nat.zero_le _, rfl, rfl⟩
  case round =>
    obtain ⟨hW, k, hk, rfl, rfl⟩ := hrel
    by_cases hkn : k < L.length
    · obtain ⟨b, o, x0, x1, rfl, hc0, hc1, EX⟩ := recSignalAt (unhide HC) hkn
      obtain ⟨b', o', x0', x1', rfl, hd0, hd1, EX'⟩ := recSignalAt (unhide HC') hkn
      have eX := (unhide EX).symm.trans (unhide EX')
      simp only [Prod.mk.injEq] at eX
      obtain ⟨rfl, rfl⟩ := eX
      have r0 := fun x' : Gr wr => gr_cell (wcell3 hc0 hW) x'
      have r0' := fun x' : Gr wr => gr_cell (wcell3 hd0 hW) x'
      have r1 := fun x' : Gr wr => gr_cell (wcell3 hc1 hW) x'
      have r1' := fun x' : Gr wr => gr_cell (wcell3 hd1 hW) x'
      have S1 := hide fun x' : Gr wr => eqSignal_any x0 x1 x'.val
      unfold vSignal at S1
      have HW := hide hW
      have gsome := gr_some wr
      clear hc0 hc1 hd0 hd1 hW
      go_wp2
      refine wp_region_grown (by kernel_rfl) (by kernel_rfl) ?_
      repeat (go_big_quiet_step (fail))
      go_big_quiet_want
      go_big_quiet_op
      go_big_quiet_call (exact calls_grown (unhide S1 _))
      repeat (go_big_quiet_step (fail))
      refine wpQuiet_nil ?_
      intro w1 hw1
      obtain ⟨z', hz⟩ := hw1
      have hb1 : Below wr.heap.size wr w1 := hz ▸ z'.ok
      clear hz gsome
      go_wp2
      go_roundg (L.length - (k + 1))
      case measure => omega
      case rel => exact ⟨Below.step (unhide HW) hb1, k + 1, by omega, rfl, by go_num⟩
    · go_wp2
      go_ret
      exact ⟨rfl, hW⟩

/-- The marks of SignalS, from k on. -/
def mkSignal (k : Int) (q : Nat) : Value := .int .i64 (k + (q : Int))

set_option maxRecDepth 10000 in
set_option maxHeartbeats 1600000 in
theorem markSignalS_any (g cap n : Nat) (vs : List Value) (k : Int) (w : World) (h : OwnV w g vs) (hv : n * 2 ≤ vs.length) (hn : n ≤ 1048576) (hk0 : 0 ≤ k) (hk1 : k ≤ 1152921504606846976) :
    Calls Try.prog 44 #[.slice (some ⟨g, 0, none⟩) n cap, .int .i64 k] w fun e w' => e = .returned (.int .i64 (k + 2 * (n : Int))) ∧ Kept (fun b => b = g) w w' ∧ OwnV w' g ((List.range (n * 2)).map (mkSignal k)) := by
  have HM0 := hide (MarkF.start (f := mkSignal k) h hv)
  clear h hv
  go_enter Try.func44, Try.ntmps44
  go_wp2
  go_loopg [1, 5] n (fun gh kv iv wr => ∃ j : Nat, j ≤ n ∧ gh = n - j ∧ iv = .int .i64 j ∧ kv = .int .i64 (k + 2 * (j : Int)) ∧ Kept (fun b => b = g) w wr ∧ MarkF (mkSignal k) g (n * 2) (j * 2) wr)
  case atStart => exact ⟨0, Nat.zero_le _, rfl, rfl, by congr 1; omega, Kept.refl _ _, by rw [Nat.zero_mul]; exact unhide HM0⟩
  case round =>
    obtain ⟨j, hj, rfl, rfl, rfl, hK, hM⟩ := hrel
    clear HM0
    by_cases hjn : j < n
    · have hf := hM.frozen
      obtain ⟨u0', hu0⟩ := hM.cell (q := j * 2) (by omega)
      obtain ⟨u1', hu1⟩ := hM.cell (q := j * 2 + 1) (by omega)
      have HM := hide hM
      have HK := hide hK
      have hjni : (j : Int) < n := by omega
      clear hM hK
      go_wp2
      go_roundg (n - (j + 1))
      case measure => omega
      case rel =>
        have s0 := (unhide HM).set (v := (.int .i64 (k + 2 * (j : Int)))) (by omega) (by unfold mkSignal; congr 1; omega)
        have s1 := s0.set (v := (.int .i64 (k + 2 * (j : Int) + 1))) (by omega) (by unfold mkSignal; congr 1; omega)
        refine ⟨j + 1, by omega, rfl, by go_num, by congr 1; omega, (((unhide HK).setCell (p := ⟨g, j * 2, none⟩) rfl _).setCell (p := ⟨g, j * 2 + 1, none⟩) rfl _), ?_⟩
        rw [show (j + 1) * 2 = j * 2 + 2 by omega]
        exact s1
    · have hjj : j = n := by omega
      subst hjj
      go_wp2
      go_ret
      exact ⟨rfl, hK, hM.done⟩

end Go.Proofs.Ytgmhijbepkobkaa

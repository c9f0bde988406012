/- Contracts of the laws' own helpers over lists of Harmonic (flat records): szHarmonicS, toHarmonic, toHarmonicS, eqHarmonic, eqHarmonicS. -/
import Derived.Test.YtglehiakikhlaaaHaA
import Derived.Test.YtglehiakikhlaaaWalkF
namespace Go.Proofs.Ytglehiakikhlaaa
open Go.RowKit

attribute [local go_sem] run_store_float

set_option maxHeartbeats 400000 in
theorem szHarmonicS_any (v : Value) (L : List F4) (left : Int) (w : World) (h : RH w v L) (h0 : 0 ≤ left) (h1 : left ≤ 1048576) :
    Calls Try.prog 21 #[v, .int .i64 left] w fun e w' => ∃ r, e = .returned (.int .i64 r) ∧ SizedL L.length r ∧ w = w' := by
  obtain ⟨ao, cap, rfl, hl, hm, hc⟩ := h
  clear hc
  unfold maxLen at hm
  generalize L.length = n at *
  by_cases hlt : left < n
  · go_enter Try.func21, Try.ntmps21
    go_wp2
    go_ret
    exact ⟨_, rfl, ⟨by omega, by omega, fun h => by omega⟩, rfl⟩
  · go_enter Try.func21, Try.ntmps21
    go_wp2
    go_ret
    exact ⟨_, rfl, ⟨by omega, by omega, fun h => by omega⟩, rfl⟩

theorem Try.infoHarmonic : (Try.prog.info? 41).map (fun i => (i.zero, i.size, i.bytes)) = some (some (vH 0 0 0 0), 4, 32) := by kernel_rfl

set_option maxHeartbeats 400000 in
theorem toHarmonicS_any (v : Value) (L : List F4) (w : World) (h : RH w v L) (hs : L.length ≤ 1048576) :
    Calls Try.prog 23 #[v] w fun e w' => ∃ g, e = .returned (.slice (some ⟨g, 0, none⟩) L.length L.length) ∧ w.heap.size ≤ g ∧ OwnV w' g (recCells 4 eH L) ∧ Below w.heap.size w w' := by
  obtain ⟨ao, cap, rfl, hl, hm, hc⟩ := h
  clear hl hm
  have HC := hide hc
  clear hc
  have HTO := hide fun x y z p V => toHarmonic_any x y z p V
  unfold vH at HTO
  have hmk := run_make_recs (P := Try.prog) 42 41 _ 4 32 Try.underlying42 Try.infoHarmonic .i64 .i64 L.length (by omega) (by omega)
  go_enter Try.func23, Try.ntmps23
  go_wp2
  clear hmk
  go_loopg [4] L.length (fun g i wr => ∃ k : Nat, k ≤ L.length ∧ g = L.length - k ∧ i = .int .i64 k ∧ FillC 4 eH w wr L (k * 4))
  case atStart => exact ⟨0, Nat.zero_le _, rfl, rfl, by rw [Nat.zero_mul]; exact FillC.start w L _ _⟩
  case round =>
    obtain ⟨k, hk, rfl, rfl, hF⟩ := hrel
    by_cases hkn : k < L.length
    · obtain ⟨b, o, x, y, z, p, rfl, hc0, hc1, hc2, hc3, EX⟩ := recHAt (unhide HC) hkn
      have g0 := wcell3 hc0 hF.below
      have g1 := wcell3 hc1 hF.below
      have g2 := wcell3 hc2 hF.below
      have g3 := wcell3 hc3 hF.below
      have HF := hide hF
      clear hc0 hc1 hc2 hc3 hF
      go_wp2_with fail
      refine (unhide HTO x y z p _).mono ?_
      rintro e w1 ⟨rfl, hb⟩
      have hF1 := (unhide HF).grow hb
      have hf := hF1.frozen
      obtain ⟨u0', hu0⟩ := hF1.cell (q := k * 4) (by omega)
      obtain ⟨u1', hu1⟩ := hF1.cell (q := k * 4 + 1) (by omega)
      obtain ⟨u2', hu2⟩ := hF1.cell (q := k * 4 + 2) (by omega)
      obtain ⟨u3', hu3⟩ := hF1.cell (q := k * 4 + 3) (by omega)
      have HF1 := hide hF1
      clear hb HF hF1
      go_wp2
      go_roundg (L.length - (k + 1))
      case measure => omega
      case rel =>
        refine ⟨k + 1, by omega, rfl, by go_num, ?_⟩
        have s0 := (unhide HF1).set (v := .float .f64 x) (by omega) (by rw [show (k * 4) / 4 = k by omega, show (k * 4) % 4 = 0 by omega, unhide EX]; rfl)
        have s1 := s0.set (v := .float .f64 y) (by omega) (by rw [show (k * 4 + 1) / 4 = k by omega, show (k * 4 + 1) % 4 = 1 by omega, unhide EX]; rfl)
        have s2 := s1.set (v := .float .f64 z) (by omega) (by rw [show (k * 4 + 2) / 4 = k by omega, show (k * 4 + 2) % 4 = 2 by omega, unhide EX]; rfl)
        have s3 := s2.set (v := .float .f64 p) (by omega) (by rw [show (k * 4 + 3) / 4 = k by omega, show (k * 4 + 3) % 4 = 3 by omega, unhide EX]; rfl)
        rw [show (k + 1) * 4 = k * 4 + 4 by omega]
        exact s3
    · have hkk : k = L.length := by omega
      subst hkk
      go_wp2
      go_ret
      exact ⟨_, rfl, Nat.le_refl _, hF.done, hF.below⟩

set_option maxHeartbeats 400000 in
theorem eqHarmonicS_any (v v' : Value) (L : List F4) (w : World) (h : RH w v L) (h' : RH w v' L) :
    Calls Try.prog 25 #[v, v'] w fun e w' => e = .returned (.bool true) ∧ Below w.heap.size w w' := by
  obtain ⟨ao, cap, rfl, hl, hm, hc⟩ := h
  obtain ⟨ao', cap', rfl, _, _, hc'⟩ := h'
  unfold maxLen at hm
  have HC := hide hc
  have HC' := hide hc'
  clear hc hc'
  go_enter Try.func25, Try.ntmps25
  go_wp2
  go_loopg [5] L.length (fun g i wr => Below w.heap.size w wr ∧ ∃ k : Nat, k ≤ L.length ∧ g = L.length - k ∧ i = .int .i64 k)
  case atStart => exact ⟨Below.refl _ _, 0, Nat.zero_le _, rfl, rfl⟩
  case round =>
    obtain ⟨hW, k, hk, rfl, rfl⟩ := hrel
    by_cases hkn : k < L.length
    · obtain ⟨b, o, x, y, z, p, rfl, hc0, hc1, hc2, hc3, EX⟩ := recHAt (unhide HC) hkn
      obtain ⟨b', o', x', y', z', p', rfl, hd0, hd1, hd2, hd3, EX'⟩ := recHAt (unhide HC') hkn
      have eX := (unhide EX).symm.trans (unhide EX')
      simp only [Prod.mk.injEq] at eX
      obtain ⟨rfl, rfl, rfl, rfl⟩ := eX
      have r0 := fun x' : Gr wr => gr_cell (wcell3 hc0 hW) x'
      have r0' := fun x' : Gr wr => gr_cell (wcell3 hd0 hW) x'
      have r1 := fun x' : Gr wr => gr_cell (wcell3 hc1 hW) x'
      have r1' := fun x' : Gr wr => gr_cell (wcell3 hd1 hW) x'
      have r2 := fun x' : Gr wr => gr_cell (wcell3 hc2 hW) x'
      have r2' := fun x' : Gr wr => gr_cell (wcell3 hd2 hW) x'
      have r3 := fun x' : Gr wr => gr_cell (wcell3 hc3 hW) x'
      have r3' := fun x' : Gr wr => gr_cell (wcell3 hd3 hW) x'
      have S1 := hide fun x' : Gr wr => eqHarmonic_any x y z p x y z p x'.val (fsame.refl _ _) (fsame.refl _ _) (fsame.refl _ _) (fsame.refl _ _)
      unfold vH at S1
      have HW := hide hW
      have gsome := gr_some wr
      clear hc0 hc1 hc2 hc3 hd0 hd1 hd2 hd3 hW
      go_wp2
      refine wp_region_grown (by kernel_rfl) (by kernel_rfl) ?_
      repeat (go_big_quiet_step (fail))
      go_big_quiet_want
      go_big_quiet_op
      go_big_quiet_call (exact calls_grown (unhide S1 _))
      repeat (go_big_quiet_step (fail))
      refine wpQuiet_nil ?_
      intro w1 hw1
      obtain ⟨z', hz⟩ := hw1
      have hb1 : Below wr.heap.size wr w1 := hz ▸ z'.ok
      clear hz gsome
      go_wp2
      go_roundg (L.length - (k + 1))
      case measure => omega
      case rel => exact ⟨Below.step (unhide HW) hb1, k + 1, by omega, rfl, by go_num⟩
    · go_wp2
      go_ret
      exact ⟨rfl, hW⟩

end Go.Proofs.Ytglehiakikhlaaa

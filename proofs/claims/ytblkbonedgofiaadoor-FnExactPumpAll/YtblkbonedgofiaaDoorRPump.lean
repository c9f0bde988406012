/- Contracts of the laws' own helpers over lists of Pump (flat records): szPumpS, toPump, toPumpS, eqPump, eqPumpS. -/
import Derived.Test.YtblkbonedgofiaaDoorWalkF
import Derived.Test.YtblkbonedgofiaaDoorRecs
namespace Go.Proofs.YtblkbonedgofiaaDoor
open Go.RowKit

set_option maxHeartbeats 400000 in
theorem szPumpS_any (v : Value) (L : List I3) (left : Int) (w : World) (h : R3 w v L) (h0 : 0 ≤ left) (h1 : left ≤ 1048576) :
    Calls Tryd.prog 18 #[v, .int .i64 left] w fun e w' => ∃ r, e = .returned (.int .i64 r) ∧ SizedL L.length r ∧ w = w' := by
  obtain ⟨ao, cap, rfl, hl, hm, hc⟩ := h
  clear hc
  unfold maxLen at hm
  generalize L.length = n at *
  by_cases hlt : left < n
  · go_enter Tryd.func18, Tryd.ntmps18
    go_wp2
    go_ret
    exact ⟨_, rfl, ⟨by omega, by omega, fun h => by omega⟩, rfl⟩
  · go_enter Tryd.func18, Tryd.ntmps18
    go_wp2
    go_ret
    exact ⟨_, rfl, ⟨by omega, by omega, fun h => by omega⟩, rfl⟩

theorem Tryd.infoPump : (Tryd.prog.info? 37).map (fun i => (i.zero, i.size, i.bytes)) = some (some (v3 (0, 0, 0)), 3, 24) := by kernel_rfl

set_option maxHeartbeats 400000 in
theorem toPump_any (x y z : Int) (w : World) :
    Calls Tryd.prog 14 #[v3 (x, y, z)] w fun e w' => e = .returned (v3 (x, y, z)) ∧ Below w.heap.size w w' := by
  unfold v3
  go_enter Tryd.func14, Tryd.ntmps14
  go_wp2
  refine bodyPost_ret (v := v3 (x, y, z)) (by simp [results, Tryd.results14, go_sem]) rfl ⟨rfl, ?_⟩
  exact (((Below.refl _ _).alloc (Nat.le_refl _) _).alloc (by simp) _).alloc (by simp; omega) _

set_option maxHeartbeats 400000 in
theorem toPumpS_any (v : Value) (L : List I3) (w : World) (h : R3 w v L) (hs : L.length ≤ 1048576) :
    Calls Tryd.prog 20 #[v] w fun e w' => ∃ g, e = .returned (.slice (some ⟨g, 0, none⟩) L.length L.length) ∧ w.heap.size ≤ g ∧ OwnV w' g (recCells 3 e3 L) ∧ Below w.heap.size w w' := by
  obtain ⟨ao, cap, rfl, hl, hm, hc⟩ := h
  clear hl hm
  have HC := hide hc
  clear hc
  have hmk := run_make_recs (P := Tryd.prog) 25 37 _ 3 24 Tryd.underlying25 Tryd.infoPump .i64 .i64 L.length (by omega) (by omega)
  go_enter Tryd.func20, Tryd.ntmps20
  go_wp2
  clear hmk
  go_loopg [4] L.length (fun g i wr => ∃ k : Nat, k ≤ L.length ∧ g = L.length - k ∧ i = .int .i64 k ∧ FillC 3 e3 w wr L (k * 3))
  case atStart => exact ⟨0, Nat.zero_le _, rfl, rfl, by rw [Nat.zero_mul]; exact FillC.start w L _ _⟩
  case round =>
    obtain ⟨k, hk, rfl, rfl, hF⟩ := hrel
    by_cases hkn : k < L.length
    · obtain ⟨b, o, x, y, z, rfl, hc0, hc1, hc2, EX⟩ := rec3At (unhide HC) hkn
      have g0 := wcell3 hc0 hF.below
      have g1 := wcell3 hc1 hF.below
      have g2 := wcell3 hc2 hF.below
      have HF := hide hF
      clear hc0 hc1 hc2 hF
      go_wp2_with fail
      refine (toPump_any x y z _).mono ?_
      rintro e w1 ⟨rfl, hb⟩
      have hF1 := (unhide HF).grow hb
      have hf := hF1.frozen
      obtain ⟨u0', hu0⟩ := hF1.cell (q := k * 3) (by omega)
      obtain ⟨u1', hu1⟩ := hF1.cell (q := k * 3 + 1) (by omega)
      obtain ⟨u2', hu2⟩ := hF1.cell (q := k * 3 + 2) (by omega)
      have HF1 := hide hF1
      clear hb HF hF1
      unfold v3
      go_wp2
      go_roundg (L.length - (k + 1))
      case measure => omega
      case rel =>
        refine ⟨k + 1, by omega, rfl, by go_num, ?_⟩
        have s0 := (unhide HF1).set (v := .int .i64 x) (by omega) (by rw [show (k * 3) / 3 = k by omega, show (k * 3) % 3 = 0 by omega, unhide EX]; rfl)
        have s1 := s0.set (v := .int .i64 y) (by omega) (by rw [show (k * 3 + 1) / 3 = k by omega, show (k * 3 + 1) % 3 = 1 by omega, unhide EX]; rfl)
        have s2 := s1.set (v := .int .i64 z) (by omega) (by rw [show (k * 3 + 2) / 3 = k by omega, show (k * 3 + 2) % 3 = 2 by omega, unhide EX]; rfl)
        rw [show (k + 1) * 3 = k * 3 + 3 by omega]
        exact s2
    · have hkk : k = L.length := by omega
      subst hkk
      go_wp2
      go_ret
      exact ⟨_, rfl, Nat.le_refl _, hF.done, hF.below⟩

set_option maxHeartbeats 400000 in
theorem eqPump_any (x y z : Int) (w : World) :
    Calls Tryd.prog 39 #[v3 (x, y, z), v3 (x, y, z)] w fun e w' => e = .returned (.bool true) ∧ Below w.heap.size w w' := by
  unfold v3
  go_enter Tryd.func39, Tryd.ntmps39
  go_wp2
  go_ret
  exact ⟨rfl, ((Below.refl _ _).alloc (Nat.le_refl _) _).alloc (by simp) _⟩

set_option maxHeartbeats 400000 in
theorem eqPumpS_any (v v' : Value) (L : List I3) (w : World) (h : R3 w v L) (h' : R3 w v' L) :
    Calls Tryd.prog 22 #[v, v'] w fun e w' => e = .returned (.bool true) ∧ Below w.heap.size w w' := by
  obtain ⟨ao, cap, rfl, hl, hm, hc⟩ := h
  obtain ⟨ao', cap', rfl, _, _, hc'⟩ := h'
  unfold maxLen at hm
  have HC := hide hc
  have HC' := hide hc'
  clear hc hc'
  go_enter Tryd.func22, Tryd.ntmps22
  go_wp2
  go_loopg [5] L.length (fun g i wr => Below w.heap.size w wr ∧ ∃ k : Nat, k ≤ L.length ∧ g = L.length - k ∧ i = .int .i64 k)
  case atStart => exact ⟨Below.refl _ _, 0, Nat.zero_le _, rfl, rfl⟩
  case round =>
    obtain ⟨hW, k, hk, rfl, rfl⟩ := hrel
    by_cases hkn : k < L.length
    · obtain ⟨b, o, x, y, z, rfl, hc0, hc1, hc2, EX⟩ := rec3At (unhide HC) hkn
      obtain ⟨b', o', x', y', z', rfl, hd0, hd1, hd2, EX'⟩ := rec3At (unhide HC') hkn
      have eX := (unhide EX).symm.trans (unhide EX')
      simp only [Prod.mk.injEq] at eX
      obtain ⟨rfl, rfl, rfl⟩ := eX
      have r0 := fun x' : Gr wr => gr_cell (wcell3 hc0 hW) x'
      have r0' := fun x' : Gr wr => gr_cell (wcell3 hd0 hW) x'
      have r1 := fun x' : Gr wr => gr_cell (wcell3 hc1 hW) x'
      have r1' := fun x' : Gr wr => gr_cell (wcell3 hd1 hW) x'
      have r2 := fun x' : Gr wr => gr_cell (wcell3 hc2 hW) x'
      have r2' := fun x' : Gr wr => gr_cell (wcell3 hd2 hW) x'
      have S1 := hide fun x' : Gr wr => eqPump_any x y z x'.val
      have HW := hide hW
      have gsome := gr_some wr
      clear hc0 hc1 hc2 hd0 hd1 hd2 hW
      go_wp2
      refine wp_region_grown (by kernel_rfl) (by kernel_rfl) ?_
      repeat (go_big_quiet_step (fail))
      go_big_quiet_want
      go_big_quiet_op
      go_big_quiet_call (exact calls_grown (unhide S1 _))
      repeat (go_big_quiet_step (fail))
      refine wpQuiet_nil ?_
      intro w1 hw1
      obtain ⟨z', hz⟩ := hw1
      have hb1 : Below wr.heap.size wr w1 := hz ▸ z'.ok
      clear hz gsome
      go_wp2
      go_roundg (L.length - (k + 1))
      case measure => omega
      case rel => exact ⟨Below.step (unhide HW) hb1, k + 1, by omega, rfl, by go_num⟩
    · go_wp2
      go_ret
      exact ⟨rfl, hW⟩

end Go.Proofs.YtblkbonedgofiaaDoor

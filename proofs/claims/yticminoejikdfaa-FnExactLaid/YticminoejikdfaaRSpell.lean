/- Contracts of the laws' own helpers over lists of Spell (flat records): szSpellS, toSpell, toSpellS, eqSpell, eqSpellS. -/
import Derived.Test.YticminoejikdfaaWalkF
import Derived.Test.YticminoejikdfaaRecs
namespace Go.Proofs.Yticminoejikdfaa
open Go.RowKit

set_option maxHeartbeats 400000 in
theorem szSpellS_any (v : Value) (L : List I2) (left : Int) (w : World) (h : R2 w v L) (h0 : 0 ≤ left) (h1 : left ≤ 1048576) :
    Calls Try.prog 23 #[v, .int .i64 left] w fun e w' => ∃ r, e = .returned (.int .i64 r) ∧ SizedL L.length r ∧ w = w' := by
  obtain ⟨ao, cap, rfl, hl, hm, hc⟩ := h
  clear hc
  unfold maxLen at hm
  generalize L.length = n at *
  by_cases hlt : left < n
  · go_enter Try.func23, Try.ntmps23
    go_wp2
    go_ret
    exact ⟨_, rfl, ⟨by omega, by omega, fun h => by omega⟩, rfl⟩
  · go_enter Try.func23, Try.ntmps23
    go_wp2
    go_ret
    exact ⟨_, rfl, ⟨by omega, by omega, fun h => by omega⟩, rfl⟩

theorem Try.infoSpell : (Try.prog.info? 39).map (fun i => (i.zero, i.size, i.bytes)) = some (some (v2 (0, 0)), 2, 16) := by kernel_rfl

set_option maxHeartbeats 400000 in
theorem toSpell_any (x y : Int) (w : World) :
    Calls Try.prog 52 #[v2 (x, y)] w fun e w' => e = .returned (v2 (x, y)) ∧ Below w.heap.size w w' := by
  unfold v2
  go_enter Try.func52, Try.ntmps52
  go_wp2
  refine bodyPost_ret (v := v2 (x, y)) (by simp [results, Try.results52, go_sem]) rfl ⟨rfl, ?_⟩
  exact (((Below.refl _ _).alloc (Nat.le_refl _) _).alloc (by simp) _).alloc (by simp; omega) _

set_option maxHeartbeats 400000 in
theorem toSpellS_any (v : Value) (L : List I2) (w : World) (h : R2 w v L) (hs : L.length ≤ 1048576) :
    Calls Try.prog 25 #[v] w fun e w' => ∃ g, e = .returned (.slice (some ⟨g, 0, none⟩) L.length L.length) ∧ w.heap.size ≤ g ∧ OwnV w' g (recCells 2 e2 L) ∧ Below w.heap.size w w' := by
  obtain ⟨ao, cap, rfl, hl, hm, hc⟩ := h
  clear hl hm
  have HC := hide hc
  clear hc
  have hmk := run_make_recs (P := Try.prog) 26 39 _ 2 16 Try.underlying26 Try.infoSpell .i64 .i64 L.length (by omega) (by omega)
  go_enter Try.func25, Try.ntmps25
  go_wp2
  clear hmk
  go_loopg [4] L.length (fun g i wr => ∃ k : Nat, k ≤ L.length ∧ g = L.length - k ∧ i = .int .i64 k ∧ FillC 2 e2 w wr L (k * 2))
  case atStart => exact ⟨0, Nat.zero_le _, rfl, rfl, by rw [Nat.zero_mul]; exact FillC.start w L _ _⟩
  case round =>
    obtain ⟨k, hk, rfl, rfl, hF⟩ := hrel
    by_cases hkn : k < L.length
    · obtain ⟨b, o, x, y, rfl, hc0, hc1, EX⟩ := rec2At (unhide HC) hkn
      have g0 := wcell3 hc0 hF.below
      have g1 := wcell3 hc1 hF.below
      have HF := hide hF
      clear hc0 hc1 hF
      go_wp2_with fail
      refine (toSpell_any x y _).mono ?_
      rintro e w1 ⟨rfl, hb⟩
      have hF1 := (unhide HF).grow hb
      have hf := hF1.frozen
      obtain ⟨u0', hu0⟩ := hF1.cell (q := k * 2) (by omega)
      obtain ⟨u1', hu1⟩ := hF1.cell (q := k * 2 + 1) (by omega)
      have HF1 := hide hF1
      clear hb HF hF1
      unfold v2
      go_wp2
      go_roundg (L.length - (k + 1))
      case measure => omega
      case rel =>
        refine ⟨k + 1, by omega, rfl, by go_num, ?_⟩
        have s0 := (unhide HF1).set (v := .int .i64 x) (by omega) (by rw [show (k * 2) / 2 = k by omega, show (k * 2) % 2 = 0 by omega, unhide EX]; rfl)
        have s1 := s0.set (v := .int .i64 y) (by omega) (by rw [show (k * 2 + 1) / 2 = k by omega, show (k * 2 + 1) % 2 = 1 by omega, unhide EX]; rfl)
        rw [show (k + 1) * 2 = k * 2 + 2 by omega]
        exact s1
    · have hkk : k = L.length := by omega
      subst hkk
      go_wp2
      go_ret
      exact ⟨_, rfl, Nat.le_refl _, hF.done, hF.below⟩

set_option maxHeartbeats 400000 in
theorem eqSpell_any (x y : Int) (w : World) :
    Calls Try.prog 53 #[v2 (x, y), v2 (x, y)] w fun e w' => e = .returned (.bool true) ∧ Below w.heap.size w w' := by
  unfold v2
  go_enter Try.func53, Try.ntmps53
  go_wp2
  go_ret
  exact ⟨rfl, ((Below.refl _ _).alloc (Nat.le_refl _) _).alloc (by simp) _⟩

set_option maxHeartbeats 400000 in
theorem eqSpellS_any (v v' : Value) (L : List I2) (w : World) (h : R2 w v L) (h' : R2 w v' L) :
    Calls Try.prog 26 #[v, v'] w fun e w' => e = .returned (.bool true) ∧ Below w.heap.size w w' := by
  obtain ⟨ao, cap, rfl, hl, hm, hc⟩ := h
  obtain ⟨ao', cap', rfl, _, _, hc'⟩ := h'
  unfold maxLen at hm
  have HC := hide hc
  have HC' := hide hc'
  clear hc hc'
  go_enter Try.func26, Try.ntmps26
  go_wp2
  go_loopg [5] L.length (fun g i wr => Below w.heap.size w wr ∧ ∃ k : Nat, k ≤ L.length ∧ g = L.length - k ∧ i = .int .i64 k)
  case atStart => exact ⟨Below.refl _ _, 0, Nat.zero_le _, rfl, rfl⟩
  case round =>
    obtain ⟨hW, k, hk, rfl, rfl⟩ := hrel
    by_cases hkn : k < L.length
    · obtain ⟨b, o, x, y, rfl, hc0, hc1, EX⟩ := rec2At (unhide HC) hkn
      obtain ⟨b', o', x', y', rfl, hd0, hd1, EX'⟩ := rec2At (unhide HC') hkn
      have eX := (unhide EX).symm.trans (unhide EX')
      simp only [Prod.mk.injEq] at eX
      obtain ⟨rfl, rfl⟩ := eX
      have r0 := fun x' : Gr wr => gr_cell (wcell3 hc0 hW) x'
      have r0' := fun x' : Gr wr => gr_cell (wcell3 hd0 hW) x'
      have r1 := fun x' : Gr wr => gr_cell (wcell3 hc1 hW) x'
      have r1' := fun x' : Gr wr => gr_cell (wcell3 hd1 hW) x'
      have S1 := hide fun x' : Gr wr => eqSpell_any x y x'.val
      have HW := hide hW
      have gsome := gr_some wr
      clear hc0 hc1 hd0 hd1 hW
      go_wp2
      refine wp_region_grown (by kernel_rfl) (by kernel_rfl) ?_
      repeat (go_big_quiet_step (fail))
      go_big_quiet_want
      go_big_quiet_op
      go_big_quiet_call (exact calls_grown (unhide S1 _))
      repeat (go_big_quiet_step (fail))
      refine wpQuiet_nil ?_
      intro w1 hw1
      obtain ⟨z', hz⟩ := hw1
      have hb1 : Below wr.heap.size wr w1 := hz ▸ z'.ok
      clear hz gsome
      go_wp2
      go_roundg (L.length - (k + 1))
      case measure => omega
      case rel => exact ⟨Below.step (unhide HW) hb1, k + 1, by omega, rfl, by go_num⟩
    · go_wp2
      go_ret
      exact ⟨rfl, hW⟩

end Go.Proofs.Yticminoejikdfaa

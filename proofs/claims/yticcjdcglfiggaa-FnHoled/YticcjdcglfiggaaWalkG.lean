/- Contracts of the specification's l1Water and of the program's bothHalves. -/
import Derived.Test.YticcjdcglfiggaaWalkF
import Derived.Deep.RegionWith
namespace Go.Proofs.Yticcjdcglfiggaa
open Go.RowKit

theorem rows0_le {w : World} {v : Value} {R : List (List Int)} (h : RowsIn w v R) {r : Nat} (hr : r < R.length) : (R.getD r []).length ≤ 9223372036854775807 := by
  obtain ⟨ao', cap', _, _, _, hc⟩ := h
  obtain ⟨b, o, ar, m, cr, _, _, _, EM, hm0⟩ := rowAt hc hr
  rw [unhide EM]; exact hm0

set_option maxHeartbeats 800000 in
theorem l1Water_any (step rise : Int) (v : Value) (R : List (List Int)) (c : Int) (w : World) (h : RowsIn w v R) :
    Calls Try.prog 93 #[hullV step rise v, .int .i64 c] w fun e w' => e = .returned (.bool (waterOk step rise R c)) ∧ Below w.heap.size w w' := by
  have HV := hide h
  obtain ⟨ao, cap, rfl, hl, hm, hc⟩ := h
  have HC := hide hc
  unfold maxLen at hm
  clear hc
  unfold hullV
  have HB0 := hide (box3_alloc w (.int .i64 step) (.int .i64 rise) (.slice ao R.length cap) 26)
  have HW0 := hide (Below.alloc1 w (.cells #[.int .i64 step, .int .i64 rise, .slice ao R.length cap] 26))
  go_enter Try.func93, Try.ntmps93
  go_wp2_with fail
  refine (specHullOk_any step rise _ R _ ((unhide HV).below (unhide HW0))).mono ?_
  rintro e w1 ⟨rfl, hb⟩
  have HB1 := hide ((unhide HB0).step hb)
  have HW1 := hide (Below.step (unhide HW0) hb)
  clear hb HB0 HW0
  cases hok : hullOk step rise R with
  | false =>
    have HF : Hid (waterOk step rise R c = false) := by show _ = _; simp [waterOk, hok]
    clear hok
    go_wp2
    go_ret
    exact ⟨ret_bool (unhide HF).symm, unhide HW1⟩
  | true =>
    have hp := hullOk_pos hok
    have HF : Hid (waterOk step rise R c = inB c 0 ((R.getD 0 []).length - 1)) := by show _ = _; simp [waterOk, hok]
    clear hok
    obtain ⟨b, o, ar, m, cr, rfl, hcell, _, EM, hm0⟩ := rowAt (unhide HC) (show 0 < R.length by omega)
    simp only [Nat.add_zero] at hcell
    have hcell1 : w1.cell? ⟨b, o, none⟩ = some (.slice ar m cr) := ((unhide HW1).cell (lt_of_cell hcell)).trans hcell
    clear hcell
    rw [unhide EM] at HF
    obtain ⟨c0, c1, c2⟩ := unhide HB1
    go_wp2_with (go_at_call 77; refine (l1In_any _ _ _ _).mono ?_; rintro e w' ⟨rfl, rfl⟩)
    go_ret
    exact ⟨ret_bool (unhide HF).symm, unhide HW1⟩

/-- The half-breadth at a station and a water line. -/
def cellOf (R : List (List Int)) (s c : Nat) : Int := (R.getD s []).getD c 0

set_option maxHeartbeats 800000 in
theorem bothHalves_any (step rise : Int) (v : Value) (R : List (List Int)) (s c : Int) (k j : Nat) (w : World) (h : RowsIn w v R) (es : s = k) (ec : c = j) (hk : k + 1 < R.length) (hj : j < (R.getD k []).length) (hj' : j < (R.getD (k + 1) []).length) :
    Calls Try.prog 58 #[hullV step rise v, .int .i64 s, .int .i64 c] w fun e w' => e = .returned (.tuple #[.int .i64 (cellOf R k j), .int .i64 (cellOf R (k + 1) j)]) ∧ Below w.heap.size w w' := by
  subst es ec
  obtain ⟨ao, cap, rfl, hl, hm, hc⟩ := h
  unfold maxLen at hm
  obtain ⟨b, o, ar, m, cr, rfl, hcell, hrow, EM, hm0⟩ := rowAt hc (show k < R.length by omega)
  obtain ⟨b', o', ar', m', cr', eb, hcell', hrow', EM', hm0'⟩ := rowAt hc hk
  simp only [Option.some.injEq, Addr.mk.injEq, and_true] at eb
  obtain ⟨rfl, rfl⟩ := eb
  rw [unhide EM] at hj
  rw [unhide EM'] at hj'
  obtain ⟨b1, o1, rfl, hx⟩ := intAt hrow hj
  obtain ⟨b2, o2, rfl, hy⟩ := intAt hrow' hj'
  have hcr := hrow.len.2.1
  have hcr' := hrow'.len.2.1
  clear hrow hrow' hc
  unfold cellOf
  generalize (R.getD k []).getD j 0 = x at *
  generalize (R.getD (k + 1) []).getD j 0 = y at *
  clear EM EM'
  generalize R.length = len at *
  unfold hullV
  obtain ⟨W, eW⟩ : ∃ W, W = w.alloc (.cells #[.int .i64 step, .int .i64 rise, .slice (some ⟨b, o, none⟩) len cap] 26) := ⟨_, rfl⟩
  have hW : Below w.heap.size w W := by rw [eW]; exact Below.alloc1 _ _
  have hB : Box3 W w.heap.size (.int .i64 step) (.int .i64 rise) (.slice (some ⟨b, o, none⟩) len cap) := by rw [eW]; exact box3_alloc _ _ _ _ _
  have q1 : W.cell? ⟨b, o + k, none⟩ = some (.slice (some ⟨b1, o1, none⟩) m cr) := (hW.cell (lt_of_cell hcell)).trans hcell
  have q2 : W.cell? ⟨b, o + (k + 1), none⟩ = some (.slice (some ⟨b2, o2, none⟩) m' cr') := (hW.cell (lt_of_cell hcell')).trans hcell'
  have q3 : W.cell? ⟨b1, o1 + j, none⟩ = some (.int .i64 x) := (hW.cell (lt_of_cell hx)).trans hx
  have q4 : W.cell? ⟨b2, o2 + j, none⟩ = some (.int .i64 y) := (hW.cell (lt_of_cell hy)).trans hy
  have r0 := fun x : Gr W => gr_cell hB.c0 x
  have r1 := fun x : Gr W => gr_cell hB.c1 x
  have r2 := fun x : Gr W => gr_cell hB.c2 x
  have r5 := fun x : Gr W => gr_cell q3 x
  have r6 := fun x : Gr W => gr_cell q4 x
  have S1 := hide fun x : Gr W => station_det step rise b o len cap k m cr (some ⟨b1, o1, none⟩) (k : Int) x.val rfl (by omega) (by omega) (gr_cell q1 x) hcr hm0
  have S2 := hide fun x : Gr W => station_det step rise b o len cap (k + 1) m' cr' (some ⟨b2, o2, none⟩) ((k : Int) + 1) x.val (by omega) (by omega) (by omega) (gr_cell q2 x) hcr' hm0'
  have e1 : ((j : Int) < (m : Int)) := by omega
  have e2 : ((j : Int) < (m' : Int)) := by omega
  have e3 : IntKind.i64.wrap ((k : Int) + 1) = (k : Int) + 1 := by rw [IntKind.wrap_i64]; omega
  have HW := hide hW
  have gsome := gr_some W
  clear hW hB q1 q2 q3 q4 hcell hcell' hx hy
  go_enter Try.func58, Try.ntmps58
  go_wp2
  have EW := hide eW
  rw [← eW]
  clear eW
  refine wp_region_grown (by kernel_rfl) (by kernel_rfl) ?_
  repeat (go_big_quiet_step (fail))
  go_big_quiet_want
  go_big_quiet_op
  go_big_quiet_call (exact calls_grown (unhide S1 _))
  repeat (go_big_quiet_step (fail))
  go_big_quiet_want
  go_big_quiet_op
  go_big_quiet_call (exact calls_grown (unhide S2 _))
  repeat (go_big_quiet_step (fail))
  refine wpQuiet_nil ?_
  intro w1 hw1
  obtain ⟨z, hz⟩ := hw1
  have hb1 : Below W.heap.size W w1 := hz ▸ z.ok
  clear hz
  go_wp2
  go_ret2
  exact ⟨rfl, Below.step (unhide HW) hb1⟩

end Go.Proofs.Yticcjdcglfiggaa

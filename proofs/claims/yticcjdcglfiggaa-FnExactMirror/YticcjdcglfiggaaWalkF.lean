/- A region whose order Go leaves open and whose callees only make memory: one walk serves (the worlds that have only grown). Contracts of waterCount, stripCount, isWater, bothHalves and of the specification's l1Water. -/
import Derived.Test.YticcjdcglfiggaaWalkE
namespace Go.Proofs.Yticcjdcglfiggaa
open Go.RowKit

/-- A world in which nothing of W has turned. -/
structure Gr (W : World) where
  val : World
  ok : Below W.heap.size W val

theorem wp_region_grown {P : Program} {id : Nat} {Q : Exit → Act → World → Prop} {a : Act} {w : World} {l : List Oper} (hm : P.follows .mixedOrders = true) (hB : Region.lexB .any l.toArray = true)
    (h : wpQuiet P l.toArray (fun w' => ∃ x : Gr w, w' = x.val) (fun a' => ∀ w', (∃ x : Gr w, w' = x.val) → Q .normal a' w') l a) : (Code.region id l.toArray true).wp P Q a w :=
  wp_region_quiet (C := fun w' => ∃ x : Gr w, w' = x.val) hm hB ⟨⟨w.drew, (Below.refl _ _).drew⟩, rfl⟩ (by simpa using h)

theorem calls_grown {P : Program} {f : FuncId} {args : Array Value} {w : World} {x : Gr w} {v : Value} (h : Calls P f args x.val fun e w' => e = .returned v ∧ Below x.val.heap.size x.val w') :
    Calls P f args x.val fun e w'' => e = .returned v ∧ ∃ y : Gr w, w'' = y.val :=
  h.mono fun _ w' ⟨he, hb⟩ => ⟨he, ⟨w', Below.step x.ok hb⟩, rfl⟩

theorem gr_some (w : World) : Nonempty (Gr w) := ⟨⟨w, Below.refl _ _⟩⟩

theorem gr_cell {w : World} {a : Addr} {v : Value} (h : w.cell? a = some v) (x : Gr w) : x.val.cell? a = some v := (x.ok.cell (lt_of_cell h)).trans h

set_option maxHeartbeats 400000 in
theorem station_det (step rise : Int) (b o len cap : Nat) (n m cr : Nat) (ar : Option Addr) (s : Int) (w : World) (e : s = n) (hn : n < len) (_hl : len ≤ 9223372036854775807) (hcell : w.cell? ⟨b, o + n, none⟩ = some (.slice ar m cr)) (hcr : m ≤ cr) (_hm0 : m ≤ 9223372036854775807) :
    Calls Try.prog 52 #[hullV step rise (.slice (some ⟨b, o, none⟩) len cap), .int .i64 s] w fun e w' => e = .returned (.slice ar m m) ∧ Below w.heap.size w w' := by
  subst e
  have hcell1 : ∀ o', (w.alloc o').cell? ⟨b, o + n, none⟩ = some (.slice ar m cr) := fun o' => (((Below.refl _ _).alloc (Nat.le_refl _) o').cell (lt_of_cell hcell)).trans hcell
  clear hcell
  unfold hullV
  go_enter Try.func52, Try.ntmps52
  go_wp2
  go_ret
  exact ⟨rfl, (Below.refl _ _).alloc (Nat.le_refl _) _⟩

set_option maxHeartbeats 400000 in
theorem waterCount_any (step rise : Int) (v : Value) (R : List (List Int)) (w : World) (h : RowsIn w v R) (hpos : 0 < R.length) :
    Calls Try.prog 92 #[hullV step rise v] w fun e w' => e = .returned (.int .i64 (R.getD 0 []).length) ∧ Below w.heap.size w w' := by
  obtain ⟨ao, cap, rfl, hl, hm, hc⟩ := h
  unfold maxLen at hm
  obtain ⟨b, o, ar, m, cr, rfl, hcell, _, EM, hm0⟩ := rowAt hc hpos
  simp only [Nat.add_zero] at hcell
  have hcell1 : ∀ o', (w.alloc o').cell? ⟨b, o, none⟩ = some (.slice ar m cr) := fun o' => (((Below.refl _ _).alloc (Nat.le_refl _) o').cell (lt_of_cell hcell)).trans hcell
  rw [unhide EM]
  clear hcell hc
  unfold hullV
  go_enter Try.func92, Try.ntmps92
  go_wp2
  go_ret
  exact ⟨rfl, (Below.refl _ _).alloc (Nat.le_refl _) _⟩

set_option maxHeartbeats 400000 in
theorem stripCount_any (step rise : Int) (v : Value) (R : List (List Int)) (w : World) (h : RowsIn w v R) :
    Calls Try.prog 56 #[hullV step rise v] w fun e w' => e = .returned (.int .i64 ((R.length : Int) - 1)) ∧ Below w.heap.size w w' := by
  obtain ⟨ao, cap, rfl, hl, hm, hc⟩ := h
  unfold maxLen at hm
  clear hc
  unfold hullV
  go_enter Try.func56, Try.ntmps56
  go_wp2
  go_ret
  exact ⟨rfl, (Below.refl _ _).alloc (Nat.le_refl _) _⟩

/-- A water line of a right hull. -/
def waterOk (step rise : Int) (R : List (List Int)) (c : Int) : Bool := hullOk step rise R && inB c 0 ((R.getD 0 []).length - 1)

theorem hullOk_pos {step rise : Int} {R : List (List Int)} (h : hullOk step rise R = true) : 2 ≤ R.length ∧ R.length ≤ 12 := by
  unfold hullOk at h
  simp only [Bool.and_eq_true] at h
  have := inB_true h.1.2
  omega

set_option maxHeartbeats 800000 in
theorem isWater_any (step rise : Int) (v : Value) (R : List (List Int)) (c : Int) (w : World) (h : RowsIn w v R) :
    Calls Try.prog 55 #[hullV step rise v, .int .i64 c] w fun e w' => e = .returned (.bool (waterOk step rise R c)) ∧ Below w.heap.size w w' := by
  have HV := hide h
  obtain ⟨ao, cap, rfl, hl, hm, hc⟩ := h
  clear hc hl hm
  unfold hullV
  have HB0 := hide (box3_alloc w (.int .i64 step) (.int .i64 rise) (.slice ao R.length cap) 26)
  have HW0 := hide (Below.alloc1 w (.cells #[.int .i64 step, .int .i64 rise, .slice ao R.length cap] 26))
  go_enter Try.func55, Try.ntmps55
  go_wp2_with fail
  refine (implHullOk_any step rise _ R _ ((unhide HV).below (unhide HW0))).mono ?_
  rintro e w1 ⟨rfl, hb⟩
  have HB1 := hide ((unhide HB0).step hb)
  have HW1 := hide (Below.step (unhide HW0) hb)
  clear hb HB0 HW0
  cases hok : hullOk step rise R with
  | false =>
    have HF : Hid (waterOk step rise R c = false) := by show _ = _; simp [waterOk, hok]
    clear hok
    go_wp2
    go_ret
    exact ⟨ret_bool (unhide HF).symm, unhide HW1⟩
  | true =>
    have hp := hullOk_pos hok
    have HF : Hid (waterOk step rise R c = inB c 0 ((R.getD 0 []).length - 1)) := by show _ = _; simp [waterOk, hok]
    clear hok
    obtain ⟨c0, c1, c2⟩ := unhide HB1
    go_wp2_with fail
    refine (waterCount_any step rise _ R _ ((unhide HV).below (unhide HW1)) (by omega)).mono ?_
    rintro e w2 ⟨rfl, hb⟩
    have HW2 := hide (Below.step (unhide HW1) hb)
    have hm0 : (R.getD 0 []).length ≤ 9223372036854775807 := by
      obtain ⟨ao', cap', _, _, _, hc⟩ := unhide HV
      obtain ⟨b, o, ar, m, cr, _, _, _, EM, hm0⟩ := rowAt hc (show 0 < R.length by omega)
      rw [unhide EM]; exact hm0
    clear hb HB1 HW1 c0 c1 c2
    generalize (R.getD 0 []).length = m at *
    go_wp2_with (go_at_call 53; refine (within_any _ _ _ _).mono ?_; rintro e w' ⟨rfl, rfl⟩)
    go_ret
    exact ⟨ret_bool (unhide HF).symm, unhide HW2⟩

end Go.Proofs.Yticcjdcglfiggaa

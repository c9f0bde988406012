/- Laid together out of: WalkG, WalkH, StB, StC, ExactKit, StD, WalkI, WalkO, WalkJ, WalkK. -/
import Derived.Test.YticcjdcglfiggaaPa
import Derived.Deep.RegionWith
import Derived.Deep.RegionHeld3
import Derived.Laws.Closers25

/- Contracts of the specification's l1Water and of the program's bothHalves. -/
namespace Go.Proofs.Yticcjdcglfiggaa
open Go.RowKit

theorem rows0_le {w : World} {v : Value} {R : List (List Int)} (h : RowsIn w v R) {r : Nat} (hr : r < R.length) : (R.getD r []).length ≤ 9223372036854775807 := by
  obtain ⟨ao', cap', _, _, _, hc⟩ := h
  obtain ⟨b, o, ar, m, cr, _, _, _, EM, hm0⟩ := rowAt hc hr
  rw [unhide EM]; exact hm0

set_option maxHeartbeats 800000 in
theorem l1Water_any (step rise : Int) (v : Value) (R : List (List Int)) (c : Int) (w : World) (h : RowsIn w v R) :
    Calls Try.prog 93 #[hullV step rise v, .int .i64 c] w fun e w' => e = .returned (.bool (waterOk step rise R c)) ∧ Below w.heap.size w w' := by
  have HV := hide h
  obtain ⟨ao, cap, rfl, hl, hm, hc⟩ := h
  have HC := hide hc
  unfold maxLen at hm
  clear hc
  unfold hullV
  have HB0 := hide (box3_alloc w (.int .i64 step) (.int .i64 rise) (.slice ao R.length cap) 26)
  have HW0 := hide (Below.alloc1 w (.cells #[.int .i64 step, .int .i64 rise, .slice ao R.length cap] 26))
  go_enter Try.func93, Try.ntmps93
  go_wp2_with fail
  refine (specHullOk_any step rise _ R _ ((unhide HV).below (unhide HW0))).mono ?_
  rintro e w1 ⟨rfl, hb⟩
  have HB1 := hide ((unhide HB0).step hb)
  have HW1 := hide (Below.step (unhide HW0) hb)
  clear hb HB0 HW0
  cases hok : hullOk step rise R with
  | false =>
    have HF : Hid (waterOk step rise R c = false) := by show _ = _; simp [waterOk, hok]
    clear hok
    go_wp2
    go_ret
    exact ⟨ret_bool (unhide HF).symm, unhide HW1⟩
  | true =>
    have hp := hullOk_pos hok
    have HF : Hid (waterOk step rise R c = inB c 0 ((R.getD 0 []).length - 1)) := by show _ = _; simp [waterOk, hok]
    clear hok
    obtain ⟨b, o, ar, m, cr, rfl, hcell, _, EM, hm0⟩ := rowAt (unhide HC) (show 0 < R.length by omega)
    simp only [Nat.add_zero] at hcell
    have hcell1 : w1.cell? ⟨b, o, none⟩ = some (.slice ar m cr) := ((unhide HW1).cell (lt_of_cell hcell)).trans hcell
    clear hcell
    rw [unhide EM] at HF
    obtain ⟨c0, c1, c2⟩ := unhide HB1
    go_wp2_with (go_at_call 77; refine (l1In_any _ _ _ _).mono ?_; rintro e w' ⟨rfl, rfl⟩)
    go_ret
    exact ⟨ret_bool (unhide HF).symm, unhide HW1⟩

/-- The half-breadth at a station and a water line. -/
def cellOf (R : List (List Int)) (s c : Nat) : Int := (R.getD s []).getD c 0

set_option maxHeartbeats 800000 in
theorem bothHalves_any (step rise : Int) (v : Value) (R : List (List Int)) (s c : Int) (k j : Nat) (w : World) (h : RowsIn w v R) (es : s = k) (ec : c = j) (hk : k + 1 < R.length) (hj : j < (R.getD k []).length) (hj' : j < (R.getD (k + 1) []).length) :
    Calls Try.prog 58 #[hullV step rise v, .int .i64 s, .int .i64 c] w fun e w' => e = .returned (.tuple #[.int .i64 (cellOf R k j), .int .i64 (cellOf R (k + 1) j)]) ∧ Below w.heap.size w w' := by
  subst es ec
  obtain ⟨ao, cap, rfl, hl, hm, hc⟩ := h
  unfold maxLen at hm
  obtain ⟨b, o, ar, m, cr, rfl, hcell, hrow, EM, hm0⟩ := rowAt hc (show k < R.length by omega)
  obtain ⟨b', o', ar', m', cr', eb, hcell', hrow', EM', hm0'⟩ := rowAt hc hk
  simp only [Option.some.injEq, Addr.mk.injEq, and_true] at eb
  obtain ⟨rfl, rfl⟩ := eb
  rw [unhide EM] at hj
  rw [unhide EM'] at hj'
  obtain ⟨b1, o1, rfl, hx⟩ := intAt hrow hj
  obtain ⟨b2, o2, rfl, hy⟩ := intAt hrow' hj'
  have hcr := hrow.len.2.1
  have hcr' := hrow'.len.2.1
  clear hrow hrow' hc
  unfold cellOf
  generalize (R.getD k []).getD j 0 = x at *
  generalize (R.getD (k + 1) []).getD j 0 = y at *
  clear EM EM'
  generalize R.length = len at *
  unfold hullV
  obtain ⟨W, eW⟩ : ∃ W, W = w.alloc (.cells #[.int .i64 step, .int .i64 rise, .slice (some ⟨b, o, none⟩) len cap] 26) := ⟨_, rfl⟩
  have hW : Below w.heap.size w W := by rw [eW]; exact Below.alloc1 _ _
  have hB : Box3 W w.heap.size (.int .i64 step) (.int .i64 rise) (.slice (some ⟨b, o, none⟩) len cap) := by rw [eW]; exact box3_alloc _ _ _ _ _
  have q1 : W.cell? ⟨b, o + k, none⟩ = some (.slice (some ⟨b1, o1, none⟩) m cr) := (hW.cell (lt_of_cell hcell)).trans hcell
  have q2 : W.cell? ⟨b, o + (k + 1), none⟩ = some (.slice (some ⟨b2, o2, none⟩) m' cr') := (hW.cell (lt_of_cell hcell')).trans hcell'
  have q3 : W.cell? ⟨b1, o1 + j, none⟩ = some (.int .i64 x) := (hW.cell (lt_of_cell hx)).trans hx
  have q4 : W.cell? ⟨b2, o2 + j, none⟩ = some (.int .i64 y) := (hW.cell (lt_of_cell hy)).trans hy
  have r0 := fun x : Gr W => gr_cell hB.c0 x
  have r1 := fun x : Gr W => gr_cell hB.c1 x
  have r2 := fun x : Gr W => gr_cell hB.c2 x
  have r5 := fun x : Gr W => gr_cell q3 x
  have r6 := fun x : Gr W => gr_cell q4 x
  have S1 := hide fun x : Gr W => station_det step rise b o len cap k m cr (some ⟨b1, o1, none⟩) (k : Int) x.val rfl (by omega) (by omega) (gr_cell q1 x) hcr hm0
  have S2 := hide fun x : Gr W => station_det step rise b o len cap (k + 1) m' cr' (some ⟨b2, o2, none⟩) ((k : Int) + 1) x.val (by omega) (by omega) (by omega) (gr_cell q2 x) hcr' hm0'
  have e1 : ((j : Int) < (m : Int)) := by omega
  have e2 : ((j : Int) < (m' : Int)) := by omega
  have e3 : IntKind.i64.wrap ((k : Int) + 1) = (k : Int) + 1 := by rw [IntKind.wrap_i64]; omega
  have HW := hide hW
  have gsome := gr_some W
  clear hW hB q1 q2 q3 q4 hcell hcell' hx hy
  go_enter Try.func58, Try.ntmps58
  go_wp2
  have EW := hide eW
  rw [← eW]
  clear eW
  refine wp_region_grown (by kernel_rfl) (by kernel_rfl) ?_
  repeat (go_big_quiet_step (fail))
  go_big_quiet_want
  go_big_quiet_op
  go_big_quiet_call (exact calls_grown (unhide S1 _))
  repeat (go_big_quiet_step (fail))
  go_big_quiet_want
  go_big_quiet_op
  go_big_quiet_call (exact calls_grown (unhide S2 _))
  repeat (go_big_quiet_step (fail))
  refine wpQuiet_nil ?_
  intro w1 hw1
  obtain ⟨z, hz⟩ := hw1
  have hb1 : Below W.heap.size W w1 := hz ▸ z.ok
  clear hz
  go_wp2
  go_ret2
  exact ⟨rfl, Below.step (unhide HW) hb1⟩

end Go.Proofs.Yticcjdcglfiggaa

/- The area at a water line as a plain function, and the contracts of the specification's and the program's Plane: both tell it. -/
namespace Go.Proofs.Yticcjdcglfiggaa
open Go.RowKit

theorem ret_int {k : IntKind} {a b : Int} (h : a = b) : Ending.returned (.int k a) = .returned (.int k b) := by rw [h]

/-- f 0 + f 1 + .. + f (k - 1). -/
def sumTo (f : Nat → Int) : Nat → Int
  | 0 => 0
  | k + 1 => sumTo f k + f k

theorem sumTo_bd {f : Nat → Int} {B : Int} {n : Nat} (h : ∀ i, i < n → 0 ≤ f i ∧ f i ≤ B) : ∀ k, k ≤ n → 0 ≤ sumTo f k ∧ sumTo f k ≤ k * B
  | 0, _ => by simp [sumTo]
  | k + 1, hk => by
    have h1 := sumTo_bd h k (by omega)
    have h2 := h k (by omega)
    have e : ((k + 1 : Nat) : Int) * B = k * B + B := by
      rw [Int.natCast_add, Int.add_mul]; simp
    simp only [sumTo]
    omega

theorem mul_bd {a b A B : Int} (h1 : 0 ≤ a) (h2 : a ≤ A) (h3 : 0 ≤ b) (h4 : b ≤ B) : 0 ≤ a * b ∧ a * b ≤ A * B :=
  ⟨Int.mul_nonneg h1 h3, Int.mul_le_mul h2 h4 h3 (Int.le_trans h1 h2)⟩

/-- What a right hull is. -/
structure Right (step rise : Int) (R : List (List Int)) : Prop where
  step1 : 1 ≤ step
  step2 : step ≤ 100
  rise1 : 1 ≤ rise
  rise2 : rise ≤ 20
  len1 : 2 ≤ R.length
  len2 : R.length ≤ 12
  wat1 : 2 ≤ (R.getD 0 []).length
  wat2 : (R.getD 0 []).length ≤ 10
  even : ∀ r, r < R.length → (R.getD r []).length = (R.getD 0 []).length
  cells : ∀ r c, r < R.length → c < (R.getD 0 []).length → 0 ≤ cellOf R r c ∧ cellOf R r c ≤ 50

theorem hullOk_right {step rise : Int} {R : List (List Int)} (h : hullOk step rise R = true) : Right step rise R := by
  unfold hullOk at h
  simp only [Bool.and_eq_true] at h
  obtain ⟨⟨⟨h1, h2⟩, h3⟩, h4⟩ := h
  have h1 := inB_true h1
  have h2 := inB_true h2
  have h3 := inB_true h3
  have row : ∀ r, r < R.length → (R.getD r []).length = (R.getD 0 []).length ∧ inB (R.getD r []).length 2 10 = true ∧ ((R.getD r []).all fun x => inB x 0 50) = true := fun r hr => by
    have := all_at (d := []) h4 hr
    unfold rowOk at this
    simp only [Bool.and_eq_true, beq_iff_eq] at this
    exact ⟨this.1.1, this.1.2, this.2⟩
  have r0 := row 0 (by omega)
  have i0 := inB_true r0.2.1
  refine ⟨h1.1, h1.2, h2.1, h2.2, by omega, by omega, by omega, by omega, fun r hr => (row r hr).1, fun r c hr hc => ?_⟩
  have := all_at (d := 0) (row r hr).2.2 (show c < (R.getD r []).length by rw [(row r hr).1]; exact hc)
  exact inB_true this

def planeF (step : Int) (R : List (List Int)) (c : Nat) (s : Nat) : Int := step * (cellOf R s c + cellOf R (s + 1) c)

theorem planeF_bd {step rise : Int} {R : List (List Int)} (h : Right step rise R) {c : Nat} (hc : c < (R.getD 0 []).length) : ∀ s, s < R.length - 1 → 0 ≤ planeF step R c s ∧ planeF step R c s ≤ 10000 := fun s hs => by
  have a := h.cells s c (by omega) hc
  have b := h.cells (s + 1) c (by omega) hc
  have h1 := h.step1
  have h2 := h.step2
  exact mul_bd (A := 100) (B := 100) (by omega) h2 (by omega) (by omega)

def plane (step rise : Int) (R : List (List Int)) (c : Int) : Int := if waterOk step rise R c = true then sumTo (planeF step R c.toNat) (R.length - 1) else 0

/-- Two rows beside each other, their values written out, with the numbers at place j. -/
theorem two_cells {w : World} {ao : Option Addr} {R : List (List Int)} {k j : Nat} (h : ∀ r, r < R.length → ∃ b o vr, ao = some ⟨b, o, none⟩ ∧ w.cell? ⟨b, o + r, none⟩ = some vr ∧ IntsIn w vr (R.getD r [])) (hk : k + 1 < R.length)
    (hj : j < (R.getD k []).length) (hj' : j < (R.getD (k + 1) []).length) :
    ∃ b o b1 o1 m cr b2 o2 m' cr', ao = some ⟨b, o, none⟩ ∧ w.cell? ⟨b, o + k, none⟩ = some (.slice (some ⟨b1, o1, none⟩) m cr) ∧ w.cell? ⟨b, o + (k + 1), none⟩ = some (.slice (some ⟨b2, o2, none⟩) m' cr') ∧
      w.cell? ⟨b1, o1 + j, none⟩ = some (.int .i64 (cellOf R k j)) ∧ w.cell? ⟨b2, o2 + j, none⟩ = some (.int .i64 (cellOf R (k + 1) j)) ∧ (j : Int) < m ∧ (j : Int) < m' := by
  obtain ⟨b, o, ar, m, cr, rfl, hcell, hrow, EM, hm0⟩ := rowAt h (show k < R.length by omega)
  obtain ⟨b', o', ar', m', cr', eb, hcell', hrow', EM', hm0'⟩ := rowAt h hk
  simp only [Option.some.injEq, Addr.mk.injEq, and_true] at eb
  obtain ⟨rfl, rfl⟩ := eb
  rw [unhide EM] at hj
  rw [unhide EM'] at hj'
  obtain ⟨b1, o1, rfl, hx⟩ := intAt hrow hj
  obtain ⟨b2, o2, rfl, hy⟩ := intAt hrow' hj'
  exact ⟨b, o, b1, o1, m, cr, b2, o2, m', cr', rfl, hcell, hcell', hx, hy, by omega, by omega⟩

set_option maxHeartbeats 1600000 in
theorem specPlane_any (step rise : Int) (v : Value) (R : List (List Int)) (c : Int) (w : World) (h : RowsIn w v R) :
    Calls Try.prog 109 #[hullV step rise v, .int .i64 c] w fun e w' => e = .returned (.int .i64 (plane step rise R c)) ∧ Below w.heap.size w w' := by
  have HV := hide h
  obtain ⟨ao, cap, rfl, hl, hm, hc⟩ := h
  have HC := hide hc
  unfold maxLen at hm
  clear hc
  unfold hullV
  have HB0 := hide (box3_alloc w (.int .i64 step) (.int .i64 rise) (.slice ao R.length cap) 26)
  have HW0 := hide (Below.alloc1 w (.cells #[.int .i64 step, .int .i64 rise, .slice ao R.length cap] 26))
  go_enter Try.func109, Try.ntmps109
  go_wp2_with fail
  refine (l1Water_any step rise _ R c _ ((unhide HV).below (unhide HW0))).mono ?_
  rintro e w1 ⟨rfl, hb⟩
  have HB1 := hide ((unhide HB0).step hb)
  have HW1 := hide (Below.step (unhide HW0) hb)
  clear hb HB0 HW0
  cases hok : waterOk step rise R c with
  | false =>
    have HF : Hid (plane step rise R c = 0) := by show _ = _; simp [plane, hok]
    clear hok
    go_wp2
    go_ret
    exact ⟨ret_int (unhide HF).symm, unhide HW1⟩
  | true =>
    have HF : Hid (plane step rise R c = sumTo (planeF step R c.toNat) (R.length - 1)) := by show _ = _; simp [plane, hok]
    unfold waterOk at hok
    simp only [Bool.and_eq_true] at hok
    have hR := hullOk_right hok.1
    have hcb := inB_true hok.2
    clear hok
    obtain ⟨j, rfl⟩ := Int.eq_ofNat_of_zero_le hcb.1
    rw [Int.toNat_natCast] at HF
    have hj : j < (R.getD 0 []).length := by omega
    clear hcb
    have hl1 := hR.len1
    have hl2 := hR.len2
    have HR := hide hR
    have HJ := hide hj
    clear hR hj
    go_wp2
    go_loopg [5, 6] R.length (fun g sv i wr => ∃ k : Nat, k + 1 ≤ R.length ∧ g = R.length - k ∧ i = .int .i64 k ∧ sv = .int .i64 (sumTo (planeF step R j) k) ∧ Below w1.heap.size w1 wr)
    case atStart => exact ⟨0, by omega, rfl, rfl, rfl, Below.refl _ _⟩
    case round =>
      obtain ⟨k, hk, rfl, rfl, rfl, hB⟩ := hrel
      have HBX := (unhide HB1).step hB
      have HWr := hide (Below.step (unhide HW1) hB)
      have HBr := hide hB
      obtain ⟨c0, c1, c2⟩ := HBX
      clear hB
      by_cases hkn : k + 1 < R.length
      · have hj' := unhide HJ
        have ev := (unhide HR).even
        obtain ⟨b, o, b1, o1, m, cr, b2, o2, m', cr', rfl, g1, g2, g3, g4, g5, g6⟩ := two_cells (unhide HC) hkn (by rw [ev k (by omega)]; exact hj') (by rw [ev (k + 1) hkn]; exact hj')
        have q1 := ((unhide HWr).cell (lt_of_cell g1)).trans g1
        have q2 := ((unhide HWr).cell (lt_of_cell g2)).trans g2
        have q3 := ((unhide HWr).cell (lt_of_cell g3)).trans g3
        have q4 := ((unhide HWr).cell (lt_of_cell g4)).trans g4
        have pb := planeF_bd (unhide HR) hj' k (by omega)
        have sb := sumTo_bd (planeF_bd (unhide HR) hj') k (by omega)
        have xb := (unhide HR).cells k j (by omega) hj'
        have yb := (unhide HR).cells (k + 1) j hkn hj'
        have ES : Hid (sumTo (planeF step R j) (k + 1) = sumTo (planeF step R j) k + step * (cellOf R k j + cellOf R (k + 1) j)) := rfl
        clear g1 g2 g3 g4 ev hj'
        unfold planeF at pb
        generalize cellOf R k j = x at *
        generalize cellOf R (k + 1) j = y at *
        generalize sumTo (planeF step R j) k = S at *
        obtain ⟨pb1, pb2⟩ := pb
        obtain ⟨sb1, sb2⟩ := sb
        obtain ⟨xb1, xb2⟩ := xb
        obtain ⟨yb1, yb2⟩ := yb
        go_wp2
        go_quiet (fail)
        go_wp2
        go_roundg (R.length - (k + 1))
        case measure => omega
        case rel => exact ⟨k + 1, by omega, rfl, by go_num, by rw [unhide ES], below_drewN (unhide HBr) _⟩
      · go_wp2
        go_ret
        have hkk : R.length - 1 = k := by omega
        exact ⟨ret_int (by rw [unhide HF, hkk]), unhide HWr⟩

set_option maxHeartbeats 1600000 in
theorem implPlane_any (step rise : Int) (v : Value) (R : List (List Int)) (c : Int) (w : World) (h : RowsIn w v R) :
    Calls Try.prog 15 #[hullV step rise v, .int .i64 c] w fun e w' => e = .returned (.int .i64 (plane step rise R c)) ∧ Below w.heap.size w w' := by
  have HV := hide h
  obtain ⟨ao, cap, rfl, hl, hm, hc⟩ := h
  unfold maxLen at hm
  clear hc
  unfold hullV
  have HB0 := hide (box3_alloc w (.int .i64 step) (.int .i64 rise) (.slice ao R.length cap) 26)
  have HW0 := hide (Below.alloc1 w (.cells #[.int .i64 step, .int .i64 rise, .slice ao R.length cap] 26))
  go_enter Try.func15, Try.ntmps15
  go_wp2_with fail
  refine (isWater_any step rise _ R c _ ((unhide HV).below (unhide HW0))).mono ?_
  rintro e w1 ⟨rfl, hb⟩
  have HB1 := hide ((unhide HB0).step hb)
  have HW1 := hide (Below.step (unhide HW0) hb)
  clear hb HB0 HW0
  cases hok : waterOk step rise R c with
  | false =>
    have HF : Hid (plane step rise R c = 0) := by show _ = _; simp [plane, hok]
    clear hok
    go_wp2
    go_ret
    exact ⟨ret_int (unhide HF).symm, unhide HW1⟩
  | true =>
    have HF : Hid (plane step rise R c = sumTo (planeF step R c.toNat) (R.length - 1)) := by show _ = _; simp [plane, hok]
    unfold waterOk at hok
    simp only [Bool.and_eq_true] at hok
    have hR := hullOk_right hok.1
    have hcb := inB_true hok.2
    clear hok
    obtain ⟨j, rfl⟩ := Int.eq_ofNat_of_zero_le hcb.1
    rw [Int.toNat_natCast] at HF
    have hj : j < (R.getD 0 []).length := by omega
    clear hcb
    have hl1 := hR.len1
    have hl2 := hR.len2
    have HR := hide hR
    have HJ := hide hj
    clear hR hj
    obtain ⟨c0, c1, c2⟩ := unhide HB1
    go_wp2_with fail
    refine (stripCount_any step rise _ R _ ((unhide HV).below (unhide HW1))).mono ?_
    rintro e w2 ⟨rfl, hb⟩
    have HB2 := hide ((unhide HB1).step hb)
    have HW2 := hide (Below.step (unhide HW1) hb)
    clear hb HB1 HW1 c0 c1 c2
    go_wp2
    go_loopg [5, 15] R.length (fun g sv i wr => ∃ k : Nat, k + 1 ≤ R.length ∧ g = R.length - k ∧ i = .int .i64 k ∧ sv = .int .i64 (sumTo (planeF step R j) k) ∧ Below w2.heap.size w2 wr)
    case atStart => exact ⟨0, by omega, rfl, rfl, rfl, Below.refl _ _⟩
    case round =>
      obtain ⟨k, hk, rfl, rfl, rfl, hB⟩ := hrel
      have HBX := (unhide HB2).step hB
      have HBX' := hide HBX
      have HWr := hide (Below.step (unhide HW2) hB)
      have HBr := hide hB
      obtain ⟨c0, c1, c2⟩ := HBX
      clear hB
      by_cases hkn : k + 1 < R.length
      · have hj' := unhide HJ
        have ev := (unhide HR).even
        have HT := hide (bothHalves_any step rise _ R (k : Int) (j : Int) k j wr ((unhide HV).below (unhide HWr)) rfl rfl hkn (by rw [ev k (by omega)]; exact hj') (by rw [ev (k + 1) hkn]; exact hj'))
        have pb := planeF_bd (unhide HR) hj' k (by omega)
        have sb := sumTo_bd (planeF_bd (unhide HR) hj') k (by omega)
        have xb := (unhide HR).cells k j (by omega) hj'
        have yb := (unhide HR).cells (k + 1) j hkn hj'
        have ES : Hid (sumTo (planeF step R j) (k + 1) = sumTo (planeF step R j) k + step * (cellOf R k j + cellOf R (k + 1) j)) := rfl
        clear ev hj'
        unfold planeF at pb
        generalize cellOf R k j = x at *
        generalize cellOf R (k + 1) j = y at *
        generalize sumTo (planeF step R j) k = S at *
        obtain ⟨pb1, pb2⟩ := pb
        obtain ⟨sb1, sb2⟩ := sb
        obtain ⟨xb1, xb2⟩ := xb
        obtain ⟨yb1, yb2⟩ := yb
        go_wp2_with fail
        refine (unhide HT).mono ?_
        rintro e w3 ⟨rfl, hb⟩
        have d0 := ((unhide HBX').step hb).c0
        have HB3 := hide (Below.step (unhide HBr) hb)
        clear hb c0 c1 c2
        go_wp2
        go_roundg (R.length - (k + 1))
        case measure => omega
        case rel => exact ⟨k + 1, by omega, rfl, by go_num, by rw [unhide ES], unhide HB3⟩
      · go_wp2
        go_ret
        have hkk : R.length - 1 = k := by omega
        exact ⟨ret_int (by rw [unhide HF, hkk]), unhide HWr⟩

end Go.Proofs.Yticcjdcglfiggaa

/- A load: what masses weigh together and their two moments; contracts of the program's and the specification's LoadOf: both tell it. -/
namespace Go.Proofs.Yticcjdcglfiggaa
open Go.RowKit

theorem sumTo_bd2 {f : Nat → Int} {A B : Int} {n : Nat} (h : ∀ i, i < n → A ≤ f i ∧ f i ≤ B) : ∀ k, k ≤ n → k * A ≤ sumTo f k ∧ sumTo f k ≤ k * B
  | 0, _ => by simp [sumTo]
  | k + 1, hk => by
    have h1 := sumTo_bd2 h k (by omega)
    have h2 := h k (by omega)
    have e : ((k + 1 : Nat) : Int) * B = k * B + B := by rw [Int.natCast_add, Int.add_mul]; simp
    have e' : ((k + 1 : Nat) : Int) * A = k * A + A := by rw [Int.natCast_add, Int.add_mul]; simp
    simp only [sumTo]
    omega

def wF (L : List I3) (i : Nat) : Int := (L.getD i default).1
def xF (L : List I3) (i : Nat) : Int := (L.getD i default).1 * (L.getD i default).2.1
def zF (L : List I3) (i : Nat) : Int := (L.getD i default).1 * (L.getD i default).2.2

/-- The sums of the first k masses. -/
def loadTo (L : List I3) (k : Nat) : I3 := (sumTo (wF L) k, sumTo (xF L) k, sumTo (zF L) k)
def load (L : List I3) : I3 := if massesB L = true then loadTo L L.length else (0, 0, 0)

theorem massB_true {x y z : Int} (h : massB (x, y, z) = true) : (0 ≤ x ∧ x ≤ 10000) ∧ (-1200 ≤ y ∧ y ≤ 2400) ∧ (0 ≤ z ∧ z ≤ 1000) := by
  unfold massB at h
  simp only [Bool.and_eq_true] at h
  exact ⟨inB_true h.1.1, inB_true h.1.2, inB_true h.2⟩

theorem massesB_at {L : List I3} (h : massesB L = true) : L.length ≤ 40 ∧ ∀ i, i < L.length → massB (L.getD i default) = true := by
  unfold massesB at h
  simp only [Bool.and_eq_true, decide_eq_true_eq] at h
  exact ⟨h.1, fun i hi => all_at h.2 hi⟩

theorem mul_bd3 {a b : Int} (h1 : 0 ≤ a) (h2 : a ≤ 10000) (h3 : -1200 ≤ b) (h4 : b ≤ 2400) : -12000000 ≤ a * b ∧ a * b ≤ 24000000 := by
  constructor
  · have : 0 ≤ a * (b + 1200) := Int.mul_nonneg h1 (by omega)
    rw [Int.mul_add] at this
    omega
  · have : 0 ≤ a * (2400 - b) := Int.mul_nonneg h1 (by omega)
    rw [Int.mul_sub] at this
    omega

theorem load_terms {L : List I3} (h : massesB L = true) {i : Nat} (hi : i < L.length) : (0 ≤ wF L i ∧ wF L i ≤ 10000) ∧ (-12000000 ≤ xF L i ∧ xF L i ≤ 24000000) ∧ (0 ≤ zF L i ∧ zF L i ≤ 10000000) := by
  have hm := massB_true ((massesB_at h).2 i hi)
  unfold wF xF zF
  refine ⟨hm.1, mul_bd3 hm.1.1 hm.1.2 hm.2.1.1 hm.2.1.2, ?_⟩
  exact mul_bd hm.1.1 hm.1.2 hm.2.2.1 hm.2.2.2

theorem loadTo_bd {L : List I3} (h : massesB L = true) {k : Nat} (hk : k ≤ L.length) :
    (0 ≤ (loadTo L k).1 ∧ (loadTo L k).1 ≤ k * 10000) ∧ (k * (-12000000) ≤ (loadTo L k).2.1 ∧ (loadTo L k).2.1 ≤ k * 24000000) ∧ (0 ≤ (loadTo L k).2.2 ∧ (loadTo L k).2.2 ≤ k * 10000000) :=
  ⟨sumTo_bd (fun _ hi => (load_terms h hi).1) k hk, sumTo_bd2 (fun _ hi => (load_terms h hi).2.1) k hk, sumTo_bd (fun _ hi => (load_terms h hi).2.2) k hk⟩

/-- Block g is the call's own and holds three numbers. -/
abbrev Own3 (w : World) (g : Nat) (x : I3) : Prop := OwnV w g [.int .i64 x.1, .int .i64 x.2.1, .int .i64 x.2.2]

theorem own3_alloc (w : World) (x : I3) (t : TypeId) : Own3 (w.alloc (.cells #[.int .i64 x.1, .int .i64 x.2.1, .int .i64 x.2.2] t)) w.heap.size x :=
  ⟨_, t, Deep.blk_alloc_new _ _, fun i hi => by simp⟩

theorem Own3.cells {w : World} {g : Nat} {x y z : Int} (h : Own3 w g (x, y, z)) : w.cell? ⟨g, 0, none⟩ = some (.int .i64 x) ∧ w.cell? ⟨g, 1, none⟩ = some (.int .i64 y) ∧ w.cell? ⟨g, 2, none⟩ = some (.int .i64 z) :=
  ⟨OwnV.cell h rfl, OwnV.cell h rfl, OwnV.cell h rfl⟩

theorem Own3.puts {w : World} {g : Nat} {x : I3} (h : Own3 w g x) (a b c : Int) : Own3 (((w.setCell ⟨g, 0, none⟩ (.int .i64 a)).setCell ⟨g, 1, none⟩ (.int .i64 b)).setCell ⟨g, 2, none⟩ (.int .i64 c)) g (a, b, c) :=
  ((h.set 0 (.int .i64 a) (by simp)).set 1 (.int .i64 b) (by simp)).set 2 (.int .i64 c) (by simp)

/-- While a load is summed: nothing of w has turned; the answer's block and the sum's block. -/
structure Summing (w wr : World) (G : Nat) (x : I3) : Prop where
  below : Below w.heap.size w wr
  ans : Own3 wr w.heap.size (0, 0, 0)
  sum : Own3 wr G x
  above : w.heap.size < G

theorem Summing.puts {w wr : World} {G : Nat} {x : I3} (h : Summing w wr G x) (o : Obj) (a b c : Int) : Summing w ((((wr.setCell ⟨G, 0, none⟩ (.int .i64 a)).setCell ⟨G, 1, none⟩ (.int .i64 b)).setCell ⟨G, 2, none⟩ (.int .i64 c)).alloc o) G (a, b, c) := by
  have hG := h.above
  have hz := h.below.size
  refine ⟨(((h.below.setCell (by show _ ≤ G; omega) _).setCell (by show _ ≤ G; omega) _).setCell (by show _ ≤ G; omega) _).alloc (by simpa using hz) o, ?_, OwnV.alloc (Own3.puts h.sum a b c) o, hG⟩
  exact OwnV.alloc (((OwnV.other h.ans (by show _ ≠ G; omega) _).other (by show _ ≠ G; omega) _).other (by show _ ≠ G; omega) _) o

set_option maxHeartbeats 800000 in
theorem implLoadOf_any (v : Value) (L : List I3) (w : World) (h : R3 w v L) :
    Calls Try.prog 64 #[v] w fun e w' => e = .returned (.tuple #[v3 (load L), .bool (massesB L)]) ∧ Below w.heap.size w w' := by
  have HV := hide h
  obtain ⟨ao, cap, rfl, hl, hm, hc⟩ := h
  unfold maxLen at hm
  have HC := hide hc
  clear hc
  go_enter Try.func64, Try.ntmps64
  go_wp2_with fail
  have HW0 := hide (Below.alloc1 w (.cells #[.int .i64 0, .int .i64 0, .int .i64 0] 93))
  have HA0 := hide (own3_alloc w (0, 0, 0) 93)
  refine (implMassesOk_any _ L _ ((unhide HV).below (unhide HW0))).mono ?_
  rintro e w1 ⟨rfl, hb⟩
  have HW1 := hide (Below.step (unhide HW0) hb)
  have HA1 : Hid (Own3 w1 w.heap.size (0, 0, 0)) := OwnV.below (unhide HA0) hb (by simp)
  have hz1 : w.heap.size < w1.heap.size := (unhide HA1).lt
  clear hb HW0 HA0
  cases hok : massesB L with
  | false =>
    have HL : Hid (load L = (0, 0, 0)) := by show _ = _; simp [load, hok]
    have HK := hide hok
    clear hok
    obtain ⟨c0, c1, c2⟩ := (unhide HA1).cells
    have f0 := (unhide HA1).frozen
    go_wp2
    refine bodyPost_ret (v := .tuple #[v3 (0, 0, 0), .bool false]) (by simp [results, Try.results64, go_sem, c0, c1, c2]) rfl ⟨by rw [unhide HL, unhide HK], ?_⟩
    exact (((unhide HW1).setCell (Nat.le_refl _) _).setCell (Nat.le_refl _) _).setCell (Nat.le_refl _) _
  | true =>
    have HK := hide hok
    have hlen := (massesB_at hok).1
    have HS1 : Hid (Summing w (w1.alloc (.cells #[.int .i64 0, .int .i64 0, .int .i64 0] 93)) w1.heap.size (0, 0, 0)) :=
      ⟨Below.step (unhide HW1) (Below.alloc1 _ _), OwnV.alloc (unhide HA1) _, own3_alloc w1 (0, 0, 0) _, hz1⟩
    clear hok HA1 HW1
    go_wp2
    go_loopg [13] L.length (fun g i wr => ∃ k : Nat, k ≤ L.length ∧ g = L.length - k ∧ i = .int .i64 k ∧ Summing w wr w1.heap.size (loadTo L k))
    case atStart => exact ⟨0, Nat.zero_le _, rfl, rfl, unhide HS1⟩
    case round =>
      obtain ⟨k, hk, rfl, rfl, hS⟩ := hrel
      by_cases hkn : k < L.length
      · obtain ⟨b, o, x, y, z, rfl, hc0, hc1, hc2, EX⟩ := rec3At (unhide HC) hkn
        have g0 := wcell3 hc0 hS.below
        have g1 := wcell3 hc1 hS.below
        have g2 := wcell3 hc2 hS.below
        have hbd := loadTo_bd (unhide HK) hk
        have hmb := massB_true (x := x) (y := y) (z := z) (by rw [← unhide EX]; exact (massesB_at (unhide HK)).2 k hkn)
        have hp := mul_bd3 hmb.1.1 hmb.1.2 hmb.2.1.1 hmb.2.1.2
        have hq := mul_bd hmb.1.1 hmb.1.2 hmb.2.2.1 hmb.2.2.2
        have HN : Hid (loadTo L (k + 1) = ((loadTo L k).1 + x, (loadTo L k).2.1 + x * y, (loadTo L k).2.2 + x * z)) := by
          show _ = _
          simp only [loadTo, sumTo, wF, xF, zF, unhide EX]
        obtain ⟨⟨a0, a1⟩, ⟨a2, a3⟩, a4, a5⟩ := hbd
        obtain ⟨p1, p2⟩ := hp
        obtain ⟨q1, q2⟩ := hq
        generalize loadTo L k = X at *
        obtain ⟨A, B, C⟩ := X
        dsimp only at a0 a1 a2 a3 a4 a5 HN
        obtain ⟨d0, d1, d2⟩ := Own3.cells hS.sum
        have f0 := hS.sum.frozen
        have hlt := hS.sum.lt
        have HP := hide hS.puts
        obtain ⟨⟨m1, m2⟩, _, _⟩ := hmb
        clear hc0 hc1 hc2 hS EX
        generalize hxy : x * y = xy at *
        generalize hxz : x * z = xz at *
        go_wp2
        go_roundg (L.length - (k + 1))
        case measure => omega
        case rel =>
          refine ⟨k + 1, by omega, rfl, by go_num, ?_⟩
          rw [unhide HN]
          exact unhide HP _ _ _ _
      · have hkk : k = L.length := by omega
        subst hkk
        have HL : Hid (load L = loadTo L L.length) := by show _ = _; simp [load, unhide HK]
        generalize loadTo L L.length = x at *
        obtain ⟨A, B, C⟩ := x
        obtain ⟨d0, d1, d2⟩ := Own3.cells hS.sum
        obtain ⟨e0, e1, e2⟩ := Own3.cells hS.ans
        have f0 := hS.ans.frozen
        have HB := hide hS.below
        clear hS
        go_wp2
        refine bodyPost_ret (v := .tuple #[v3 (A, B, C), .bool true]) (by simp [results, Try.results64, go_sem, e0, e1, e2]) rfl ⟨by rw [unhide HL, unhide HK], ?_⟩
        exact (((unhide HB).setCell (Nat.le_refl _) _).setCell (Nat.le_refl _) _).setCell (Nat.le_refl _) _

set_option maxHeartbeats 1600000 in
theorem specLoadOf_any (v : Value) (L : List I3) (w : World) (h : R3 w v L) :
    Calls Try.prog 80 #[v] w fun e w' => e = .returned (.tuple #[v3 (load L), .bool (massesB L)]) ∧ Below w.heap.size w w' := by
  have HV := hide h
  obtain ⟨ao, cap, rfl, hl, hm, hc⟩ := h
  unfold maxLen at hm
  have HC := hide hc
  clear hc
  go_enter Try.func80, Try.ntmps80
  go_wp2_with fail
  have HS0 : Hid (Summing w ((w.alloc (.cells #[.int .i64 0, .int .i64 0, .int .i64 0] 93)).alloc (.cells #[.int .i64 0, .int .i64 0, .int .i64 0] 93)) (w.heap.size + 1) (0, 0, 0)) :=
    ⟨Below.step (Below.alloc1 _ _) (Below.alloc1 _ _), OwnV.alloc (own3_alloc w (0, 0, 0) _) _, by have := own3_alloc (w.alloc (.cells #[.int .i64 0, .int .i64 0, .int .i64 0] 93)) (0, 0, 0) 93; simpa using this, by omega⟩
  refine (specMassesOk_any _ L _ ((unhide HV).below (unhide HS0).below)).mono ?_
  rintro e w1 ⟨rfl, hb⟩
  have hS1 : Summing w w1 (w.heap.size + 1) (0, 0, 0) := ⟨Below.step (unhide HS0).below hb, OwnV.below (unhide HS0).ans hb (unhide HS0).ans.lt, OwnV.below (unhide HS0).sum hb (unhide HS0).sum.lt, by omega⟩
  have hz1 : w.heap.size + 1 < w1.heap.size := hS1.sum.lt
  have HS1 := hide hS1
  clear hb HS0 hS1
  cases hok : massesB L with
  | false =>
    have HL : Hid (load L = (0, 0, 0)) := by show _ = _; simp [load, hok]
    have HK := hide hok
    clear hok
    obtain ⟨c0, c1, c2⟩ := Own3.cells (unhide HS1).ans
    obtain ⟨d0, d1, d2⟩ := Own3.cells (unhide HS1).sum
    have f0 := (unhide HS1).ans.frozen
    go_wp2
    refine bodyPost_ret (v := .tuple #[v3 (0, 0, 0), .bool false]) (by simp [results, Try.results80, go_sem, c0, c1, c2]) rfl ⟨by rw [unhide HL, unhide HK], ?_⟩
    exact (((unhide HS1).below.setCell (Nat.le_refl _) _).setCell (Nat.le_refl _) _).setCell (Nat.le_refl _) _
  | true =>
    have HK := hide hok
    have hlen := (massesB_at hok).1
    clear hok
    go_wp2
    go_loopg [5] L.length (fun g i wr => ∃ k : Nat, k ≤ L.length ∧ g = L.length - k ∧ i = .int .i64 k ∧ Summing w wr (w.heap.size + 1) (loadTo L k))
    case atStart => exact ⟨0, Nat.zero_le _, rfl, rfl, unhide HS1⟩
    case round =>
      obtain ⟨k, hk, rfl, rfl, hS⟩ := hrel
      by_cases hkn : k < L.length
      · obtain ⟨b, o, x, y, z, rfl, hc0, hc1, hc2, EX⟩ := rec3At (unhide HC) hkn
        have g0 := wcell3 hc0 hS.below
        have g1 := wcell3 hc1 hS.below
        have g2 := wcell3 hc2 hS.below
        have hbd := loadTo_bd (unhide HK) hk
        have hmb := massB_true (x := x) (y := y) (z := z) (by rw [← unhide EX]; exact (massesB_at (unhide HK)).2 k hkn)
        have hp := mul_bd3 hmb.1.1 hmb.1.2 hmb.2.1.1 hmb.2.1.2
        have hq := mul_bd hmb.1.1 hmb.1.2 hmb.2.2.1 hmb.2.2.2
        have HN : Hid (loadTo L (k + 1) = ((loadTo L k).1 + x, (loadTo L k).2.1 + x * y, (loadTo L k).2.2 + x * z)) := by
          show _ = _
          simp only [loadTo, sumTo, wF, xF, zF, unhide EX]
        obtain ⟨⟨a0, a1⟩, ⟨a2, a3⟩, a4, a5⟩ := hbd
        obtain ⟨p1, p2⟩ := hp
        obtain ⟨q1, q2⟩ := hq
        generalize loadTo L k = X at *
        obtain ⟨A, B, C⟩ := X
        dsimp only at a0 a1 a2 a3 a4 a5 HN
        obtain ⟨d0, d1, d2⟩ := Own3.cells hS.sum
        have f0 := hS.sum.frozen
        have hlt := hS.sum.lt
        have HP := hide hS.puts
        obtain ⟨⟨m1, m2⟩, _, _⟩ := hmb
        clear hc0 hc1 hc2 hS EX
        generalize hxy : x * y = xy at *
        generalize hxz : x * z = xz at *
        go_wp2
        go_roundg (L.length - (k + 1))
        case measure => omega
        case rel =>
          refine ⟨k + 1, by omega, rfl, by go_num, ?_⟩
          rw [unhide HN]
          exact unhide HP _ _ _ _
      · have hkk : k = L.length := by omega
        subst hkk
        have HL : Hid (load L = loadTo L L.length) := by show _ = _; simp [load, unhide HK]
        generalize loadTo L L.length = x at *
        obtain ⟨A, B, C⟩ := x
        obtain ⟨d0, d1, d2⟩ := Own3.cells hS.sum
        obtain ⟨e0, e1, e2⟩ := Own3.cells hS.ans
        have f0 := hS.ans.frozen
        have HB := hide hS.below
        clear hS
        go_wp2
        refine bodyPost_ret (v := .tuple #[v3 (A, B, C), .bool true]) (by simp [results, Try.results80, go_sem, e0, e1, e2]) rfl ⟨by rw [unhide HL, unhide HK], ?_⟩
        exact (((unhide HB).setCell (Nat.le_refl _) _).setCell (Nat.le_refl _) _).setCell (Nat.le_refl _) _

end Go.Proofs.Yticcjdcglfiggaa

/- When tanks are right, what their free surfaces sum to; contracts of the program's tanksOk and surfaces and of the specification's l2Tanks. -/
namespace Go.Proofs.Yticcjdcglfiggaa
open Go.RowKit

def tankB (m : I2) : Bool := inB m.1 0 100 && inB m.2 0 50
def tanksB (L : List I2) : Bool := decide (L.length ≤ 10) && L.all tankB

theorem tanksB_long {L : List I2} (h : ¬ L.length ≤ 10) : tanksB L = false := by simp [tanksB, h]

set_option maxHeartbeats 400000 in
theorem tanksOk_any (v : Value) (L : List I2) (w : World) (h : R2 w v L) :
    Calls Try.prog 65 #[v] w fun e w' => e = .returned (.bool (tanksB L)) ∧ Below w.heap.size w w' := by
  obtain ⟨ao, cap, rfl, hl, hm, hc⟩ := h
  unfold maxLen at hm
  have HC := hide hc
  clear hc
  by_cases hlen : L.length ≤ 10
  case neg =>
    have HF := hide (tanksB_long hlen)
    go_enter Try.func65, Try.ntmps65
    go_wp2
    go_ret
    exact ⟨ret_bool (unhide HF).symm, Below.refl _ _⟩
  go_enter Try.func65, Try.ntmps65
  go_wp2
  go_loopg [10] L.length (fun g i wr => Below w.heap.size w wr ∧ ∃ k : Nat, k ≤ L.length ∧ g = L.length - k ∧ i = .int .i64 k ∧ Hid (∀ r, r < k → tankB (L.getD r default) = true))
  case atStart => exact ⟨Below.refl _ _, 0, Nat.zero_le _, rfl, rfl, fun r hr => by omega⟩
  case round =>
    obtain ⟨hW, k, hk, rfl, rfl, HD⟩ := hrel
    by_cases hkn : k < L.length
    · obtain ⟨b, o, x, y, rfl, hc0, hc1, EX⟩ := rec2At (unhide HC) hkn
      have g0 := wcell3 hc0 hW
      have g1 := wcell3 hc1 hW
      have HW := hide (Below.step hW (Below.alloc1 wr (.cells #[.int .i64 x, .int .i64 y] 111)))
      clear hc0 hc1 hW
      have HF : Hid (tankB (L.getD k default) = (inB x 0 100 && inB y 0 50)) := by show _ = _; rw [unhide EX]; rfl
      clear EX
      by_cases hall : tankB (L.getD k default) = true
      · have HD' : Hid (∀ r, r < k + 1 → tankB (L.getD r default) = true) := fun r hr => by
          by_cases e : r = k
          · subst e; exact hall
          · exact HD.out r (by omega)
        rw [hall] at HF
        have h3 := unhide HF
        symm at h3
        simp only [Bool.and_eq_true] at h3
        obtain ⟨h1, h2⟩ := h3
        clear HD HF hall
        go_wp2_with (go_at_call 53; refine (within_any _ _ _ _).mono ?_; rintro e w' ⟨rfl, rfl⟩)
        go_roundg (L.length - (k + 1))
        case measure => omega
        case rel => exact ⟨unhide HW, k + 1, by omega, rfl, by go_num, HD'⟩
      · have HA : Hid (tanksB L = false) := by
          show _ = _
          rw [tanksB, all_false hkn (d := default) (by simpa using hall)]; simp
        rw [show tankB (L.getD k default) = false by simpa using hall] at HF
        clear HD hall
        cases h1 : inB x 0 100 <;> cases h2 : inB y 0 50
        all_goals rw [h1, h2] at HF
        case true.true => exact absurd (unhide HF) (by simp)
        all_goals
          clear HF
          go_wp2_with (go_at_call 53; refine (within_any _ _ _ _).mono ?_; rintro e w' ⟨rfl, rfl⟩)
          go_ret
          exact ⟨ret_bool (unhide HA).symm, unhide HW⟩
    · have HF : Hid (tanksB L = true) := by
        show _ = _
        rw [tanksB, all_true (d := default) (fun r hr => HD.out r (by omega))]; simp [hlen]
      clear HD
      go_wp2
      go_ret
      exact ⟨ret_bool (unhide HF).symm, hW⟩

set_option maxHeartbeats 800000 in
theorem l2Tanks_any (v : Value) (L : List I2) (w : World) (h : R2 w v L) :
    Calls Try.prog 81 #[v] w fun e w' => e = .returned (.bool (tanksB L)) ∧ Below w.heap.size w w' := by
  obtain ⟨ao, cap, rfl, hl, hm, hc⟩ := h
  unfold maxLen at hm
  have HC := hide hc
  clear hc
  go_enter Try.func81, Try.ntmps81
  go_wp2
  go_loopg [3] L.length (fun g i wr => Below w.heap.size w wr ∧ ∃ k : Nat, k ≤ L.length ∧ g = L.length - k ∧ i = .int .i64 k ∧ Hid (∀ r, r < k → tankB (L.getD r default) = true))
  case atStart => exact ⟨Below.refl _ _, 0, Nat.zero_le _, rfl, rfl, fun r hr => by omega⟩
  case round =>
    obtain ⟨hW, k, hk, rfl, rfl, HD⟩ := hrel
    by_cases hkn : k < L.length
    · obtain ⟨b, o, x, y, rfl, hc0, hc1, EX⟩ := rec2At (unhide HC) hkn
      have g0 := wcell3 hc0 hW
      have g1 := wcell3 hc1 hW
      have HW := hide hW
      clear hc0 hc1 hW
      have HF : Hid (tankB (L.getD k default) = (inB x 0 100 && inB y 0 50)) := by show _ = _; rw [unhide EX]; rfl
      clear EX
      by_cases hall : tankB (L.getD k default) = true
      · have HD' : Hid (∀ r, r < k + 1 → tankB (L.getD r default) = true) := fun r hr => by
          by_cases e : r = k
          · subst e; exact hall
          · exact HD.out r (by omega)
        rw [hall] at HF
        have h3 := unhide HF
        symm at h3
        simp only [Bool.and_eq_true] at h3
        obtain ⟨h1, h2⟩ := h3
        clear HD HF hall
        go_wp2_with (go_at_call 77; refine (l1In_any _ _ _ _).mono ?_; rintro e w' ⟨rfl, rfl⟩)
        go_roundg (L.length - (k + 1))
        case measure => omega
        case rel => exact ⟨unhide HW, k + 1, by omega, rfl, by go_num, HD'⟩
      · have HA : Hid (tanksB L = false) := by
          show _ = _
          rw [tanksB, all_false hkn (d := default) (by simpa using hall)]; simp
        rw [show tankB (L.getD k default) = false by simpa using hall] at HF
        clear HD hall
        cases h1 : inB x 0 100 <;> cases h2 : inB y 0 50
        all_goals rw [h1, h2] at HF
        case true.true => exact absurd (unhide HF) (by simp)
        all_goals
          clear HF
          go_wp2_with (go_at_call 77; refine (l1In_any _ _ _ _).mono ?_; rintro e w' ⟨rfl, rfl⟩)
          go_ret
          exact ⟨ret_bool (unhide HA).symm, unhide HW⟩
    · have HF : Hid (tanksB L = decide ((L.length : Int) ≤ 10)) := by
        show _ = _
        rw [tanksB, all_true (d := default) (fun r hr => HD.out r (by omega))]
        simp only [Bool.and_true, decide_eq_decide]
        omega
      clear HD
      go_wp2
      go_ret
      exact ⟨ret_bool (unhide HF).symm, hW⟩

theorem tanksB_at {L : List I2} (h : tanksB L = true) : L.length ≤ 10 ∧ ∀ i, i < L.length → tankB (L.getD i default) = true := by
  unfold tanksB at h
  simp only [Bool.and_eq_true, decide_eq_true_eq] at h
  exact ⟨h.1, fun i hi => all_at h.2 hi⟩

theorem tankB_true {x y : Int} (h : tankB (x, y) = true) : (0 ≤ x ∧ x ≤ 100) ∧ (0 ≤ y ∧ y ≤ 50) := by
  unfold tankB at h
  simp only [Bool.and_eq_true] at h
  exact ⟨inB_true h.1, inB_true h.2⟩

def surfF (T : List I2) (i : Nat) : Int := (T.getD i default).1 * (T.getD i default).2 * (T.getD i default).2 * (T.getD i default).2
def surf (T : List I2) : Int := sumTo (surfF T) T.length

theorem surf_term {x y : Int} (h : tankB (x, y) = true) : (0 ≤ x * y ∧ x * y ≤ 5000) ∧ (0 ≤ x * y * y ∧ x * y * y ≤ 250000) ∧ (0 ≤ x * y * y * y ∧ x * y * y * y ≤ 12500000) := by
  have hm := tankB_true h
  have h1 := mul_bd hm.1.1 hm.1.2 hm.2.1 hm.2.2
  have h2 := mul_bd h1.1 h1.2 hm.2.1 hm.2.2
  exact ⟨h1, h2, mul_bd h2.1 h2.2 hm.2.1 hm.2.2⟩

theorem surf_to {T : List I2} (h : tanksB T = true) {k : Nat} (hk : k ≤ T.length) : 0 ≤ sumTo (surfF T) k ∧ sumTo (surfF T) k ≤ k * 12500000 :=
  sumTo_bd (fun i hi => (surf_term ((tanksB_at h).2 i hi)).2.2) k hk

theorem surf_bd {T : List I2} (h : tanksB T = true) : 0 ≤ surf T ∧ surf T ≤ 125000000 := by
  have := surf_to h (Nat.le_refl _)
  have := (tanksB_at h).1
  unfold surf
  omega

set_option maxHeartbeats 400000 in
theorem surfaces_any (v : Value) (L : List I2) (w : World) (h : R2 w v L) (hok : tanksB L = true) :
    Calls Try.prog 96 #[v] w fun e w' => e = .returned (.int .i64 (surf L)) ∧ Below w.heap.size w w' := by
  obtain ⟨ao, cap, rfl, hl, hm, hc⟩ := h
  unfold maxLen at hm
  have HC := hide hc
  have HK := hide hok
  have hlen := (tanksB_at hok).1
  clear hc hok
  go_enter Try.func96, Try.ntmps96
  go_wp2
  go_loopg [3, 8] L.length (fun g sv i wr => Below w.heap.size w wr ∧ ∃ k : Nat, k ≤ L.length ∧ g = L.length - k ∧ i = .int .i64 k ∧ sv = .int .i64 (sumTo (surfF L) k))
  case atStart => exact ⟨Below.refl _ _, 0, Nat.zero_le _, rfl, rfl, rfl⟩
  case round =>
    obtain ⟨hW, k, hk, rfl, rfl, rfl⟩ := hrel
    by_cases hkn : k < L.length
    · obtain ⟨b, o, x, y, rfl, hc0, hc1, EX⟩ := rec2At (unhide HC) hkn
      have g0 := wcell3 hc0 hW
      have g1 := wcell3 hc1 hW
      have HW := hide hW
      have hs := surf_to (unhide HK) hk
      obtain ⟨⟨p1, p2⟩, ⟨p3, p4⟩, p5, p6⟩ := surf_term (x := x) (y := y) (by rw [← unhide EX]; exact (tanksB_at (unhide HK)).2 k hkn)
      have HN : Hid (sumTo (surfF L) (k + 1) = sumTo (surfF L) k + x * y * y * y) := by
        show _ = _
        simp only [sumTo, surfF, unhide EX]
      clear hc0 hc1 hW EX
      generalize sumTo (surfF L) k = A at *
      generalize h1 : x * y = xy at *
      generalize h2 : xy * y = xyy at *
      generalize h3 : xyy * y = xyyy at *
      go_wp2
      go_roundg (L.length - (k + 1))
      case measure => omega
      case rel => exact ⟨Below.step (unhide HW) (Below.alloc1 _ _), k + 1, by omega, rfl, by go_num, by rw [unhide HN]⟩
    · have hkk : k = L.length := by omega
      subst hkk
      go_wp2
      go_ret
      exact ⟨rfl, hW⟩

end Go.Proofs.Yticcjdcglfiggaa

/- Own words for the walks of the exact laws. No statement about the program stands here. -/
namespace Go.Proofs.Yticcjdcglfiggaa
open Go.RowKit

theorem OwnV.step {w w' : World} {g : Nat} {vs : List Value} (h : OwnV w g vs) (hb : Below w.heap.size w w') : OwnV w' g vs := h.below hb h.lt

theorem ownV_alloc (w : World) (c : Array Value) (t : TypeId) : OwnV (w.alloc (.cells c t)) w.heap.size c.toList :=
  ⟨c, t, Deep.blk_alloc_new _ _, fun i _ => by simp⟩

end Go.Proofs.Yticcjdcglfiggaa

/- Fractions in lowest terms: contracts of the program's lowest and of the specification's l2Gcd, l2Frac. -/
namespace Go.Proofs.Yticcjdcglfiggaa
open Go.RowKit

theorem gcd_tmod (a b : Int) : Int.gcd b (Int.tmod a b) = Int.gcd a b := by
  rw [Int.gcd_comm a b]
  have h := Int.tmod_add_mul_tdiv a b
  conv => rhs; rw [← h]
  simp

theorem tmod_lt {a b : Int} (h : b ≠ 0) : (Int.tmod a b).natAbs < b.natAbs := by
  rw [Int.natAbs_tmod]
  exact Nat.mod_lt _ (by omega)

/-- num by den in lowest terms (den above 0). -/
def lowV (num den : Int) : I2 := (num.tdiv (Int.gcd num den), den / (Int.gcd num den))

theorem gcd_range {num den : Int} (h3 : 0 < den) : 0 < (Int.gcd num den : Int) ∧ (Int.gcd num den : Int) ≤ den := by
  constructor
  · have := Int.gcd_pos_of_ne_zero_right num (show den ≠ 0 by omega)
    omega
  · exact Int.le_of_dvd h3 (Int.gcd_dvd_right ..)

/-- A world in which nothing of w has turned, the next block the answer's, two numbers. -/
theorem tdiv_wrap {a g : Int} (h1 : -9223372036854775808 ≤ a) (h2 : a ≤ 9223372036854775807) (hg : 0 < g) : IntKind.i64.wrap (a.tdiv g) = a.tdiv g := wrap_i64_tdiv a g h1 h2 (by omega)

structure Ans2 (w wr : World) : Prop where
  below : Below w.heap.size w wr
  ans : OwnV wr w.heap.size [.int .i64 0, .int .i64 0]

theorem Ans2.start (w : World) (t : TypeId) : Ans2 w (w.alloc (.cells #[.int .i64 0, .int .i64 0] t)) := ⟨Below.alloc1 _ _, ownV_alloc w #[.int .i64 0, .int .i64 0] t⟩
theorem Ans2.drewN {w wr : World} (h : Ans2 w wr) (n : Nat) : Ans2 w (wr.drewN n) := ⟨below_drewN h.below n, h.ans⟩

set_option maxHeartbeats 400000 in
theorem lowest_any (num den : Int) (w : World) (h1 : -9223372036854775808 ≤ num) (h2 : num ≤ 9223372036854775807) (h3 : 0 < den) (h4 : den ≤ 4611686018427387904) :
    Calls Try.prog 95 #[.int .i64 num, .int .i64 den] w fun e w' => e = .returned (v2 (lowV num den)) ∧ Below w.heap.size w w' := by
  go_enter Try.func95, Try.ntmps95
  go_wp2
  go_loopg [5, 6] num.natAbs (fun g sv rv wr => Ans2 w wr ∧ ∃ s r : Int, sv = .int .i64 s ∧ rv = .int .i64 r ∧ g = r.natAbs ∧ Hid (Int.gcd s r = Int.gcd num den) ∧ -9223372036854775808 ≤ s ∧ s ≤ 9223372036854775807 ∧ -9223372036854775808 ≤ r ∧ r ≤ 9223372036854775807)
  case atStart => exact ⟨Ans2.start _ _, den, num, rfl, rfl, rfl, Int.gcd_comm _ _, by omega, by omega, h1, h2⟩
  case round =>
    obtain ⟨hA, s, r, rfl, rfl, rfl, HG, a1, a2, a3, a4⟩ := hrel
    have HA := hide hA
    clear hA
    by_cases hr : r = 0
    · subst hr
      have hg := unhide HG
      rw [Int.gcd_zero_right] at hg
      have hgr := gcd_range (num := num) h3
      obtain ⟨g, eg⟩ : ∃ g : Int, g = (Int.gcd num den : Int) := ⟨_, rfl⟩
      have HL : Hid (lowV num den = (num.tdiv g, den / g)) := by show _ = _; rw [eg]; rfl
      rw [← eg] at hgr
      have hsg : s = g ∨ s = -g := by omega
      clear hg eg HG
      have c0 := OwnV.cell (unhide HA).ans (i := 0) rfl
      have c1 := OwnV.cell (unhide HA).ans (i := 1) rfl
      have f0 := (unhide HA).ans.frozen
      obtain ⟨g1, g2⟩ := hgr
      have d2 : decide (den < 0) = false := by simp; omega
      have hw1 := tdiv_wrap h1 h2 g1
      have hw2 : IntKind.i64.wrap (den.tdiv g) = den / g := by rw [tdiv_wrap (by omega) (by omega) g1, Int.tdiv_eq_ediv_of_nonneg (by omega)]
      have hne : ¬ g = 0 := by omega
      rcases hsg with rfl | rfl
      · have d1 : decide (s < 0) = false := by simp; omega
        go_wp2
        go_region_held3 (fun _ => True) (go_keep) (fail)
        go_wp2
        refine bodyPost_ret (v := v2 (num.tdiv s, den / s)) (by simp [results, Try.results95, go_sem, c0, c1]) rfl ⟨by rw [unhide HL], ?_⟩
        exact (((unhide HA).below.setCell (Nat.le_refl _) _).setCell (Nat.le_refl _) _).drew
      · have d1 : decide (-g < 0) = true := by simp; omega
        go_wp2
        go_region_held3 (fun _ => True) (go_keep) (fail)
        go_wp2
        refine bodyPost_ret (v := v2 (num.tdiv g, den / g)) (by simp [results, Try.results95, go_sem, c0, c1]) rfl ⟨by rw [unhide HL], ?_⟩
        exact (((unhide HA).below.setCell (Nat.le_refl _) _).setCell (Nat.le_refl _) _).drew
    · have ht := tmod_lt (a := s) hr
      have HG' : Hid (Int.gcd r (s.tmod r) = Int.gcd num den) := (gcd_tmod s r).trans (unhide HG)
      clear HG
      go_wp2
      go_quiet (fail)
      go_wp2
      go_roundg (s.tmod r).natAbs
      case measure => exact ht
      case rel => exact ⟨(unhide HA).drewN _, r, s.tmod r, rfl, rfl, rfl, HG', a3, a4, by omega, by omega⟩

set_option maxHeartbeats 400000 in
theorem l2Gcd_any (num den : Int) (w : World) (h1 : -9223372036854775808 ≤ num) (h2 : num ≤ 9223372036854775807) (h3 : 0 < den) (h4 : den ≤ 4611686018427387904) :
    Calls Try.prog 103 #[.int .i64 num, .int .i64 den] w fun e w' => e = .returned (.int .i64 (Int.gcd num den)) ∧ w = w' := by
  go_enter Try.func103, Try.ntmps103
  go_wp2
  go_loopg [0, 1] den.natAbs (fun g sv rv wr => w = wr ∧ ∃ s r : Int, sv = .int .i64 s ∧ rv = .int .i64 r ∧ g = r.natAbs ∧ Hid (Int.gcd s r = Int.gcd num den) ∧ -9223372036854775808 ≤ s ∧ s ≤ 9223372036854775807 ∧ -9223372036854775808 ≤ r ∧ r ≤ 9223372036854775807)
  case atStart => exact ⟨rfl, num, den, rfl, rfl, rfl, rfl, h1, h2, by omega, by omega⟩
  case round =>
    obtain ⟨rfl, s, r, rfl, rfl, rfl, HG, a1, a2, a3, a4⟩ := hrel
    by_cases hr : r = 0
    · subst hr
      have hg := unhide HG
      rw [Int.gcd_zero_right] at hg
      have hgr := gcd_range (num := num) h3
      obtain ⟨g, eg⟩ : ∃ g : Int, g = (Int.gcd num den : Int) := ⟨_, rfl⟩
      rw [← eg] at hgr
      have hsg : s = g ∨ s = -g := by omega
      have EG := hide eg
      clear hg eg HG
      obtain ⟨g1, g2⟩ := hgr
      rcases hsg with rfl | rfl
      · have d1 : decide (s < 0) = false := by simp; omega
        go_wp2
        go_ret
        exact ⟨ret_int (unhide EG), rfl⟩
      · have d1 : decide (-g < 0) = true := by simp; omega
        go_wp2
        go_ret
        exact ⟨ret_int (unhide EG), rfl⟩
    · have ht := tmod_lt (a := s) hr
      have HG' : Hid (Int.gcd r (s.tmod r) = Int.gcd num den) := (gcd_tmod s r).trans (unhide HG)
      clear HG
      go_wp2
      go_roundg (s.tmod r).natAbs
      case measure => exact ht
      case rel => exact ⟨rfl, r, s.tmod r, rfl, rfl, rfl, HG', a3, a4, by omega, by omega⟩

set_option maxHeartbeats 400000 in
theorem l2Frac_any (num den : Int) (w : World) (h1 : -9223372036854775808 ≤ num) (h2 : num ≤ 9223372036854775807) (h3 : 0 < den) (h4 : den ≤ 4611686018427387904) :
    Calls Try.prog 106 #[.int .i64 num, .int .i64 den] w fun e w' => e = .returned (v2 (lowV num den)) ∧ Below w.heap.size w w' := by
  have HA := hide (Ans2.start w 44)
  have HG := hide (l2Gcd_any num den (w.alloc (.cells #[.int .i64 0, .int .i64 0] 44)) h1 h2 h3 h4)
  have d2 : decide (den < 0) = false := by simp; omega
  go_enter Try.func106, Try.ntmps106
  go_wp2_with fail
  refine (unhide HG).mono ?_
  rintro e w1 ⟨rfl, rfl⟩
  clear HG
  obtain ⟨g1, g2⟩ := gcd_range (num := num) h3
  have HL : Hid (lowV num den = (num.tdiv (Int.gcd num den), den / (Int.gcd num den))) := hide rfl
  generalize (Int.gcd num den : Int) = g at *
  have hw1 := tdiv_wrap h1 h2 g1
  have hw2 : IntKind.i64.wrap (den.tdiv g) = den / g := by rw [tdiv_wrap (by omega) (by omega) g1, Int.tdiv_eq_ediv_of_nonneg (by omega)]
  have hne : ¬ g = 0 := by omega
  go_wp2
  go_region_held3 (fun _ => True) (go_keep) (fail)
  go_wp2
  refine bodyPost_ret (v := v2 (num.tdiv g, den / g)) (by simp [results, Try.results106, go_sem]) rfl ⟨by rw [unhide HL], ?_⟩
  exact (Below.alloc1 _ _).drew

end Go.Proofs.Yticcjdcglfiggaa

/- Three times the inertia at a water line as a plain function, and the contracts of the specification's and the program's Inertia3: both tell it. -/
namespace Go.Proofs.Yticcjdcglfiggaa
open Go.RowKit

theorem cube_bd {x : Int} (h1 : 0 ≤ x) (h2 : x ≤ 50) : (0 ≤ x * x ∧ x * x ≤ 2500) ∧ (0 ≤ x * x * x ∧ x * x * x ≤ 125000) := by
  have a := mul_bd (A := 50) (B := 50) h1 h2 h1 h2
  have b := mul_bd (A := 2500) (B := 50) a.1 (by omega) h1 h2
  exact ⟨⟨a.1, by omega⟩, ⟨b.1, by omega⟩⟩

def inerF (step : Int) (R : List (List Int)) (c : Nat) (s : Nat) : Int := step * (cellOf R s c * cellOf R s c * cellOf R s c + cellOf R (s + 1) c * cellOf R (s + 1) c * cellOf R (s + 1) c)

theorem inerF_bd {step rise : Int} {R : List (List Int)} (h : Right step rise R) {c : Nat} (hc : c < (R.getD 0 []).length) : ∀ s, s < R.length - 1 → 0 ≤ inerF step R c s ∧ inerF step R c s ≤ 25000000 := fun s hs => by
  have a := h.cells s c (by omega) hc
  have b := h.cells (s + 1) c (by omega) hc
  have a' := cube_bd a.1 a.2
  have b' := cube_bd b.1 b.2
  have h1 := h.step1
  have h2 := h.step2
  exact mul_bd (A := 100) (B := 250000) (by omega) h2 (by omega) (by omega)

def inertia (step rise : Int) (R : List (List Int)) (c : Int) : Int := if waterOk step rise R c = true then sumTo (inerF step R c.toNat) (R.length - 1) else 0

set_option maxHeartbeats 1600000 in
theorem specInertia3_any (step rise : Int) (v : Value) (R : List (List Int)) (c : Int) (w : World) (h : RowsIn w v R) :
    Calls Try.prog 105 #[hullV step rise v, .int .i64 c] w fun e w' => e = .returned (.int .i64 (inertia step rise R c)) ∧ Below w.heap.size w w' := by
  have HV := hide h
  obtain ⟨ao, cap, rfl, hl, hm, hc⟩ := h
  have HC := hide hc
  unfold maxLen at hm
  clear hc
  unfold hullV
  have HB0 := hide (box3_alloc w (.int .i64 step) (.int .i64 rise) (.slice ao R.length cap) 26)
  have HW0 := hide (Below.alloc1 w (.cells #[.int .i64 step, .int .i64 rise, .slice ao R.length cap] 26))
  go_enter Try.func105, Try.ntmps105
  go_wp2_with fail
  refine (l1Water_any step rise _ R c _ ((unhide HV).below (unhide HW0))).mono ?_
  rintro e w1 ⟨rfl, hb⟩
  have HB1 := hide ((unhide HB0).step hb)
  have HW1 := hide (Below.step (unhide HW0) hb)
  clear hb HB0 HW0
  cases hok : waterOk step rise R c with
  | false =>
    have HF : Hid (inertia step rise R c = 0) := by show _ = _; simp [inertia, hok]
    clear hok
    go_wp2
    go_ret
    exact ⟨ret_int (unhide HF).symm, unhide HW1⟩
  | true =>
    have HF : Hid (inertia step rise R c = sumTo (inerF step R c.toNat) (R.length - 1)) := by show _ = _; simp [inertia, hok]
    unfold waterOk at hok
    simp only [Bool.and_eq_true] at hok
    have hR := hullOk_right hok.1
    have hcb := inB_true hok.2
    clear hok
    obtain ⟨j, rfl⟩ := Int.eq_ofNat_of_zero_le hcb.1
    rw [Int.toNat_natCast] at HF
    have hj : j < (R.getD 0 []).length := by omega
    clear hcb
    have hl1 := hR.len1
    have hl2 := hR.len2
    have HR := hide hR
    have HJ := hide hj
    clear hR hj
    go_wp2
    go_loopg [5, 6] R.length (fun g sv i wr => ∃ k : Nat, k + 1 ≤ R.length ∧ g = R.length - k ∧ i = .int .i64 k ∧ sv = .int .i64 (sumTo (inerF step R j) k) ∧ Below w1.heap.size w1 wr)
    case atStart => exact ⟨0, by omega, rfl, rfl, rfl, Below.refl _ _⟩
    case round =>
      obtain ⟨k, hk, rfl, rfl, rfl, hB⟩ := hrel
      have HBX := (unhide HB1).step hB
      have HWr := hide (Below.step (unhide HW1) hB)
      have HBr := hide hB
      obtain ⟨c0, c1, c2⟩ := HBX
      clear hB
      by_cases hkn : k + 1 < R.length
      · have hj' := unhide HJ
        have ev := (unhide HR).even
        obtain ⟨b, o, b1, o1, m, cr, b2, o2, m', cr', rfl, g1, g2, g3, g4, g5, g6⟩ := two_cells (unhide HC) hkn (by rw [ev k (by omega)]; exact hj') (by rw [ev (k + 1) hkn]; exact hj')
        have q1 := ((unhide HWr).cell (lt_of_cell g1)).trans g1
        have q2 := ((unhide HWr).cell (lt_of_cell g2)).trans g2
        have q3 := ((unhide HWr).cell (lt_of_cell g3)).trans g3
        have q4 := ((unhide HWr).cell (lt_of_cell g4)).trans g4
        have pb := inerF_bd (unhide HR) hj' k (by omega)
        have sb := sumTo_bd (inerF_bd (unhide HR) hj') k (by omega)
        have xb := (unhide HR).cells k j (by omega) hj'
        have yb := (unhide HR).cells (k + 1) j hkn hj'
        have ES : Hid (sumTo (inerF step R j) (k + 1) = sumTo (inerF step R j) k + step * (cellOf R k j * cellOf R k j * cellOf R k j + cellOf R (k + 1) j * cellOf R (k + 1) j * cellOf R (k + 1) j)) := rfl
        clear g1 g2 g3 g4 ev hj'
        unfold inerF at pb
        generalize cellOf R k j = x at *
        generalize cellOf R (k + 1) j = y at *
        generalize sumTo (inerF step R j) k = S at *
        obtain ⟨pb1, pb2⟩ := pb
        obtain ⟨sb1, sb2⟩ := sb
        obtain ⟨⟨xc1, xc2⟩, xc3, xc4⟩ := cube_bd xb.1 xb.2
        obtain ⟨⟨yc1, yc2⟩, yc3, yc4⟩ := cube_bd yb.1 yb.2
        obtain ⟨xb1, xb2⟩ := xb
        obtain ⟨yb1, yb2⟩ := yb
        go_wp2
        go_quiet (fail)
        go_wp2
        go_roundg (R.length - (k + 1))
        case measure => omega
        case rel => exact ⟨k + 1, by omega, rfl, by go_num, by rw [unhide ES], below_drewN (unhide HBr) _⟩
      · go_wp2
        go_ret
        have hkk : R.length - 1 = k := by omega
        exact ⟨ret_int (by rw [unhide HF, hkk]), unhide HWr⟩

set_option maxHeartbeats 1600000 in
theorem implInertia3_any (step rise : Int) (v : Value) (R : List (List Int)) (c : Int) (w : World) (h : RowsIn w v R) :
    Calls Try.prog 16 #[hullV step rise v, .int .i64 c] w fun e w' => e = .returned (.int .i64 (inertia step rise R c)) ∧ Below w.heap.size w w' := by
  have HV := hide h
  obtain ⟨ao, cap, rfl, hl, hm, hc⟩ := h
  unfold maxLen at hm
  clear hc
  unfold hullV
  have HB0 := hide (box3_alloc w (.int .i64 step) (.int .i64 rise) (.slice ao R.length cap) 26)
  have HW0 := hide (Below.alloc1 w (.cells #[.int .i64 step, .int .i64 rise, .slice ao R.length cap] 26))
  go_enter Try.func16, Try.ntmps16
  go_wp2_with fail
  refine (isWater_any step rise _ R c _ ((unhide HV).below (unhide HW0))).mono ?_
  rintro e w1 ⟨rfl, hb⟩
  have HB1 := hide ((unhide HB0).step hb)
  have HW1 := hide (Below.step (unhide HW0) hb)
  clear hb HB0 HW0
  cases hok : waterOk step rise R c with
  | false =>
    have HF : Hid (inertia step rise R c = 0) := by show _ = _; simp [inertia, hok]
    clear hok
    go_wp2
    go_ret
    exact ⟨ret_int (unhide HF).symm, unhide HW1⟩
  | true =>
    have HF : Hid (inertia step rise R c = sumTo (inerF step R c.toNat) (R.length - 1)) := by show _ = _; simp [inertia, hok]
    unfold waterOk at hok
    simp only [Bool.and_eq_true] at hok
    have hR := hullOk_right hok.1
    have hcb := inB_true hok.2
    clear hok
    obtain ⟨j, rfl⟩ := Int.eq_ofNat_of_zero_le hcb.1
    rw [Int.toNat_natCast] at HF
    have hj : j < (R.getD 0 []).length := by omega
    clear hcb
    have hl1 := hR.len1
    have hl2 := hR.len2
    have HR := hide hR
    have HJ := hide hj
    clear hR hj
    obtain ⟨c0, c1, c2⟩ := unhide HB1
    go_wp2_with fail
    refine (stripCount_any step rise _ R _ ((unhide HV).below (unhide HW1))).mono ?_
    rintro e w2 ⟨rfl, hb⟩
    have HB2 := hide ((unhide HB1).step hb)
    have HW2 := hide (Below.step (unhide HW1) hb)
    clear hb HB1 HW1 c0 c1 c2
    go_wp2
    go_loopg [5, 15] R.length (fun g sv i wr => ∃ k : Nat, k + 1 ≤ R.length ∧ g = R.length - k ∧ i = .int .i64 k ∧ sv = .int .i64 (sumTo (inerF step R j) k) ∧ Below w2.heap.size w2 wr)
    case atStart => exact ⟨0, by omega, rfl, rfl, rfl, Below.refl _ _⟩
    case round =>
      obtain ⟨k, hk, rfl, rfl, rfl, hB⟩ := hrel
      have HBX := (unhide HB2).step hB
      have HBX' := hide HBX
      have HWr := hide (Below.step (unhide HW2) hB)
      have HBr := hide hB
      obtain ⟨c0, c1, c2⟩ := HBX
      clear hB
      by_cases hkn : k + 1 < R.length
      · have hj' := unhide HJ
        have ev := (unhide HR).even
        have HT := hide (bothHalves_any step rise _ R (k : Int) (j : Int) k j wr ((unhide HV).below (unhide HWr)) rfl rfl hkn (by rw [ev k (by omega)]; exact hj') (by rw [ev (k + 1) hkn]; exact hj'))
        have pb := inerF_bd (unhide HR) hj' k (by omega)
        have sb := sumTo_bd (inerF_bd (unhide HR) hj') k (by omega)
        have xb := (unhide HR).cells k j (by omega) hj'
        have yb := (unhide HR).cells (k + 1) j hkn hj'
        have ES : Hid (sumTo (inerF step R j) (k + 1) = sumTo (inerF step R j) k + step * (cellOf R k j * cellOf R k j * cellOf R k j + cellOf R (k + 1) j * cellOf R (k + 1) j * cellOf R (k + 1) j)) := rfl
        clear ev hj'
        unfold inerF at pb
        generalize cellOf R k j = x at *
        generalize cellOf R (k + 1) j = y at *
        generalize sumTo (inerF step R j) k = S at *
        obtain ⟨pb1, pb2⟩ := pb
        obtain ⟨sb1, sb2⟩ := sb
        obtain ⟨⟨xc1, xc2⟩, xc3, xc4⟩ := cube_bd xb.1 xb.2
        obtain ⟨⟨yc1, yc2⟩, yc3, yc4⟩ := cube_bd yb.1 yb.2
        obtain ⟨xb1, xb2⟩ := xb
        obtain ⟨yb1, yb2⟩ := yb
        go_wp2_with fail
        refine (unhide HT).mono ?_
        rintro e w3 ⟨rfl, hb⟩
        have d0 := ((unhide HBX').step hb).c0
        have HB3 := hide (Below.step (unhide HBr) hb)
        clear hb c0 c1 c2
        go_wp2
        go_roundg (R.length - (k + 1))
        case measure => omega
        case rel => exact ⟨k + 1, by omega, rfl, by go_num, by rw [unhide ES], unhide HB3⟩
      · go_wp2
        go_ret
        have hkk : R.length - 1 = k := by omega
        exact ⟨ret_int (by rw [unhide HF, hkk]), unhide HWr⟩

end Go.Proofs.Yticcjdcglfiggaa

/- Four times the moment of the volume about the lowest water line as a plain function; the contracts of both Height4. -/
namespace Go.Proofs.Yticcjdcglfiggaa
open Go.RowKit

theorem plane_bd (step rise : Int) (R : List (List Int)) (c : Int) : 0 ≤ plane step rise R c ∧ plane step rise R c ≤ 110000 := by
  unfold plane
  by_cases h : waterOk step rise R c = true
  · rw [if_pos h]
    unfold waterOk at h
    simp only [Bool.and_eq_true] at h
    have hR := hullOk_right h.1
    have hc := inB_true h.2
    have := sumTo_bd (planeF_bd hR (c := c.toNat) (by omega)) (R.length - 1) (Nat.le_refl _)
    have := hR.len2
    omega
  · rw [if_neg h]; omega

def heightF (step rise : Int) (R : List (List Int)) (k : Nat) : Int := rise * (plane step rise R k + plane step rise R ((k : Int) + 1)) * rise * (2 * (k : Int) + 1)

theorem heightF_bd {step rise : Int} (R : List (List Int)) (h1 : 1 ≤ rise) (h2 : rise ≤ 20) : ∀ k : Nat, k < 10 →
    (0 ≤ rise * (plane step rise R k + plane step rise R ((k : Int) + 1)) ∧ rise * (plane step rise R k + plane step rise R ((k : Int) + 1)) ≤ 4400000) ∧
    (0 ≤ rise * (plane step rise R k + plane step rise R ((k : Int) + 1)) * rise ∧ rise * (plane step rise R k + plane step rise R ((k : Int) + 1)) * rise ≤ 88000000) ∧
    0 ≤ heightF step rise R k ∧ heightF step rise R k ≤ 2000000000 := fun k hk => by
  have a := plane_bd step rise R k
  have b := plane_bd step rise R ((k : Int) + 1)
  have d := mul_bd (a := rise) (b := plane step rise R k + plane step rise R ((k : Int) + 1)) (A := 20) (B := 220000) (by omega) h2 (by omega) (by omega)
  have e := mul_bd (b := rise) (A := 4400000) (B := 20) d.1 (by omega) (by omega) h2
  have f := mul_bd (b := 2 * (k : Int) + 1) (A := 88000000) (B := 20) e.1 (by omega) (by omega) (by omega)
  unfold heightF
  exact ⟨⟨d.1, by omega⟩, ⟨e.1, by omega⟩, f.1, by omega⟩

def height (step rise : Int) (R : List (List Int)) (c : Int) : Int := if waterOk step rise R c = true then sumTo (heightF step rise R) c.toNat else 0

set_option maxHeartbeats 1600000 in
theorem specHeight4_any (step rise : Int) (v : Value) (R : List (List Int)) (c : Int) (w : World) (h : RowsIn w v R) :
    Calls Try.prog 104 #[hullV step rise v, .int .i64 c] w fun e w' => e = .returned (.int .i64 (height step rise R c)) ∧ Below w.heap.size w w' := by
  have HV := hide h
  obtain ⟨ao, cap, rfl, hl, hm, hc⟩ := h
  unfold maxLen at hm
  clear hc
  unfold hullV
  have HB0 := hide (box3_alloc w (.int .i64 step) (.int .i64 rise) (.slice ao R.length cap) 26)
  have HW0 := hide (Below.alloc1 w (.cells #[.int .i64 step, .int .i64 rise, .slice ao R.length cap] 26))
  go_enter Try.func104, Try.ntmps104
  go_wp2_with fail
  refine (l1Water_any step rise _ R c _ ((unhide HV).below (unhide HW0))).mono ?_
  rintro e w1 ⟨rfl, hb⟩
  have HB1 := hide ((unhide HB0).step hb)
  have HW1 := hide (Below.step (unhide HW0) hb)
  clear hb HB0 HW0
  cases hok : waterOk step rise R c with
  | false =>
    have HF : Hid (height step rise R c = 0) := by show _ = _; simp [height, hok]
    clear hok
    go_wp2
    go_ret
    exact ⟨ret_int (unhide HF).symm, unhide HW1⟩
  | true =>
    have HF : Hid (height step rise R c = sumTo (heightF step rise R) c.toNat) := by show _ = _; simp [height, hok]
    unfold waterOk at hok
    simp only [Bool.and_eq_true] at hok
    have hR := hullOk_right hok.1
    have hcb := inB_true hok.2
    clear hok
    obtain ⟨j, rfl⟩ := Int.eq_ofNat_of_zero_le hcb.1
    rw [Int.toNat_natCast] at HF
    have hjb : j ≤ 9 := by have := hR.wat2; omega
    have hr1 := hR.rise1
    have hr2 := hR.rise2
    clear hcb hR
    go_wp2
    go_loopg [5, 6] j (fun g sv i wr => ∃ k : Nat, k ≤ j ∧ g = j - k ∧ i = .int .i64 k ∧ sv = .int .i64 (sumTo (heightF step rise R) k) ∧ Below w1.heap.size w1 wr)
    case atStart => exact ⟨0, by omega, rfl, rfl, rfl, Below.refl _ _⟩
    case round =>
      obtain ⟨k, hk, rfl, rfl, rfl, hB⟩ := hrel
      have HX := hide ((unhide HB1).step hB)
      have HWr := hide (Below.step (unhide HW1) hB)
      have HBr := hide hB
      clear hB
      by_cases hkn : k < j
      · have S1 := hide fun x : Gr wr => specPlane_any step rise _ R (k : Int) x.val ((unhide HV).below (Below.step (unhide HWr) x.ok))
        have S2 := hide fun x : Gr wr => specPlane_any step rise _ R ((k : Int) + 1) x.val ((unhide HV).below (Below.step (unhide HWr) x.ok))
        have hb := heightF_bd (step := step) R hr1 hr2 k (by omega)
        have sb := sumTo_bd (n := 10) (fun i hi => (heightF_bd (step := step) R hr1 hr2 i hi).2.2) k (by omega)
        have pb := plane_bd step rise R k
        have pb' := plane_bd step rise R ((k : Int) + 1)
        have ES : Hid (sumTo (heightF step rise R) (k + 1) = sumTo (heightF step rise R) k + rise * (plane step rise R k + plane step rise R ((k : Int) + 1)) * rise * (2 * (k : Int) + 1)) := rfl
        have r0 := fun x : Gr wr => gr_cell (unhide HX).c0 x
        have r1 := fun x : Gr wr => gr_cell (unhide HX).c1 x
        have r2 := fun x : Gr wr => gr_cell (unhide HX).c2 x
        have gsome := gr_some wr
        unfold heightF at hb
        generalize plane step rise R k = x at *
        generalize plane step rise R ((k : Int) + 1) = y at *
        generalize sumTo (heightF step rise R) k = S at *
        obtain ⟨sb1, sb2⟩ := sb
        obtain ⟨⟨hb1, hb2⟩, ⟨hb3, hb4⟩, hb5, hb6⟩ := hb
        obtain ⟨pb1, pb2⟩ := pb
        obtain ⟨pb3, pb4⟩ := pb'
        go_wp2
        refine wp_region_grown (by kernel_rfl) (by kernel_rfl) ?_
        repeat (go_big_quiet_step (fail))
        go_big_quiet_want
        go_big_quiet_op
        go_big_quiet_call (exact calls_grown (unhide S1 _))
        repeat (go_big_quiet_step (fail))
        go_big_quiet_want
        go_big_quiet_op
        go_big_quiet_call (exact calls_grown (unhide S2 _))
        repeat (go_big_quiet_step (fail))
        refine wpQuiet_nil ?_
        intro w3 hw3
        obtain ⟨z, hz⟩ := hw3
        have HB3 := hide (Below.step (unhide HBr) (hz ▸ z.ok : Below wr.heap.size wr w3))
        clear hz r0 r1 r2 gsome
        go_wp2
        go_roundg (j - (k + 1))
        case measure => omega
        case rel => exact ⟨k + 1, by omega, rfl, by go_num, by rw [unhide ES], unhide HB3⟩
      · have hkk : k = j := by omega
        subst hkk
        go_wp2
        go_ret
        exact ⟨ret_int (unhide HF).symm, unhide HWr⟩

set_option maxHeartbeats 1600000 in
theorem implHeight4_any (step rise : Int) (v : Value) (R : List (List Int)) (c : Int) (w : World) (h : RowsIn w v R) :
    Calls Try.prog 17 #[hullV step rise v, .int .i64 c] w fun e w' => e = .returned (.int .i64 (height step rise R c)) ∧ Below w.heap.size w w' := by
  have HV := hide h
  obtain ⟨ao, cap, rfl, hl, hm, hc⟩ := h
  unfold maxLen at hm
  clear hc
  unfold hullV
  have HB0 := hide (box3_alloc w (.int .i64 step) (.int .i64 rise) (.slice ao R.length cap) 26)
  have HW0 := hide (Below.alloc1 w (.cells #[.int .i64 step, .int .i64 rise, .slice ao R.length cap] 26))
  go_enter Try.func17, Try.ntmps17
  go_wp2_with fail
  refine (isWater_any step rise _ R c _ ((unhide HV).below (unhide HW0))).mono ?_
  rintro e w1 ⟨rfl, hb⟩
  have HB1 := hide ((unhide HB0).step hb)
  have HW1 := hide (Below.step (unhide HW0) hb)
  clear hb HB0 HW0
  cases hok : waterOk step rise R c with
  | false =>
    have HF : Hid (height step rise R c = 0) := by show _ = _; simp [height, hok]
    clear hok
    go_wp2
    go_ret
    exact ⟨ret_int (unhide HF).symm, unhide HW1⟩
  | true =>
    have HF : Hid (height step rise R c = sumTo (heightF step rise R) c.toNat) := by show _ = _; simp [height, hok]
    unfold waterOk at hok
    simp only [Bool.and_eq_true] at hok
    have hR := hullOk_right hok.1
    have hcb := inB_true hok.2
    clear hok
    obtain ⟨j, rfl⟩ := Int.eq_ofNat_of_zero_le hcb.1
    rw [Int.toNat_natCast] at HF
    have hjb : j ≤ 9 := by have := hR.wat2; omega
    have hr1 := hR.rise1
    have hr2 := hR.rise2
    clear hcb hR
    go_wp2
    go_loopg [5, 12] j (fun g sv i wr => ∃ k : Nat, k ≤ j ∧ g = j - k ∧ i = .int .i64 k ∧ sv = .int .i64 (sumTo (heightF step rise R) k) ∧ Below w1.heap.size w1 wr)
    case atStart => exact ⟨0, by omega, rfl, rfl, rfl, Below.refl _ _⟩
    case round =>
      obtain ⟨k, hk, rfl, rfl, rfl, hB⟩ := hrel
      have HX := hide ((unhide HB1).step hB)
      have HWr := hide (Below.step (unhide HW1) hB)
      have HBr := hide hB
      clear hB
      by_cases hkn : k < j
      · have S1 := hide fun x : Gr wr => implPlane_any step rise _ R (k : Int) x.val ((unhide HV).below (Below.step (unhide HWr) x.ok))
        have S2 := hide fun x : Gr wr => implPlane_any step rise _ R ((k : Int) + 1) x.val ((unhide HV).below (Below.step (unhide HWr) x.ok))
        have hb := heightF_bd (step := step) R hr1 hr2 k (by omega)
        have sb := sumTo_bd (n := 10) (fun i hi => (heightF_bd (step := step) R hr1 hr2 i hi).2.2) k (by omega)
        have pb := plane_bd step rise R k
        have pb' := plane_bd step rise R ((k : Int) + 1)
        have ES : Hid (sumTo (heightF step rise R) (k + 1) = sumTo (heightF step rise R) k + rise * (plane step rise R k + plane step rise R ((k : Int) + 1)) * rise * (2 * (k : Int) + 1)) := rfl
        have r0 := fun x : Gr wr => gr_cell (unhide HX).c0 x
        have r1 := fun x : Gr wr => gr_cell (unhide HX).c1 x
        have r2 := fun x : Gr wr => gr_cell (unhide HX).c2 x
        have gsome := gr_some wr
        unfold heightF at hb
        generalize plane step rise R k = x at *
        generalize plane step rise R ((k : Int) + 1) = y at *
        generalize sumTo (heightF step rise R) k = S at *
        obtain ⟨sb1, sb2⟩ := sb
        obtain ⟨⟨hb1, hb2⟩, ⟨hb3, hb4⟩, hb5, hb6⟩ := hb
        obtain ⟨pb1, pb2⟩ := pb
        obtain ⟨pb3, pb4⟩ := pb'
        go_wp2
        refine wp_region_grown (by kernel_rfl) (by kernel_rfl) ?_
        repeat (go_big_quiet_step (fail))
        go_big_quiet_want
        go_big_quiet_op
        go_big_quiet_call (exact calls_grown (unhide S1 _))
        repeat (go_big_quiet_step (fail))
        go_big_quiet_want
        go_big_quiet_op
        go_big_quiet_call (exact calls_grown (unhide S2 _))
        repeat (go_big_quiet_step (fail))
        refine wpQuiet_nil ?_
        intro w3 hw3
        obtain ⟨z, hz⟩ := hw3
        have HB3 := hide (Below.step (unhide HBr) (hz ▸ z.ok : Below wr.heap.size wr w3))
        clear hz r0 r1 r2 gsome
        go_wp2
        go_roundg (j - (k + 1))
        case measure => omega
        case rel => exact ⟨k + 1, by omega, rfl, by go_num, by rw [unhide ES], unhide HB3⟩
      · have hkk : k = j := by omega
        subst hkk
        go_wp2
        go_ret
        exact ⟨ret_int (unhide HF).symm, unhide HWr⟩

end Go.Proofs.Yticcjdcglfiggaa

/- Twice the volumes of the strips as a plain function; the contracts of the program's stripHalves and Strips2. -/
namespace Go.Proofs.Yticcjdcglfiggaa
open Go.RowKit

def halvesF (R : List (List Int)) (s k : Nat) : Int := cellOf R s k + cellOf R (s + 1) k + cellOf R s (k + 1) + cellOf R (s + 1) (k + 1)

theorem halvesF_bd {step rise : Int} {R : List (List Int)} (h : Right step rise R) {s c : Nat} (hs : s + 1 < R.length) (hc : c < (R.getD 0 []).length) : ∀ k, k < c → 0 ≤ halvesF R s k ∧ halvesF R s k ≤ 200 := fun k hk => by
  have a1 := h.cells s k (by omega) (by omega)
  have a2 := h.cells (s + 1) k (by omega) (by omega)
  have a3 := h.cells s (k + 1) (by omega) (by omega)
  have a4 := h.cells (s + 1) (k + 1) (by omega) (by omega)
  unfold halvesF
  omega

def stripH (R : List (List Int)) (c s : Nat) : Int := sumTo (halvesF R s) c

theorem stripH_bd {step rise : Int} {R : List (List Int)} (h : Right step rise R) {s c : Nat} (hs : s + 1 < R.length) (hc : c < (R.getD 0 []).length) : 0 ≤ stripH R c s ∧ stripH R c s ≤ 2000 := by
  have := sumTo_bd (halvesF_bd h hs hc) c (Nat.le_refl _)
  have := h.wat2
  unfold stripH
  omega

set_option maxHeartbeats 1600000 in
theorem stripHalves_any (step rise : Int) (v : Value) (R : List (List Int)) (s c : Int) (k j : Nat) (w : World) (h : RowsIn w v R) (es : s = k) (ec : c = j) (hR : Right step rise R) (hk : k + 1 < R.length) (hj : j < (R.getD 0 []).length) :
    Calls Try.prog 57 #[hullV step rise v, .int .i64 s, .int .i64 c] w fun e w' => e = .returned (.int .i64 (stripH R j k)) ∧ Below w.heap.size w w' := by
  subst es ec
  have HV := hide h
  obtain ⟨ao, cap, rfl, hl, hm, hc⟩ := h
  unfold maxLen at hm
  clear hc
  unfold hullV
  have HB0 := hide (box3_alloc w (.int .i64 step) (.int .i64 rise) (.slice ao R.length cap) 26)
  have HW0 := hide (Below.alloc1 w (.cells #[.int .i64 step, .int .i64 rise, .slice ao R.length cap] 26))
  obtain ⟨W, eW⟩ : ∃ W, W = w.alloc (.cells #[.int .i64 step, .int .i64 rise, .slice ao R.length cap] 26) := ⟨_, rfl⟩
  rw [← eW] at HB0 HW0
  have EW := hide eW
  clear eW
  have hjb : j ≤ 10 := by have := hR.wat2; omega
  have HR := hide hR
  have HK := hide hk
  have HJ := hide hj
  clear hR hk hj
  go_enter Try.func57, Try.ntmps57
  go_wp2
  rw [← unhide EW]
  go_loopg [7, 14] j (fun g sv i wr => ∃ q : Nat, q ≤ j ∧ g = j - q ∧ i = .int .i64 q ∧ sv = .int .i64 (sumTo (halvesF R k) q) ∧ Below W.heap.size W wr)
  case atStart => exact ⟨0, by omega, rfl, rfl, rfl, Below.refl _ _⟩
  case round =>
    obtain ⟨q, hq, rfl, rfl, rfl, hB⟩ := hrel
    have HBX := (unhide HB0).step hB
    have HBX' := hide HBX
    have HWr := hide (Below.step (unhide HW0) hB)
    have HBr := hide hB
    obtain ⟨c0, c1, c2⟩ := HBX
    clear hB
    by_cases hqj : q < j
    · have hk' := unhide HK
      have hj' := unhide HJ
      have ev := (unhide HR).even
      have HT := hide (bothHalves_any step rise _ R (k : Int) (q : Int) k q wr ((unhide HV).below (unhide HWr)) rfl rfl hk' (by rw [ev k (by omega)]; omega) (by rw [ev (k + 1) hk']; omega))
      have HT2 := hide fun W' (hb : Below wr.heap.size wr W') => bothHalves_any step rise _ R (k : Int) ((q : Int) + 1) k (q + 1) W' ((unhide HV).below (Below.step (unhide HWr) hb)) rfl (by omega) hk' (by rw [ev k (by omega)]; omega) (by rw [ev (k + 1) hk']; omega)
      have sb := sumTo_bd (halvesF_bd (unhide HR) hk' hj') q (by omega)
      have xb := (unhide HR).cells k q (by omega) (by omega)
      have yb := (unhide HR).cells (k + 1) q hk' (by omega)
      have zb := (unhide HR).cells k (q + 1) (by omega) (by omega)
      have ub := (unhide HR).cells (k + 1) (q + 1) hk' (by omega)
      have ES : Hid (sumTo (halvesF R k) (q + 1) = sumTo (halvesF R k) q + (cellOf R k q + cellOf R (k + 1) q + cellOf R k (q + 1) + cellOf R (k + 1) (q + 1))) := rfl
      clear ev hj' hk'
      generalize cellOf R k q = x at *
      generalize cellOf R (k + 1) q = y at *
      generalize cellOf R k (q + 1) = z at *
      generalize cellOf R (k + 1) (q + 1) = u at *
      generalize sumTo (halvesF R k) q = S at *
      obtain ⟨sb1, sb2⟩ := sb
      obtain ⟨xb1, xb2⟩ := xb
      obtain ⟨yb1, yb2⟩ := yb
      obtain ⟨zb1, zb2⟩ := zb
      obtain ⟨ub1, ub2⟩ := ub
      go_wp2_with fail
      refine (unhide HT).mono ?_
      rintro e w3 ⟨rfl, hb⟩
      obtain ⟨d0, d1, d2⟩ := (unhide HBX').step hb
      have HB3 := hide (Below.step (unhide HBr) hb)
      have HT3 := hide (unhide HT2 w3 hb)
      clear hb c0 c1 c2 HT HT2
      go_wp2_with fail
      refine (unhide HT3).mono ?_
      rintro e w4 ⟨rfl, hb⟩
      have HB4 := hide (Below.step (unhide HB3) hb)
      clear hb d0 d1 d2 HT3
      go_wp2
      go_roundg (j - (q + 1))
      case measure => omega
      case rel => exact ⟨q + 1, by omega, rfl, by go_num, by rw [unhide ES], unhide HB4⟩
    · go_wp2
      go_ret
      have hqq : q = j := by omega
      exact ⟨ret_int (by rw [hqq]; rfl), unhide HWr⟩

/-- Twice the volume of a strip up to a water line. -/
def strip2 (step rise : Int) (R : List (List Int)) (c s : Nat) : Int := rise * step * stripH R c s

theorem strip2_bd {step rise : Int} {R : List (List Int)} (h : Right step rise R) {s c : Nat} (hs : s + 1 < R.length) (hc : c < (R.getD 0 []).length) :
    (0 ≤ rise * step ∧ rise * step ≤ 2000) ∧ (0 ≤ rise * step * stripH R c s ∧ rise * step * stripH R c s ≤ 4000000) := by
  have a := mul_bd (A := 20) (B := 100) (by have := h.rise1; omega) h.rise2 (by have := h.step1; omega) h.step2
  have b := stripH_bd h hs hc
  have d := mul_bd (A := 2000) (B := 2000) a.1 (by omega) b.1 b.2
  exact ⟨⟨a.1, by omega⟩, ⟨d.1, by omega⟩⟩

def strips (step rise : Int) (R : List (List Int)) (c : Int) : List Int := if waterOk step rise R c = true then (List.range (R.length - 1)).map (strip2 step rise R c.toNat) else []

/-- A slice that the call itself made: its block, where it has an element, lies from B on. -/
def OwnSl (B : Nat) (w : World) (v : Value) (xs : List Int) : Prop :=
  ∃ ao cap, v = .slice ao xs.length cap ∧ xs.length ≤ cap ∧ cap ≤ maxLen ∧ (xs ≠ [] → ∃ g, ao = some ⟨g, 0, none⟩ ∧ B ≤ g ∧ OwnV w g (ints xs))

theorem OwnSl.intsIn {B : Nat} {w : World} {v : Value} {xs : List Int} (h : OwnSl B w v xs) : IntsIn w v xs := by
  obtain ⟨ao, cap, rfl, h1, h2, h3⟩ := h
  refine ⟨ao, cap, rfl, h1, h2, fun i hi => ?_⟩
  obtain ⟨g, rfl, _, ho⟩ := h3 (fun e => by rw [e] at hi; simp at hi)
  exact ⟨g, 0, rfl, by rw [Nat.zero_add]; exact ho.cell (ints_get xs hi)⟩

theorem OwnSl.below {B : Nat} {w w' : World} {v : Value} {xs : List Int} (h : OwnSl B w v xs) (hb : Below w.heap.size w w') : OwnSl B w' v xs := by
  obtain ⟨ao, cap, rfl, h1, h2, h3⟩ := h
  refine ⟨ao, cap, rfl, h1, h2, fun hne => ?_⟩
  obtain ⟨g, rfl, hg, ho⟩ := h3 hne
  exact ⟨g, rfl, hg, ho.below hb ho.lt⟩

theorem OwnSl.mono {B B' : Nat} {w : World} {v : Value} {xs : List Int} (h : OwnSl B w v xs) (hB : B' ≤ B) : OwnSl B' w v xs := by
  obtain ⟨ao, cap, rfl, h1, h2, h3⟩ := h
  refine ⟨ao, cap, rfl, h1, h2, fun hne => ?_⟩
  obtain ⟨g, rfl, hg, ho⟩ := h3 hne
  exact ⟨g, rfl, Nat.le_trans hB hg, ho⟩

/-- The new list of strips, k of its n cells filled. -/
structure FillS (w wr : World) (f : Nat → Int) (n k : Nat) : Prop where
  below : Below w.heap.size w wr
  row : wr.rowIs w.heap.size 3 n (fun i => if i < k then .int .i64 (f i) else .int .i64 0)

theorem fillS_start (w : World) (f : Nat → Int) (n : Nat) : FillS w (w.alloc (.cells (madeCells #[.int .i64 0] n) 3)) f n 0 :=
  ⟨(Below.refl _ _).alloc (Nat.le_refl _) _, (World.rowIs_made w _ n 3).congr (fun j _ => by simp)⟩

theorem fillS_step {w wr w1 : World} {f : Nat → Int} {n k : Nat} (h : FillS w wr f n k) (hb : Below wr.heap.size wr w1) : FillS w (w1.setCell ⟨w.heap.size, k, none⟩ (.int .i64 (f k))) f n (k + 1) := by
  refine ⟨(Below.step h.below hb).setCell (Nat.le_refl _) _, ((h.row.of_block (hb.block _ h.row.lt)).set k _).congr (fun i _ => ?_)⟩
  by_cases e : i = k
  · subst e; simp
  · rw [if_neg e]
    by_cases hlt : i < k
    · rw [if_pos hlt, if_pos (by omega)]
    · rw [if_neg hlt, if_neg (by omega)]

theorem fillS_done {w wr : World} {f : Nat → Int} {n : Nat} (h : FillS w wr f n n) (hn : n ≤ maxLen) : OwnSl w.heap.size wr (.slice (some ⟨w.heap.size, 0, none⟩) n n) ((List.range n).map f) := by
  refine ⟨_, n, by simp, by simp, hn, fun _ => ⟨_, rfl, Nat.le_refl _, ?_⟩⟩
  exact rowIs_ownV h.row (by simp [ints]) (fun i hi => by rw [if_pos hi]; simp [ints, hi])

end Go.Proofs.Yticcjdcglfiggaa

/- The contract of the program's Strips2: the strips, in memory of its own. -/
namespace Go.Proofs.Yticcjdcglfiggaa
open Go.RowKit

theorem ret_val {a b : Value} (h : a = b) : Ending.returned a = .returned b := by rw [h]

set_option maxHeartbeats 1600000 in
theorem implStrips2_any (step rise : Int) (v : Value) (R : List (List Int)) (c : Int) (w : World) (h : RowsIn w v R) :
    Calls Try.prog 13 #[hullV step rise v, .int .i64 c] w fun e w' => ∃ ao n cap, e = .returned (.slice ao n cap) ∧ OwnSl w.heap.size w' (.slice ao n cap) (strips step rise R c) ∧ Below w.heap.size w w' := by
  have HV := hide h
  obtain ⟨ao, cap, rfl, hl, hm, hc⟩ := h
  unfold maxLen at hm
  clear hc
  unfold hullV
  have HB0 := hide (box3_alloc w (.int .i64 step) (.int .i64 rise) (.slice ao R.length cap) 26)
  have HW0 := hide (Below.alloc1 w (.cells #[.int .i64 step, .int .i64 rise, .slice ao R.length cap] 26))
  go_enter Try.func13, Try.ntmps13
  go_wp2_with fail
  refine (isWater_any step rise _ R c _ ((unhide HV).below (unhide HW0))).mono ?_
  rintro e w1 ⟨rfl, hb⟩
  have HB1 := hide ((unhide HB0).step hb)
  have HW1 := hide (Below.step (unhide HW0) hb)
  clear hb HB0 HW0
  cases hok : waterOk step rise R c with
  | false =>
    have HF : Hid (strips step rise R c = []) := by show _ = _; simp [strips, hok]
    clear hok
    go_wp2
    go_ret
    refine ⟨none, 0, 0, rfl, ?_, unhide HW1⟩
    rw [unhide HF]
    exact ⟨none, 0, rfl, Nat.le_refl _, Nat.zero_le _, fun h => absurd rfl h⟩
  | true =>
    have HF : Hid (strips step rise R c = (List.range (R.length - 1)).map (strip2 step rise R c.toNat)) := by show _ = _; simp [strips, hok]
    unfold waterOk at hok
    simp only [Bool.and_eq_true] at hok
    have hR := hullOk_right hok.1
    have hcb := inB_true hok.2
    clear hok
    obtain ⟨j, rfl⟩ := Int.eq_ofNat_of_zero_le hcb.1
    rw [Int.toNat_natCast] at HF
    have hj : j < (R.getD 0 []).length := by omega
    clear hcb
    have hl1 := hR.len1
    have hl2 := hR.len2
    have HR := hide hR
    have HJ := hide hj
    clear hR hj
    obtain ⟨c0, c1, c2⟩ := unhide HB1
    go_wp2_with fail
    refine (stripCount_any step rise _ R _ ((unhide HV).below (unhide HW1))).mono ?_
    rintro e w2 ⟨rfl, hb⟩
    have HB2 := hide ((unhide HB1).step hb)
    have HW2 := hide (Below.step (unhide HW1) hb)
    clear hb HB1 HW1 c0 c1 c2
    obtain ⟨n, hn⟩ : ∃ n : Nat, n + 1 = R.length := ⟨R.length - 1, by omega⟩
    have hmk := run_make_row' (P := Try.prog) 31 3 (.int .i64 0) 8 Try.underlying31 Try.info3 rfl .i64 .i64 n (by omega) (by omega)
    have ec : (n : Int) = (R.length : Int) - 1 := by omega
    have ec' : R.length - 1 = n := by omega
    rw [ec'] at HF
    rw [ec] at hmk
    have HN := hide hn
    have hn2 : n < R.length := by omega
    have hn3 : (n : Int) ≤ 11 := by omega
    have HEC := hide ec
    clear hn ec ec'
    go_wp2
    clear hmk
    have hlt0 := (unhide HB2).c0
    have hlt : w.heap.size < w2.heap.size := lt_of_cell hlt0
    clear hlt0
    go_loopg [16] n (fun g i wr => ∃ k : Nat, k ≤ n ∧ g = n - k ∧ i = .int .i64 k ∧ FillS w2 wr (strip2 step rise R j) n k)
    case atStart => exact ⟨0, Nat.zero_le _, rfl, rfl, fillS_start _ _ _⟩
    case round =>
      obtain ⟨k, hk, rfl, rfl, hF⟩ := hrel
      by_cases hkn : k < n
      · have hk1 : k + 1 < R.length := by have := unhide HN; omega
        obtain ⟨c0, c1, c2⟩ := (unhide HB2).step hF.below
        have HWr := hide (Below.step (unhide HW2) hF.below)
        have HT := hide (stripHalves_any step rise _ R (k : Int) (j : Int) k j wr.drew ((unhide HV).below (unhide HWr).drew) rfl rfl (unhide HR) hk1 (unhide HJ))
        have HX := hide ((unhide HB2).step hF.below)
        obtain ⟨⟨p1, p2⟩, p3, p4⟩ := strip2_bd (unhide HR) hk1 (unhide HJ)
        have EF : Hid (strip2 step rise R j k = rise * step * stripH R j k) := rfl
        have HFl := hide hF
        clear hF
        generalize stripH R j k = q at *
        have hw1 : IntKind.i64.wrap (rise * step) = rise * step := by rw [IntKind.wrap_i64]; omega
        have hw2 : IntKind.i64.wrap (rise * step * q) = rise * step * q := by rw [IntKind.wrap_i64]; omega
        have hne : ¬ w.heap.size = w2.heap.size := by omega
        have hne' : ¬ w2.heap.size = w.heap.size := by omega
        go_wp2
        go_region_held3 (fun w' => w'.cell? ⟨w.heap.size, 0, none⟩ = some (.int .i64 step) ∧ w'.cell? ⟨w.heap.size, 1, none⟩ = some (.int .i64 rise) ∧ w'.cell? ⟨w.heap.size, 2, none⟩ = some (.slice ao R.length cap)) (go_keep) (first | (go_at_call 57; refine (unhide HT).mono ?_; rintro e w3 ⟨rfl, hb3⟩; have hb4 : Below wr.heap.size wr w3 := Below.step ((Below.refl _ wr).drew) hb3; obtain ⟨f0, f1, f2⟩ := (unhide HX).step hb4; have g1 : w3.cell? ⟨w2.heap.size, k, none⟩ = some (.int .i64 0) := (by simpa using ((unhide HFl).row.of_block (hb4.block _ (unhide HFl).row.lt)).cell hkn); have g2 : w3.frozen? ⟨w2.heap.size, k, none⟩ = false := ((unhide HFl).row.of_block (hb4.block _ (unhide HFl).row.lt)).frozen k; have HS := hide (fillS_step (unhide HFl) hb4); clear hb3 hb4))
        go_wp2
        go_roundg (n - (k + 1))
        case measure => omega
        case rel => exact ⟨k + 1, by omega, rfl, by go_num, by rw [← unhide EF]; exact unhide HS⟩
      · have hkk : k = n := by omega
        subst hkk
        go_wp2
        go_ret
        refine ⟨_, _, _, rfl, ?_, Below.step (unhide HW2) hF.below⟩
        rw [unhide HF]
        exact (fillS_done hF (by unfold maxLen; omega)).mono (by omega)

end Go.Proofs.Yticcjdcglfiggaa

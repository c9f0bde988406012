/- Laid together out of: StI, StI2, OwnHull, StJ, Recss, RRoomSS, StK, Draw, DrawHull. -/
import Derived.Test.YticcjdcglfiggaaPb
import Derived.Test.YticcjdcglfiggaaPa
import Derived.Laws.StructEq
import Derived.Test.YticcjdcglfiggaaPc
import Derived.Test.YticcjdcglfiggaaPd
import Derived.Test.YticcjdcglfiggaaRows
import Derived.WalkLawsBesides
import Derived.Deep.LoopGhost
import Derived.Deep.QuietTactic
import Derived.BigQuiet
import Derived.Deep.RegionHeld3
import Derived.Deep.AppendLies

/- Fractions compared: contracts of the program's leastOk, isLess and of the specification's l2FracOk, l2Floor, l2Less. -/
namespace Go.Proofs.Yticcjdcglfiggaa
open Go.RowKit

def leastB (f : I2) : Bool := inB f.1 (-1000) 1000 && inB f.2 1 1000 && decide (Int.gcd f.1 f.2 = 1)
def lessB (a b : I2) : Bool := decide (a.1 * b.2 < b.1 * a.2)

theorem lt_or_ge' (a b : Int) : a < b ∨ b ≤ a := by omega

theorem low_self {n d : Int} (hd : 0 < d) : decide (lowV n d = (n, d)) = decide (Int.gcd n d = 1) := by
  rw [decide_eq_decide]
  unfold lowV
  constructor
  · intro h
    simp only [Prod.mk.injEq] at h
    obtain ⟨g1, g2⟩ := gcd_range (num := n) hd
    rcases lt_or_ge' 1 (Int.gcd n d : Int) with h1 | h1
    · have := Int.ediv_lt_self_of_pos_of_ne_one hd (y := (Int.gcd n d : Int)) (by omega)
      omega
    · omega
  · intro h
    rw [h]
    simp

theorem tparts (a b : Int) (hb : 0 < b) : a = a.tdiv b * b + a.tmod b ∧ -b < a.tmod b ∧ a.tmod b < b ∧ (0 < a.tmod b → 0 < a ∧ 0 ≤ a.tdiv b) ∧ (a.tmod b < 0 → a < 0 ∧ a.tdiv b ≤ 0) := by
  have h1 := Int.tmod_add_mul_tdiv a b
  have h2 := tmod_lt (a := a) (show b ≠ 0 by omega)
  rw [Int.mul_comm] at h1
  refine ⟨by omega, by omega, by omega, fun h => ?_, fun h => ?_⟩
  · have h3 : 0 ≤ a := by
      rcases lt_or_ge' a 0 with h4 | h4
      · have h8 := Int.tmod_nonneg (a := -a) b (by omega)
        rw [Int.neg_tmod] at h8
        omega
      · exact h4
    have h5 := Int.tdiv_nonneg h3 (Int.le_of_lt hb)
    refine ⟨?_, h5⟩
    rcases lt_or_ge' 0 a with h6 | h6
    · exact h6
    · have : a = 0 := by omega
      subst this
      simp at h
  · have h3 : a < 0 := by
      rcases lt_or_ge' a 0 with h4 | h4
      · exact h4
      · have := Int.tmod_nonneg b h4
        omega
    have h7 := Int.tdiv_nonneg (a := -a) (by omega) (Int.le_of_lt hb)
    rw [Int.neg_tdiv] at h7
    exact ⟨h3, by omega⟩

/-- Two fractions of which whole parts and rests are known. -/
theorem cross {a1 a2 b1 b2 p q x y : Int} (ha : a1 = p * a2 + x) (hb : b1 = q * b2 + y) : a1 * b2 - b1 * a2 = (p - q) * (a2 * b2) + (x * b2 - y * a2) := by
  subst ha hb
  rw [Int.add_mul, Int.add_mul, Int.sub_mul]
  rw [Int.mul_assoc p, Int.mul_assoc q b2, Int.mul_comm b2 a2]
  omega

theorem rest_bd {x b2 a2 : Int} (hb : 0 < b2) (h1 : -a2 < x) (h2 : x < a2) : -(a2 * b2) < x * b2 ∧ x * b2 < a2 * b2 := by
  constructor
  · have := Int.mul_lt_mul_of_pos_right h1 hb
    rw [Int.neg_mul] at this
    exact this
  · exact Int.mul_lt_mul_of_pos_right h2 hb

/-- The program's way: whole parts towards 0. -/
theorem less_t (a1 a2 b1 b2 : Int) (ha : 0 < a2) (hb : 0 < b2) :
    lessB (a1, a2) (b1, b2) = if a1.tdiv a2 ≠ b1.tdiv b2 then decide (a1.tdiv a2 < b1.tdiv b2) else decide (a1.tmod a2 * b2 < b1.tmod b2 * a2) := by
  obtain ⟨e1, l1, u1, s1, t1⟩ := tparts a1 a2 ha
  obtain ⟨e2, l2, u2, s2, t2⟩ := tparts b1 b2 hb
  have hc := cross e1 e2
  generalize a1.tdiv a2 = p at *
  generalize b1.tdiv b2 = q at *
  generalize a1.tmod a2 = x at *
  generalize b1.tmod b2 = y at *
  have r1 := rest_bd hb l1 u1
  have r2 := rest_bd ha l2 u2
  rw [Int.mul_comm b2 a2] at r2
  have hP : 0 < a2 * b2 := Int.mul_pos ha hb
  have z1 : x ≤ 0 → x * b2 ≤ 0 := fun h => Int.mul_nonpos_of_nonpos_of_nonneg h (Int.le_of_lt hb)
  have z2 : 0 ≤ x → 0 ≤ x * b2 := fun h => Int.mul_nonneg h (Int.le_of_lt hb)
  have z3 : y ≤ 0 → y * a2 ≤ 0 := fun h => Int.mul_nonpos_of_nonpos_of_nonneg h (Int.le_of_lt ha)
  have z4 : 0 ≤ y → 0 ≤ y * a2 := fun h => Int.mul_nonneg h (Int.le_of_lt ha)
  unfold lessB
  dsimp only
  by_cases hpq : p = q
  · subst hpq
    rw [if_neg (by simp), decide_eq_decide]
    rw [Int.sub_self, Int.zero_mul] at hc
    omega
  · rw [if_pos hpq, decide_eq_decide]
    generalize a2 * b2 = P at *
    rcases Int.lt_or_gt_of_ne hpq with h | h
    · refine ⟨fun _ => h, fun _ => ?_⟩
      by_cases h2 : q - p = 1
      · have : (p - q) * P = -P := by rw [show p - q = -1 by omega]; omega
        omega
      · have : (p - q) * P ≤ -2 * P := Int.mul_le_mul_of_nonneg_right (by omega) (Int.le_of_lt hP)
        omega
    · refine ⟨fun h' => ?_, fun h' => by omega⟩
      exfalso
      by_cases h2 : p - q = 1
      · have : (p - q) * P = P := by rw [h2]; omega
        omega
      · have : 2 * P ≤ (p - q) * P := Int.mul_le_mul_of_nonneg_right (by omega) (Int.le_of_lt hP)
        omega

/-- The specification's way: whole parts down. -/
theorem less_f (a1 a2 b1 b2 p q : Int) (ha : 0 < a2) (hb : 0 < b2) (hp1 : 0 ≤ a1 - p * a2) (hp2 : a1 - p * a2 < a2) (hq1 : 0 ≤ b1 - q * b2) (hq2 : b1 - q * b2 < b2) :
    lessB (a1, a2) (b1, b2) = if p ≠ q then decide (p < q) else decide ((a1 - p * a2) * b2 < (b1 - q * b2) * a2) := by
  have hc := cross (a1 := a1) (a2 := a2) (b1 := b1) (b2 := b2) (p := p) (q := q) (x := a1 - p * a2) (y := b1 - q * b2) (by omega) (by omega)
  generalize a1 - p * a2 = x at *
  generalize b1 - q * b2 = y at *
  have r1 := rest_bd (x := x) hb (a2 := a2) (by omega) hp2
  have r2 := rest_bd (x := y) ha (a2 := b2) (by omega) hq2
  rw [Int.mul_comm b2 a2] at r2
  have hP : 0 < a2 * b2 := Int.mul_pos ha hb
  have z2 : 0 ≤ x * b2 := Int.mul_nonneg hp1 (Int.le_of_lt hb)
  have z4 : 0 ≤ y * a2 := Int.mul_nonneg hq1 (Int.le_of_lt ha)
  unfold lessB
  dsimp only
  by_cases hpq : p = q
  · subst hpq
    rw [if_neg (by simp), decide_eq_decide]
    rw [Int.sub_self, Int.zero_mul] at hc
    omega
  · rw [if_pos hpq, decide_eq_decide]
    generalize a2 * b2 = P at *
    rcases Int.lt_or_gt_of_ne hpq with h | h
    · refine ⟨fun _ => h, fun _ => ?_⟩
      have : (p - q) * P ≤ -1 * P := Int.mul_le_mul_of_nonneg_right (by omega) (Int.le_of_lt hP)
      omega
    · refine ⟨fun h' => ?_, fun h' => by omega⟩
      exfalso
      have : 1 * P ≤ (p - q) * P := Int.mul_le_mul_of_nonneg_right (by omega) (Int.le_of_lt hP)
      omega

theorem prod_bd' {a b A B : Int} (h1 : -A ≤ a) (h2 : a ≤ A) (h3 : 0 ≤ b) (h4 : b ≤ B) : -(A * B) ≤ a * b ∧ a * b ≤ A * B := by
  have hA : 0 ≤ A := by omega
  have h5 : A * b ≤ A * B := Int.mul_le_mul_of_nonneg_left h4 hA
  have h6 : a * b ≤ A * b := Int.mul_le_mul_of_nonneg_right h2 h3
  have h7 : -A * b ≤ a * b := Int.mul_le_mul_of_nonneg_right h1 h3
  rw [Int.neg_mul] at h7
  omega

def floorV (a b : Int) : Int := if a.tmod b < 0 then a.tdiv b - 1 else a.tdiv b

theorem floorV_rest (a b : Int) (hb : 0 < b) : 0 ≤ a - floorV a b * b ∧ a - floorV a b * b < b := by
  obtain ⟨e, l, u, _, _⟩ := tparts a b hb
  unfold floorV
  split
  · rw [Int.sub_mul]; omega
  · omega

/-- How large a quotient is. -/
theorem tdiv_abs (a b : Int) : (a.tdiv b).natAbs ≤ a.natAbs := by
  rw [Int.natAbs_tdiv]
  exact Nat.div_le_self _ _

set_option maxHeartbeats 400000 in
theorem l2Floor_any (a b : Int) (w : World) (h1 : -2000000000000000000 ≤ a) (h2 : a ≤ 2000000000000000000) (h3 : 0 < b) :
    Calls Try.prog 107 #[.int .i64 a, .int .i64 b] w fun e w' => e = .returned (.int .i64 (floorV a b)) ∧ w' = w := by
  have hq := tdiv_abs a b
  have hw := tdiv_wrap (a := a) (g := b) (by omega) (by omega) h3
  have hne : ¬ b = 0 := by omega
  have HF : Hid (floorV a b = if a.tmod b < 0 then a.tdiv b - 1 else a.tdiv b) := hide rfl
  have h5 : -2000000000000000000 ≤ a.tdiv b := by omega
  have h6 : a.tdiv b ≤ 2000000000000000000 := by omega
  clear hq
  by_cases hm : a.tmod b < 0
  · have d1 : decide (a.tmod b < 0) = true := by simpa using hm
    rw [if_pos hm] at HF
    go_enter Try.func107, Try.ntmps107
    go_wp2
    go_ret
    exact ⟨ret_int (unhide HF).symm, rfl⟩
  · have d1 : decide (a.tmod b < 0) = false := by simpa using hm
    rw [if_neg hm] at HF
    go_enter Try.func107, Try.ntmps107
    go_wp2
    go_ret
    exact ⟨ret_int (unhide HF).symm, rfl⟩

set_option maxHeartbeats 800000 in
theorem isLess_any (a1 a2 b1 b2 : Int) (w : World) (h1 : -200000000000000000 ≤ a1) (h2 : a1 ≤ 200000000000000000) (h3 : 0 < a2) (h4 : a2 ≤ 200000000000000) (h5 : -1000 ≤ b1) (h6 : b1 ≤ 1000) (h7 : 1 ≤ b2) (h8 : b2 ≤ 1000) :
    Calls Try.prog 69 #[v2 (a1, a2), v2 (b1, b2)] w fun e w' => e = .returned (.bool (lessB (a1, a2) (b1, b2))) ∧ Below w.heap.size w w' := by
  have HF := hide (less_t a1 a2 b1 b2 h3 (by omega))
  have hw1 := tdiv_wrap (a := a1) (g := a2) (by omega) (by omega) h3
  have hw2 := tdiv_wrap (a := b1) (g := b2) (by omega) (by omega) (by omega)
  have n1 : ¬ a2 = 0 := by omega
  have n2 : ¬ b2 = 0 := by omega
  obtain ⟨-, l1, u1, -, -⟩ := tparts a1 a2 h3
  obtain ⟨-, l2, u2, -, -⟩ := tparts b1 b2 (by omega)
  have p1 := prod_bd' (a := a1.tmod a2) (b := b2) (A := 200000000000000) (B := 1000) (by omega) (by omega) (by omega) h8
  have p2 := prod_bd' (a := b1.tmod b2) (b := a2) (A := 1000) (B := 200000000000000) (by omega) (by omega) (by omega) h4
  have q1 : IntKind.i64.wrap (a1.tmod a2 * b2) = a1.tmod a2 * b2 := by rw [IntKind.wrap_i64]; omega
  have q2 : IntKind.i64.wrap (b1.tmod b2 * a2) = b1.tmod b2 * a2 := by rw [IntKind.wrap_i64]; omega
  clear l1 u1 l2 u2 p1 p2 h1 h2 h3 h4 h5 h6 h7 h8
  unfold v2
  have HB := hide (Below.step (Below.alloc1 w (.cells #[.int .i64 a1, .int .i64 a2] 44)) (Below.alloc1 _ (.cells #[.int .i64 b1, .int .i64 b2] 44)))
  go_enter Try.func69, Try.ntmps69
  have Q1 := hide q1
  have Q2 := hide q2
  clear q1 q2
  go_wp2
  go_quiet (fail)
  by_cases hpq : a1.tdiv a2 = b1.tdiv b2
  · rw [if_neg (by simpa using hpq)] at HF
    have q1 := unhide Q1
    have q2 := unhide Q2
    go_wp2
    go_quiet (fail)
    go_wp2
    go_ret
    exact ⟨ret_bool (unhide HF).symm, below_drewN (below_drewN (unhide HB) _) _⟩
  · rw [if_pos hpq] at HF
    go_wp2
    go_ret
    exact ⟨ret_bool (unhide HF).symm, below_drewN (unhide HB) _⟩

end Go.Proofs.Yticcjdcglfiggaa

/- Contracts of the specification's l2Less, l2FracOk and of the program's leastOk. -/
namespace Go.Proofs.Yticcjdcglfiggaa
open Go.RowKit

set_option maxHeartbeats 800000 in
theorem l2Less_any (a1 a2 b1 b2 : Int) (w : World) (h1 : -200000000000000000 ≤ a1) (h2 : a1 ≤ 200000000000000000) (h3 : 0 < a2) (h4 : a2 ≤ 200000000000000) (h5 : -1000 ≤ b1) (h6 : b1 ≤ 1000) (h7 : 1 ≤ b2) (h8 : b2 ≤ 1000) :
    Calls Try.prog 85 #[v2 (a1, a2), v2 (b1, b2)] w fun e w' => e = .returned (.bool (lessB (a1, a2) (b1, b2))) ∧ Below w.heap.size w w' := by
  obtain ⟨f1, f2⟩ := floorV_rest a1 a2 h3
  obtain ⟨f3, f4⟩ := floorV_rest b1 b2 (by omega)
  have HF := hide (less_f a1 a2 b1 b2 (floorV a1 a2) (floorV b1 b2) h3 (by omega) f1 f2 f3 f4)
  have C1 := hide fun w => l2Floor_any a1 a2 w (by omega) (by omega) h3
  have C2 := hide fun w => l2Floor_any b1 b2 w (by omega) (by omega) (by omega)
  have p1 := prod_bd' (a := a1 - floorV a1 a2 * a2) (b := b2) (A := 200000000000000) (B := 1000) (by omega) (by omega) (by omega) h8
  have p2 := prod_bd' (a := b1 - floorV b1 b2 * b2) (b := a2) (A := 1000) (B := 200000000000000) (by omega) (by omega) (by omega) h4
  have q1 : IntKind.i64.wrap (floorV a1 a2 * a2) = floorV a1 a2 * a2 := by rw [IntKind.wrap_i64]; omega
  have q2 : IntKind.i64.wrap (floorV b1 b2 * b2) = floorV b1 b2 * b2 := by rw [IntKind.wrap_i64]; omega
  have q3 : IntKind.i64.wrap (a1 - floorV a1 a2 * a2) = a1 - floorV a1 a2 * a2 := by rw [IntKind.wrap_i64]; omega
  have q4 : IntKind.i64.wrap (b1 - floorV b1 b2 * b2) = b1 - floorV b1 b2 * b2 := by rw [IntKind.wrap_i64]; omega
  have q5 : IntKind.i64.wrap ((a1 - floorV a1 a2 * a2) * b2) = (a1 - floorV a1 a2 * a2) * b2 := by rw [IntKind.wrap_i64]; omega
  have q6 : IntKind.i64.wrap ((b1 - floorV b1 b2 * b2) * a2) = (b1 - floorV b1 b2 * b2) * a2 := by rw [IntKind.wrap_i64]; omega
  clear h1 h2 h3 h4 h5 h6 h7 h8 f1 f2 f3 f4 p1 p2
  generalize floorV a1 a2 = p at *
  generalize floorV b1 b2 = q at *
  unfold v2
  obtain ⟨W, eW⟩ : ∃ W, W = (w.alloc (.cells #[.int .i64 a1, .int .i64 a2] 44)).alloc (.cells #[.int .i64 b1, .int .i64 b2] 44) := ⟨_, rfl⟩
  have HB : Hid (Below w.heap.size w W) := by show Below _ _ _; rw [eW]; exact Below.step (Below.alloc1 _ _) (Below.alloc1 _ _)
  have hO : OwnV W w.heap.size [.int .i64 a1, .int .i64 a2] := by rw [eW]; exact OwnV.alloc (ownV_alloc w #[.int .i64 a1, .int .i64 a2] _) _
  have hO' : OwnV W (w.heap.size + 1) [.int .i64 b1, .int .i64 b2] := by
    rw [eW]
    have h := ownV_alloc (w.alloc (.cells #[.int .i64 a1, .int .i64 a2] 44)) #[.int .i64 b1, .int .i64 b2] 44
    simp only [World.size_alloc] at h
    exact h
  have r0 := fun x : Gr W => gr_cell (OwnV.cell hO (i := 0) rfl) x
  have r1 := fun x : Gr W => gr_cell (OwnV.cell hO (i := 1) rfl) x
  have r2 := fun x : Gr W => gr_cell (OwnV.cell hO' (i := 0) rfl) x
  have r3 := fun x : Gr W => gr_cell (OwnV.cell hO' (i := 1) rfl) x
  have S1 := hide fun x : Gr W => (unhide C1 x.val).mono fun e w' ⟨h, h'⟩ => (⟨h, h' ▸ Below.refl _ _⟩ : _ ∧ Below x.val.heap.size x.val w')
  have S2 := hide fun x : Gr W => (unhide C2 x.val).mono fun e w' ⟨h, h'⟩ => (⟨h, h' ▸ Below.refl _ _⟩ : _ ∧ Below x.val.heap.size x.val w')
  have gsome := gr_some W
  have HO := hide hO
  have HO' := hide hO'
  clear hO hO' C1 C2
  go_enter Try.func85, Try.ntmps85
  go_wp2
  rw [← eW]
  clear eW
  refine wp_region_grown (by kernel_rfl) (by kernel_rfl) ?_
  repeat (go_big_quiet_step (fail))
  go_big_quiet_want
  go_big_quiet_op
  go_big_quiet_call (exact calls_grown (unhide S1 _))
  repeat (go_big_quiet_step (fail))
  go_big_quiet_want
  go_big_quiet_op
  go_big_quiet_call (exact calls_grown (unhide S2 _))
  repeat (go_big_quiet_step (fail))
  refine wpQuiet_nil ?_
  intro w1 hw1
  obtain ⟨z, hz⟩ := hw1
  have hb1 : Below W.heap.size W w1 := hz ▸ z.ok
  clear hz z r0 r1 r2 r3 S1 S2 gsome
  have c0 := OwnV.cell (OwnV.step (unhide HO) hb1) (i := 0) rfl
  have c1 := OwnV.cell (OwnV.step (unhide HO) hb1) (i := 1) rfl
  have c2 := OwnV.cell (OwnV.step (unhide HO') hb1) (i := 0) rfl
  have c3 := OwnV.cell (OwnV.step (unhide HO') hb1) (i := 1) rfl
  have HB1 := hide (Below.step (unhide HB) hb1)
  clear hb1 HB HO HO'
  by_cases hpq : p = q
  · rw [if_neg (by simpa using hpq)] at HF
    subst hpq
    go_wp2
    go_quiet (fail)
    have d1 : (w1.drewN nq).cell? ⟨w.heap.size, 1, none⟩ = some (.int .i64 a2) := c1
    have d3 : (w1.drewN nq).cell? ⟨w.heap.size + 1, 1, none⟩ = some (.int .i64 b2) := c3
    go_wp2
    go_ret
    exact ⟨ret_bool (unhide HF).symm, below_drewN (unhide HB1) _⟩
  · rw [if_pos hpq] at HF
    go_wp2
    go_ret
    exact ⟨ret_bool (unhide HF).symm, unhide HB1⟩

set_option maxHeartbeats 800000 in
theorem l2FracOk_any (n d : Int) (w : World) :
    Calls Try.prog 82 #[v2 (n, d), .int .i64 1000] w fun e w' => e = .returned (.bool (leastB (n, d))) ∧ Below w.heap.size w w' := by
  have HF : Hid (leastB (n, d) = (inB n (-1000) 1000 && inB d 1 1000 && decide (Int.gcd n d = 1))) := hide rfl
  unfold v2
  have HB := hide (Below.alloc1 w (.cells #[.int .i64 n, .int .i64 d] 44))
  cases h1 : inB n (-1000) 1000
  case false =>
    rw [h1] at HF
    go_enter Try.func82, Try.ntmps82
    go_wp2_with (go_at_call 77; refine (l1In_any _ _ _ _).mono ?_; rintro e w' ⟨rfl, rfl⟩)
    go_ret
    exact ⟨ret_bool (by rw [unhide HF]; rfl), unhide HB⟩
  cases h2 : inB d 1 1000
  case false =>
    rw [h1, h2] at HF
    go_enter Try.func82, Try.ntmps82
    go_wp2_with (go_at_call 77; refine (l1In_any _ _ _ _).mono ?_; rintro e w' ⟨rfl, rfl⟩)
    go_ret
    exact ⟨ret_bool (by rw [unhide HF]; rfl), unhide HB⟩
  rw [h1, h2] at HF
  have b1 := inB_true h1
  have b2 := inB_true h2
  have HG := hide (l2Gcd_any n d (w.alloc (.cells #[.int .i64 n, .int .i64 d] 44)) (by omega) (by omega) (by omega) (by omega))
  go_enter Try.func82, Try.ntmps82
  go_wp2_with (first | (go_at_call 77; refine (l1In_any _ _ _ _).mono ?_; rintro e w' ⟨rfl, rfl⟩) | (go_at_call 103; refine (unhide HG).mono ?_; rintro e w' ⟨rfl, rfl⟩))
  go_ret
  refine ⟨ret_bool ?_, unhide HB⟩
  rw [unhide HF, Bool.eq_iff_iff]
  simp
  omega

theorem leastB_eq {n d : Int} (h2 : inB d 1 1000 = true) : leastB (n, d) = (inB n (-1000) 1000 && decide (lowV n d = (n, d))) := by
  have := inB_true h2
  unfold leastB
  rw [low_self (by omega), h2]
  simp

theorem Try.eqgFrac : Try.prog.eqGuardType Try.prog.depth 44 = false := by kernel_rfl
theorem Try.heldFrac : Try.prog.stoodInHeld 44 = false := by kernel_rfl

theorem eql_frac (n d N D : Int) (w : World) : (binOp .eql 44 (.agg #[.int .i64 n, .int .i64 d]) (.agg #[.int .i64 N, .int .i64 D])).run Try.prog w = .ok (.bool ((n == N) && (d == D))) w := by
  rw [run_eql_struct, run_equalIn_agg _ _ _ _ _ (by rw [Program.fieldsOf, Try.underlying44]) Try.heldFrac]
  simp [go_sem, Program.fieldsOf, Try.underlying44, Try.underlying3]
  by_cases h1 : n = N <;> by_cases h2 : d = D <;> simp [h1, h2]

set_option maxHeartbeats 800000 in
theorem leastOk_any (n d : Int) (w : World) :
    Calls Try.prog 66 #[v2 (n, d)] w fun e w' => e = .returned (.bool (leastB (n, d))) ∧ Below w.heap.size w w' := by
  have HF : Hid (leastB (n, d) = (inB n (-1000) 1000 && inB d 1 1000 && decide (Int.gcd n d = 1))) := hide rfl
  unfold v2
  obtain ⟨W, eW⟩ : ∃ W, W = w.alloc (.cells #[.int .i64 n, .int .i64 d] 44) := ⟨_, rfl⟩
  have HB : Hid (Below w.heap.size w W) := by show Below _ _ _; rw [eW]; exact Below.alloc1 _ _
  have hO : OwnV W w.heap.size [.int .i64 n, .int .i64 d] := by rw [eW]; exact ownV_alloc w #[.int .i64 n, .int .i64 d] _
  have r0 := fun x : Gr W => gr_cell (OwnV.cell hO (i := 0) rfl) x
  have r1 := fun x : Gr W => gr_cell (OwnV.cell hO (i := 1) rfl) x
  have S1 := hide fun x : Gr W => (within_any n (-1000) 1000 x.val).mono fun e w' ⟨h, h'⟩ => (⟨h, h' ▸ Below.refl _ _⟩ : _ ∧ Below x.val.heap.size x.val w')
  have S2 := hide fun x : Gr W => (within_any d 1 1000 x.val).mono fun e w' ⟨h, h'⟩ => (⟨h, h' ▸ Below.refl _ _⟩ : _ ∧ Below x.val.heap.size x.val w')
  have gsome := gr_some W
  have HL : Hid (inB d 1 1000 = true → leastB (n, d) = (inB n (-1000) 1000 && decide (lowV n d = (n, d)))) := fun h => leastB_eq h
  have HLo : Hid (inB n (-1000) 1000 = true → inB d 1 1000 = true → ∀ x : Gr W, Calls Try.prog 95 #[.int .i64 n, .int .i64 d] x.val fun e w' => e = .returned (v2 (lowV n d)) ∧ Below x.val.heap.size x.val w') := fun h1 h2 x => by
    have := inB_true h1
    have := inB_true h2
    exact lowest_any n d x.val (by omega) (by omega) (by omega) (by omega)
  clear hO
  generalize inB n (-1000) 1000 = k1 at *
  generalize inB d 1 1000 = k2 at *
  go_enter Try.func66, Try.ntmps66
  go_wp2
  rw [← eW]
  clear eW
  refine wp_region_grown (by kernel_rfl) (by kernel_rfl) ?_
  repeat (go_big_quiet_step (fail))
  go_big_quiet_want
  go_big_quiet_op
  go_big_quiet_call (exact calls_grown (unhide S1 _))
  cases k1
  case false =>
    repeat (go_big_quiet_step (fail))
    refine wpQuiet_nil ?_
    intro w1 hw1
    obtain ⟨z, hz⟩ := hw1
    have hb1 : Below W.heap.size W w1 := hz ▸ z.ok
    clear hz z r0 r1 S1 S2 gsome
    go_wp2
    go_ret
    exact ⟨ret_bool (by rw [unhide HF]; simp), Below.step (unhide HB) hb1⟩
  repeat (go_big_quiet_step (fail))
  go_big_quiet_want
  go_big_quiet_op
  go_big_quiet_call (exact calls_grown (unhide S2 _))
  cases k2
  case false =>
    repeat (go_big_quiet_step (fail))
    refine wpQuiet_nil ?_
    intro w1 hw1
    obtain ⟨z, hz⟩ := hw1
    have hb1 : Below W.heap.size W w1 := hz ▸ z.ok
    clear hz z r0 r1 S1 S2 gsome
    go_wp2
    go_ret
    exact ⟨ret_bool (by rw [unhide HF]; simp), Below.step (unhide HB) hb1⟩
  have S3 := hide (unhide HLo rfl rfl)
  have HE : Hid (leastB (n, d) = decide (lowV n d = (n, d))) := by show _ = _; rw [unhide HL rfl]; rfl
  clear HLo HF HL
  generalize lowV n d = X at *
  obtain ⟨N, D⟩ := X
  dsimp only [v2] at S3
  have hEq := eql_frac n d N D
  have hGd := fun x y w => run_eqGuard_agg (P := Try.prog) w .eql 44 x y #[.int .i64 n, .int .i64 d] #[.int .i64 N, .int .i64 D] Try.eqgFrac
  repeat (go_big_quiet_step (fail))
  go_big_quiet_want
  go_big_quiet_op
  go_big_quiet_call (exact calls_grown (unhide S3 _))
  repeat (go_big_quiet_step (fail))
  refine wpQuiet_nil ?_
  intro w1 hw1
  obtain ⟨z, hz⟩ := hw1
  have hb1 : Below W.heap.size W w1 := hz ▸ z.ok
  clear hz z r0 r1 S1 S2 S3 gsome hEq hGd
  go_wp2
  go_ret
  refine ⟨ret_bool ?_, Below.step (unhide HB) hb1⟩
  rw [unhide HE, Bool.eq_iff_iff]
  simp
  omega

end Go.Proofs.Yticcjdcglfiggaa

/- Rows of the call's own between two marks of memory; contracts of markHull and heldHull over them. -/
namespace Go.Proofs.Yticcjdcglfiggaa
open Go.RowKit

/-- A list of rows of the call's own, its blocks from B on and below U; or nothing. -/
def OwnRowsU (B U : Nat) (w : World) (v : Value) (R : List (List Int)) : Prop :=
  (R = [] ∧ v = .slice none 0 0) ∨ ∃ g G C cap, v = .slice (some ⟨g, 0, none⟩) R.length cap ∧ R.length ≤ cap ∧ cap ≤ maxLen ∧ OwnRows B w g G C R ∧ g < U ∧ ∀ r, r < R.length → G r < U

theorem OwnRowsV.upto {B : Nat} {w : World} {v : Value} {R : List (List Int)} (h : OwnRowsV B w v R) : OwnRowsU B w.heap.size w v R := by
  rcases h with h | ⟨g, G, C, cap, rfl, h1, h2, h3⟩
  · exact Or.inl h
  · exact Or.inr ⟨g, G, C, cap, rfl, h1, h2, h3, h3.top.lt, fun r hr => (h3.rows r hr).lt⟩

theorem OwnRows.upto {B : Nat} {w : World} {g : Nat} {G C : Nat → Nat} {R : List (List Int)} (h : OwnRows B w g G C R) (hR : R.length ≤ 1048576) : OwnRowsU B w.heap.size w (.slice (some ⟨g, 0, none⟩) R.length R.length) R :=
  Or.inr ⟨g, G, C, R.length, rfl, Nat.le_refl _, by unfold maxLen; omega, h, h.top.lt, fun r hr => (h.rows r hr).lt⟩

theorem OwnRowsU.inn {B U : Nat} {w : World} {v : Value} {R : List (List Int)} (h : OwnRowsU B U w v R) : RowsIn w v R := by
  rcases h with ⟨rfl, rfl⟩ | ⟨g, G, C, cap, rfl, h1, h2, h3, _⟩
  · exact ⟨none, 0, rfl, Nat.le_refl _, Nat.zero_le _, fun r hr => by simp at hr⟩
  · exact h3.rowsIn h1 h2

theorem OwnRowsU.below {B U : Nat} {w w' : World} {v : Value} {R : List (List Int)} (h : OwnRowsU B U w v R) (hb : Below w.heap.size w w') : OwnRowsU B U w' v R := by
  rcases h with h | ⟨g, G, C, cap, rfl, h1, h2, h3, r⟩
  · exact Or.inl h
  · exact Or.inr ⟨g, G, C, cap, rfl, h1, h2, h3.below hb, r⟩

theorem OwnRowsU.kept {T : Nat → Prop} {B U : Nat} {w w' : World} {v : Value} {R : List (List Int)} (h : OwnRowsU B U w v R) (hk : Kept T w w') (hT : ∀ b, B ≤ b → b < U → ¬ T b) : OwnRowsU B U w' v R := by
  rcases h with h | ⟨g, G, C, cap, rfl, h1, h2, h3, r1, r2⟩
  · exact Or.inl h
  · exact Or.inr ⟨g, G, C, cap, rfl, h1, h2, ⟨h3.base, h3.top.kept hk (hT g h3.base r1), fun r hr => (h3.rows r hr).kept hk (hT (G r) (h3.above r hr).1 (r2 r hr)), h3.caps, h3.above, h3.apart⟩, r1, r2⟩

theorem mrows_held (k : Int) (R : List (List Int)) : ∀ r, r < (mrows k R).length → (mrows k R).getD r [] = marks (k + (pre (mrows k R) r : Int)) ((mrows k R).getD r []).length := fun r hr => by
  rw [mrows_len] at hr
  rw [pre_mrows k R (by omega), mrows_row k R hr, mrows_get k R hr]

set_option maxHeartbeats 400000 in
theorem markIntSS_nil (w : World) : Calls Try.prog 74 #[.slice none 0 0, .int .i64 1] w fun e w' => e = .returned (.int .i64 1) ∧ w = w' := by
  go_enter Try.func74, Try.ntmps74
  go_wp2
  go_loopg [1, 5] 0 (fun _ kv iv wr => w = wr ∧ iv = .int .i64 0 ∧ kv = .int .i64 1)
  case atStart => exact ⟨rfl, rfl, rfl⟩
  case round =>
    obtain ⟨rfl, rfl, rfl⟩ := hrel
    go_wp2
    go_ret
    exact ⟨rfl, rfl⟩

set_option maxHeartbeats 800000 in
theorem markHull_v (step rise : Int) (B U : Nat) (ao : Option Addr) (n cap : Nat) (R : List (List Int)) (w : World) (h : OwnRowsU B U w (.slice ao n cap) R) (hn : R.length ≤ 1048576) (hl : ∀ i, i < R.length → (R.getD i []).length ≤ 1048576) :
    Calls Try.prog 29 #[hullV step rise (.slice ao n cap), .int .i64 1] w fun e w' => e = .returned (.int .i64 (1 + pre R R.length)) ∧ Kept (fun b => B ≤ b ∧ b < U) w w' ∧ OwnRowsU B U w' (.slice ao n cap) (mrows 1 R) := by
  rcases h with ⟨rfl, hv⟩ | ⟨g, G, C, cap', hv, h1, h2, h3, h4, h5⟩
  · simp only [Value.slice.injEq] at hv
    obtain ⟨rfl, rfl, rfl⟩ := hv
    unfold hullV
    have HA := hide (Below.alloc1 w (.cells #[.int .i64 step, .int .i64 rise, .slice none 0 0] 26))
    clear hl hn
    go_enter Try.func29, Try.ntmps29
    go_wp2_with fail
    refine (markIntSS_nil _).mono ?_
    rintro e w' ⟨rfl, rfl⟩
    go_wp2
    go_ret
    exact ⟨rfl, kept_of_below (unhide HA), Or.inl ⟨rfl, rfl⟩⟩
  · simp only [Value.slice.injEq] at hv
    obtain ⟨rfl, rfl, rfl⟩ := hv
    refine (markHull_any step rise B g cap G C R 1 w h3 hn hl (by omega) (by omega)).mono ?_
    rintro e w' ⟨rfl, hk, ho⟩
    exact ⟨rfl, hk.mono (fun b _ ⟨r, hr, e⟩ => by rw [e]; exact ⟨(h3.above r hr).1, h5 r hr⟩), Or.inr ⟨g, G, C, cap, by rw [mrows_len], by rw [mrows_len]; exact h1, h2, ho, h4, fun r hr => h5 r (by rwa [mrows_len] at hr)⟩⟩

theorem heldHull_v (step rise : Int) (v : Value) (M : List (List Int)) (W : World) (hW : RowsIn W v (mrows 1 M)) (hn : M.length ≤ 1048576) (hl : ∀ i, i < M.length → (M.getD i []).length ≤ 1048576) :
    Calls Try.prog 30 #[hullV step rise v, .int .i64 1] W fun e w' => e = .returned (.int .i64 (1 + (pre M M.length : Int))) ∧ Below W.heap.size W w' := by
  have := heldHull_any step rise _ (mrows 1 M) 1 W hW (mrows_held 1 M) (by rw [mrows_len]; exact hn) (fun i hi => by rw [mrows_len] at hi; rw [mrows_row 1 M hi]; exact hl i hi) (by omega) (by omega)
  rw [pre_mrows 1 M (by rw [mrows_len]; exact Nat.le_refl _), mrows_len] at this
  exact this

end Go.Proofs.Yticcjdcglfiggaa

/- Whether a hull stands, as a plain function; contracts of the program's and the specification's Stands. Written by wip/mkstands.py. -/
namespace Go.Proofs.Yticcjdcglfiggaa
open Go.RowKit

def standsB (step rise : Int) (R : List (List Int)) (L : List I3) (T : List I2) (Q : List I3) (f : I2) : Bool :=
  massesB L && decide ((load L).1 ≠ 0) && roomsB step rise R Q && tanksB T && leastB f
def holed (S K : Int) (M : List (List Int)) (L : List I3) (T : List I2) (f : I2) : Int :=
  if afloat S K M (load L).1 < 0 then 2 else if metaB S K M (afloat S K M (load L).1) L T = true ∧ lessB (metaV S K M (afloat S K M (load L).1) L T) f = false then 0 else 3
def stands (step rise : Int) (R : List (List Int)) (L : List I3) (T : List I2) (Q : List I3) (f : I2) : Int :=
  if standsB step rise R L T Q f = true then holed (fStep step rise R Q) (fRise step rise R Q) (fRows step rise R Q) L T f else 1

theorem stands_bad {step rise : Int} {R : List (List Int)} {L : List I3} {T : List I2} {Q : List I3} {f : I2} (h : standsB step rise R L T Q f = false) : stands step rise R L T Q f = 1 := by simp [stands, h]

theorem metaV_bd {step rise : Int} {R : List (List Int)} {c : Int} {L : List I3} {T : List I2} (h : metaB step rise R c L T = true) :
    (-200000000000000000 ≤ (metaV step rise R c L T).1 ∧ (metaV step rise R c L T).1 ≤ 200000000000000000) ∧ 0 < (metaV step rise R c L T).2 ∧ (metaV step rise R c L T).2 ≤ 200000000000000 := by
  rw [metaV, if_pos h]
  unfold metaB at h
  simp only [Bool.and_eq_true, decide_eq_true_eq] at h
  obtain ⟨⟨⟨h1, h2⟩, h3⟩, h4⟩ := h
  have hH := height_bd step rise R c
  have hI := inertia_bd step rise R c
  have hS := surf_bd h4
  have hV := volume_bd step rise R c
  have hL := load_bd L
  have p1 := prod_bd (a := 3 * height step rise R c + 4 * inertia step rise R c - surf T) (b := (load L).1) (A := 70000000000) (B := 400000) (by omega) (by omega) hL.1.1 hL.1.2
  have p2 := prod_bd (a := 6 * volume step rise R c) (b := (load L).2.2) (A := 288000000) (B := 400000000) (by omega) (by omega) hL.2.1 hL.2.2
  have p3 := prod_bd (a := 6 * volume step rise R c) (b := (load L).1) (A := 288000000) (B := 400000) (by omega) (by omega) hL.1.1 hL.1.2
  have p4 : 0 < 6 * volume step rise R c * (load L).1 := Int.mul_pos (by omega) (by omega)
  have n1 : -200000000000000000 ≤ metaNum step rise R c L T ∧ metaNum step rise R c L T ≤ 200000000000000000 := by unfold metaNum; omega
  have n2 : 0 < metaDen step rise R c L ∧ metaDen step rise R c L ≤ 200000000000000 := by unfold metaDen; omega
  generalize metaNum step rise R c L T = N at *
  generalize metaDen step rise R c L = D at *
  obtain ⟨g1, g2⟩ := gcd_range (num := N) n2.1
  have a1 := tdiv_abs N (Int.gcd N D : Int)
  unfold lowV
  refine ⟨⟨?_, ?_⟩, ?_, ?_⟩
  · dsimp only; omega
  · dsimp only; omega
  · exact Int.ediv_pos_of_pos_of_dvd n2.1 (Int.le_of_lt g1) (Int.gcd_dvd_right ..)
  · exact Int.le_trans (Int.ediv_le_self _ (Int.le_of_lt n2.1)) n2.2

set_option maxHeartbeats 3200000 in
theorem implStands_any (step rise : Int) (v0 : Value) (R : List (List Int)) (v1 : Value) (L : List I3) (v2' : Value) (T : List I2) (v3' : Value) (Q : List I3) (x4a x4b : Int) (w : World) (h0 : RowsIn w v0 R) (h1 : R3 w v1 L) (h2 : R2 w v2' T) (h3 : R3 w v3' Q) :
    Calls Try.prog 24 #[hullV step rise v0, v1, v2', v3', v2 (x4a, x4b)] w fun e w' => e = .returned (.int .i64 (stands step rise R L T Q (x4a, x4b))) ∧ Below w.heap.size w w' := by
  have HV0 := hide h0
  obtain ⟨ao0, cap0, rfl, hl0, hm0, hc0⟩ := h0
  clear hc0 hl0 hm0
  have HV1 := hide h1
  obtain ⟨ao1, cap1, rfl, hl1, hm1, hc1⟩ := h1
  clear hc1 hl1 hm1
  have HV2 := hide h2
  obtain ⟨ao2, cap2, rfl, hl2, hm2, hc2⟩ := h2
  clear hc2 hl2 hm2
  have HV3 := hide h3
  obtain ⟨ao3, cap3, rfl, hl3, hm3, hc3⟩ := h3
  clear hc3 hl3 hm3
  have HX : Hid (∀ x, x = stands step rise R L T Q (x4a, x4b) → x = stands step rise R L T Q (x4a, x4b)) := fun _ h => h
  clear HX
  have HW := hide (Below.refl w.heap.size w)
  unfold hullV v2
  go_enter Try.func24, Try.ntmps24
  have AHB0 := Below.alloc1 (w) (.cells #[.int .i64 step, .int .i64 rise, .slice ao0 R.length cap0] 26)
  replace HW := hide (Below.step (unhide HW) AHB0)
  have HB0 := hide (ownV_alloc (w) #[.int .i64 step, .int .i64 rise, .slice ao0 R.length cap0] 26)
  clear AHB0
  have AHB4 := Below.alloc1 ((w).alloc (.cells #[.int .i64 step, .int .i64 rise, .slice ao0 R.length cap0] 26)) (.cells #[.int .i64 x4a, .int .i64 x4b] 44)
  replace HW := hide (Below.step (unhide HW) AHB4)
  replace HB0 := hide (OwnV.step (unhide HB0) AHB4)
  have HB4 : Hid (OwnV (((w).alloc (.cells #[.int .i64 step, .int .i64 rise, .slice ao0 R.length cap0] 26)).alloc (.cells #[.int .i64 x4a, .int .i64 x4b] 44)) (w.heap.size + 1) [.int .i64 x4a, .int .i64 x4b]) := by
    have h := ownV_alloc ((w).alloc (.cells #[.int .i64 step, .int .i64 rise, .slice ao0 R.length cap0] 26)) #[.int .i64 x4a, .int .i64 x4b] 44
    simp only [World.size_alloc] at h
    exact h
  clear AHB4
  go_wp2_with fail
  refine (implLoadOf_any _ L _ ((unhide HV1).below (unhide HW))).mono ?_
  rintro e w1 ⟨rfl, hb⟩
  replace HW := hide (Below.step (unhide HW) hb)
  replace HB0 := hide (OwnV.step (unhide HB0) hb)
  replace HB4 := hide (OwnV.step (unhide HB4) hb)
  have zw1 := hb.size
  simp only [World.size_alloc] at zw1
  clear hb
  have hld := load_bd L
  obtain ⟨⟨Wt, MX, MZ⟩, el⟩ : ∃ x, x = load L := ⟨_, rfl⟩
  rw [← el] at hld ⊢
  dsimp only at hld
  have EL := hide el
  clear el
  obtain ⟨⟨l1, l2⟩, _, _⟩ := hld
  have AHD := Below.alloc1 (w1) (.cells #[.int .i64 Wt, .int .i64 MX, .int .i64 MZ] 93)
  replace HW := hide (Below.step (unhide HW) AHD)
  replace HB0 := hide (OwnV.step (unhide HB0) AHD)
  replace HB4 := hide (OwnV.step (unhide HB4) AHD)
  have HD := hide (ownV_alloc (w1) #[.int .i64 Wt, .int .i64 MX, .int .i64 MZ] 93)
  clear AHD
  have cHD0 := OwnV.cell (unhide HD) (i := 0) rfl
  have cHD1 := OwnV.cell (unhide HD) (i := 1) rfl
  have cHD2 := OwnV.cell (unhide HD) (i := 2) rfl
  cases k1 : massesB L
  case false =>
    have HK : Hid (stands step rise R L T Q (x4a, x4b) = 1) := stands_bad (by unfold standsB; simp [k1])
    go_wp2
    go_ret
    exact ⟨ret_int (unhide HK).symm, unhide HW⟩
  by_cases k2 : Wt = 0
  case pos =>
    have HK : Hid (stands step rise R L T Q (x4a, x4b) = 1) := stands_bad (by unfold standsB; rw [← unhide EL]; simp [k2])
    subst k2
    go_wp2
    go_ret
    exact ⟨ret_int (unhide HK).symm, unhide HW⟩
  have z2 : (Wt == 0) = false := by simp [k2]
  clear cHD0 cHD1 cHD2
  have cHB00 := OwnV.cell (unhide HB0) (i := 0) rfl
  have cHB01 := OwnV.cell (unhide HB0) (i := 1) rfl
  have cHB02 := OwnV.cell (unhide HB0) (i := 2) rfl
  have cHD0 := OwnV.cell (unhide HD) (i := 0) rfl
  have cHD1 := OwnV.cell (unhide HD) (i := 1) rfl
  have cHD2 := OwnV.cell (unhide HD) (i := 2) rfl
  go_wp2_with fail
  refine (implRoomsOk_any step rise _ R _ Q _ ((unhide HV0).below (unhide HW)) ((unhide HV3).below (unhide HW))).mono ?_
  rintro e w2 ⟨rfl, hb⟩
  clear cHB00 cHB01 cHB02 cHD0 cHD1 cHD2
  replace HW := hide (Below.step (unhide HW) hb)
  replace HB0 := hide (OwnV.step (unhide HB0) hb)
  replace HB4 := hide (OwnV.step (unhide HB4) hb)
  replace HD := hide (OwnV.step (unhide HD) hb)
  have zw2 := hb.size
  simp only [World.size_alloc] at zw2
  clear hb
  have cHB40 := OwnV.cell (unhide HB4) (i := 0) rfl
  have cHB41 := OwnV.cell (unhide HB4) (i := 1) rfl
  have cHD0 := OwnV.cell (unhide HD) (i := 0) rfl
  have cHD1 := OwnV.cell (unhide HD) (i := 1) rfl
  have cHD2 := OwnV.cell (unhide HD) (i := 2) rfl
  cases k3 : roomsB step rise R Q
  case false =>
    have HK : Hid (stands step rise R L T Q (x4a, x4b) = 1) := stands_bad (by unfold standsB; simp [k3])
    go_wp2
    go_ret
    exact ⟨ret_int (unhide HK).symm, unhide HW⟩
  go_wp2_with fail
  refine (tanksOk_any _ T _ ((unhide HV2).below (unhide HW))).mono ?_
  rintro e w3 ⟨rfl, hb⟩
  clear cHB40 cHB41 cHD0 cHD1 cHD2
  replace HW := hide (Below.step (unhide HW) hb)
  replace HB0 := hide (OwnV.step (unhide HB0) hb)
  replace HB4 := hide (OwnV.step (unhide HB4) hb)
  replace HD := hide (OwnV.step (unhide HD) hb)
  have zw3 := hb.size
  clear hb
  have cHB40 := OwnV.cell (unhide HB4) (i := 0) rfl
  have cHB41 := OwnV.cell (unhide HB4) (i := 1) rfl
  cases k4 : tanksB T
  case false =>
    have HK : Hid (stands step rise R L T Q (x4a, x4b) = 1) := stands_bad (by unfold standsB; simp [k4])
    go_wp2
    go_ret
    exact ⟨ret_int (unhide HK).symm, unhide HW⟩
  go_wp2_with fail
  refine (leastOk_any x4a x4b _).mono ?_
  rintro e w4 ⟨rfl, hb⟩
  clear cHB40 cHB41
  replace HW := hide (Below.step (unhide HW) hb)
  replace HB0 := hide (OwnV.step (unhide HB0) hb)
  replace HB4 := hide (OwnV.step (unhide HB4) hb)
  replace HD := hide (OwnV.step (unhide HD) hb)
  have zw4 := hb.size
  clear hb
  cases k5 : leastB (x4a, x4b)
  case false =>
    have HK : Hid (stands step rise R L T Q (x4a, x4b) = 1) := stands_bad (by unfold standsB; simp [k5])
    go_wp2
    go_ret
    exact ⟨ret_int (unhide HK).symm, unhide HW⟩
  have HS : Hid (stands step rise R L T Q (x4a, x4b) = holed (fStep step rise R Q) (fRise step rise R Q) (fRows step rise R Q) L T (x4a, x4b)) := by show _ = _; rw [stands, if_pos (by unfold standsB; rw [← unhide EL]; simp [k1, k2, k3, k4, k5])]
  have hle : (-1000 ≤ x4a ∧ x4a ≤ 1000) ∧ 1 ≤ x4b ∧ x4b ≤ 1000 := by unfold leastB at k5; simp only [Bool.and_eq_true] at k5; exact ⟨inB_true k5.1.1, inB_true k5.1.2⟩
  obtain ⟨⟨e1, e2⟩, e3', e4⟩ := hle
  have cHB00 := OwnV.cell (unhide HB0) (i := 0) rfl
  have cHB01 := OwnV.cell (unhide HB0) (i := 1) rfl
  have cHB02 := OwnV.cell (unhide HB0) (i := 2) rfl
  go_wp2_with fail
  clear k1 k3 k4 k5 z2
  refine (implFlood_any step rise _ R _ Q _ ((unhide HV0).below (unhide HW)) ((unhide HV3).below (unhide HW))).mono ?_
  rintro e w5 ⟨a0, n0, cp0, rfl, hr, hb⟩
  clear cHB00 cHB01 cHB02
  replace HW := hide (Below.step (unhide HW) hb)
  replace HB0 := hide (OwnV.step (unhide HB0) hb)
  replace HB4 := hide (OwnV.step (unhide HB4) hb)
  replace HD := hide (OwnV.step (unhide HD) hb)
  have hr := hr.upto.inn
  have HR := hide hr
  have zw5 := hb.size
  clear hb hr
  obtain ⟨S, eS⟩ : ∃ x, x = fStep step rise R Q := ⟨_, rfl⟩
  obtain ⟨K, eK⟩ : ∃ x, x = fRise step rise R Q := ⟨_, rfl⟩
  obtain ⟨M, eM⟩ : ∃ x, x = fRows step rise R Q := ⟨_, rfl⟩
  rw [← eS, ← eK, ← eM] at HS
  rw [← eM] at HR
  rw [← eS, ← eK]
  clear eS eK eM
  have AHH := Below.alloc1 (w5) (.cells #[.int .i64 S, .int .i64 K, .slice a0 n0 cp0] 26)
  replace HW := hide (Below.step (unhide HW) AHH)
  replace HB0 := hide (OwnV.step (unhide HB0) AHH)
  replace HB4 := hide (OwnV.step (unhide HB4) AHH)
  replace HD := hide (OwnV.step (unhide HD) AHH)
  replace HR := hide ((unhide HR).below AHH)
  have HH := hide (ownV_alloc (w5) #[.int .i64 S, .int .i64 K, .slice a0 n0 cp0] 26)
  clear AHH
  have cHH0 := OwnV.cell (unhide HH) (i := 0) rfl
  have cHH1 := OwnV.cell (unhide HH) (i := 1) rfl
  have cHH2 := OwnV.cell (unhide HH) (i := 2) rfl
  have cHD0 := OwnV.cell (unhide HD) (i := 0) rfl
  have cHD1 := OwnV.cell (unhide HD) (i := 1) rfl
  have cHD2 := OwnV.cell (unhide HD) (i := 2) rfl
  go_wp2_with fail
  refine (implAfloat_any S K _ M Wt _ (unhide HR)).mono ?_
  rintro e w6 ⟨rfl, hb⟩
  clear cHH0 cHH1 cHH2 cHD0 cHD1 cHD2
  replace HW := hide (Below.step (unhide HW) hb)
  replace HB0 := hide (OwnV.step (unhide HB0) hb)
  replace HB4 := hide (OwnV.step (unhide HB4) hb)
  replace HD := hide (OwnV.step (unhide HD) hb)
  replace HR := hide ((unhide HR).below hb)
  replace HH := hide (OwnV.step (unhide HH) hb)
  have zw6 := hb.size
  simp only [World.size_alloc] at zw6
  clear hb
  have HQ : Hid (holed S K M L T (x4a, x4b) = if afloat S K M Wt < 0 then 2 else if metaB S K M (afloat S K M Wt) L T = true ∧ lessB (metaV S K M (afloat S K M Wt) L T) (x4a, x4b) = false then 0 else 3) := by show _ = _; rw [holed, ← unhide EL]
  generalize afloat S K M Wt = A at *
  by_cases ha : A < 0
  case pos =>
    rw [if_pos ha] at HQ
    have HK : Hid (stands step rise R L T Q (x4a, x4b) = 2) := (unhide HS).trans (unhide HQ)
    go_wp2
    go_ret
    exact ⟨ret_int (unhide HK).symm, unhide HW⟩
  rw [if_neg ha] at HQ
  have cHH0 := OwnV.cell (unhide HH) (i := 0) rfl
  have cHH1 := OwnV.cell (unhide HH) (i := 1) rfl
  have cHH2 := OwnV.cell (unhide HH) (i := 2) rfl
  go_wp2_with fail
  refine (implMetacentre_any S K _ M A _ L _ T _ (unhide HR) ((unhide HV1).below (unhide HW)) ((unhide HV2).below (unhide HW))).mono ?_
  rintro e w7 ⟨rfl, hb⟩
  clear cHH0 cHH1 cHH2
  clear HR HH HD HB0
  replace HW := hide (Below.step (unhide HW) hb)
  replace HB4 := hide (OwnV.step (unhide HB4) hb)
  have zw7 := hb.size
  clear hb
  have HB : Hid (metaB S K M A L T = true → (-200000000000000000 ≤ (metaV S K M A L T).1 ∧ (metaV S K M A L T).1 ≤ 200000000000000000) ∧ 0 < (metaV S K M A L T).2 ∧ (metaV S K M A L T).2 ≤ 200000000000000) := metaV_bd
  generalize metaB S K M A L T = kb at *
  generalize metaV S K M A L T = X at *
  obtain ⟨N, D⟩ := X
  have AHF := Below.alloc1 (w7) (.cells #[.int .i64 N, .int .i64 D] 44)
  replace HW := hide (Below.step (unhide HW) AHF)
  replace HB4 := hide (OwnV.step (unhide HB4) AHF)
  have HF := hide (ownV_alloc (w7) #[.int .i64 N, .int .i64 D] 44)
  clear AHF
  cases kb
  case false =>
    rw [if_neg (by simp)] at HQ
    have HK : Hid (stands step rise R L T Q (x4a, x4b) = 3) := (unhide HS).trans (unhide HQ)
    go_wp2
    go_ret
    exact ⟨ret_int (unhide HK).symm, unhide HW⟩
  obtain ⟨⟨b1, b2⟩, b3, b4⟩ := unhide HB rfl
  dsimp only at b1 b2 b3 b4
  have cHF0 := OwnV.cell (unhide HF) (i := 0) rfl
  have cHF1 := OwnV.cell (unhide HF) (i := 1) rfl
  have cHB40 := OwnV.cell (unhide HB4) (i := 0) rfl
  have cHB41 := OwnV.cell (unhide HB4) (i := 1) rfl
  go_wp2_with fail
  refine (isLess_any N D x4a x4b _ b1 b2 b3 b4 e1 e2 e3' e4).mono ?_
  rintro e w8 ⟨rfl, hb⟩
  clear cHF0 cHF1 cHB40 cHB41
  replace HW := hide (Below.step (unhide HW) hb)
  replace HB4 := hide (OwnV.step (unhide HB4) hb)
  replace HF := hide (OwnV.step (unhide HF) hb)
  have zw8 := hb.size
  simp only [World.size_alloc] at zw8
  clear hb b1 b2 b3 b4
  cases kl : lessB (N, D) (x4a, x4b)
  case true =>
    rw [if_neg (by simp [kl])] at HQ
    have HK : Hid (stands step rise R L T Q (x4a, x4b) = 3) := (unhide HS).trans (unhide HQ)
    go_wp2
    go_ret
    exact ⟨ret_int (unhide HK).symm, unhide HW⟩
  rw [if_pos (by simp [kl])] at HQ
  have HK : Hid (stands step rise R L T Q (x4a, x4b) = 0) := (unhide HS).trans (unhide HQ)
  go_wp2
  go_ret
  exact ⟨ret_int (unhide HK).symm, unhide HW⟩

set_option maxHeartbeats 3200000 in
theorem specStands_any (step rise : Int) (v0 : Value) (R : List (List Int)) (v1 : Value) (L : List I3) (v2' : Value) (T : List I2) (v3' : Value) (Q : List I3) (x4a x4b : Int) (w : World) (h0 : RowsIn w v0 R) (h1 : R3 w v1 L) (h2 : R2 w v2' T) (h3 : R3 w v3' Q) :
    Calls Try.prog 38 #[hullV step rise v0, v1, v2', v3', v2 (x4a, x4b)] w fun e w' => e = .returned (.int .i64 (stands step rise R L T Q (x4a, x4b))) ∧ Below w.heap.size w w' := by
  have HV0 := hide h0
  obtain ⟨ao0, cap0, rfl, hl0, hm0, hc0⟩ := h0
  clear hc0 hl0 hm0
  have HV1 := hide h1
  obtain ⟨ao1, cap1, rfl, hl1, hm1, hc1⟩ := h1
  clear hc1 hl1 hm1
  have HV2 := hide h2
  obtain ⟨ao2, cap2, rfl, hl2, hm2, hc2⟩ := h2
  clear hc2 hl2 hm2
  have HV3 := hide h3
  obtain ⟨ao3, cap3, rfl, hl3, hm3, hc3⟩ := h3
  clear hc3 hl3 hm3
  have HX : Hid (∀ x, x = stands step rise R L T Q (x4a, x4b) → x = stands step rise R L T Q (x4a, x4b)) := fun _ h => h
  clear HX
  have HW := hide (Below.refl w.heap.size w)
  unfold hullV v2
  go_enter Try.func38, Try.ntmps38
  have AHB0 := Below.alloc1 (w) (.cells #[.int .i64 step, .int .i64 rise, .slice ao0 R.length cap0] 26)
  replace HW := hide (Below.step (unhide HW) AHB0)
  have HB0 := hide (ownV_alloc (w) #[.int .i64 step, .int .i64 rise, .slice ao0 R.length cap0] 26)
  clear AHB0
  have AHB4 := Below.alloc1 ((w).alloc (.cells #[.int .i64 step, .int .i64 rise, .slice ao0 R.length cap0] 26)) (.cells #[.int .i64 x4a, .int .i64 x4b] 44)
  replace HW := hide (Below.step (unhide HW) AHB4)
  replace HB0 := hide (OwnV.step (unhide HB0) AHB4)
  have HB4 : Hid (OwnV (((w).alloc (.cells #[.int .i64 step, .int .i64 rise, .slice ao0 R.length cap0] 26)).alloc (.cells #[.int .i64 x4a, .int .i64 x4b] 44)) (w.heap.size + 1) [.int .i64 x4a, .int .i64 x4b]) := by
    have h := ownV_alloc ((w).alloc (.cells #[.int .i64 step, .int .i64 rise, .slice ao0 R.length cap0] 26)) #[.int .i64 x4a, .int .i64 x4b] 44
    simp only [World.size_alloc] at h
    exact h
  clear AHB4
  go_wp2_with fail
  refine (specLoadOf_any _ L _ ((unhide HV1).below (unhide HW))).mono ?_
  rintro e w1 ⟨rfl, hb⟩
  replace HW := hide (Below.step (unhide HW) hb)
  replace HB0 := hide (OwnV.step (unhide HB0) hb)
  replace HB4 := hide (OwnV.step (unhide HB4) hb)
  have zw1 := hb.size
  simp only [World.size_alloc] at zw1
  clear hb
  have hld := load_bd L
  obtain ⟨⟨Wt, MX, MZ⟩, el⟩ : ∃ x, x = load L := ⟨_, rfl⟩
  rw [← el] at hld ⊢
  dsimp only at hld
  have EL := hide el
  clear el
  obtain ⟨⟨l1, l2⟩, _, _⟩ := hld
  have AHD := Below.alloc1 (w1) (.cells #[.int .i64 Wt, .int .i64 MX, .int .i64 MZ] 93)
  replace HW := hide (Below.step (unhide HW) AHD)
  replace HB0 := hide (OwnV.step (unhide HB0) AHD)
  replace HB4 := hide (OwnV.step (unhide HB4) AHD)
  have HD := hide (ownV_alloc (w1) #[.int .i64 Wt, .int .i64 MX, .int .i64 MZ] 93)
  clear AHD
  have cHB00 := OwnV.cell (unhide HB0) (i := 0) rfl
  have cHB01 := OwnV.cell (unhide HB0) (i := 1) rfl
  have cHB02 := OwnV.cell (unhide HB0) (i := 2) rfl
  have cHD0 := OwnV.cell (unhide HD) (i := 0) rfl
  have cHD1 := OwnV.cell (unhide HD) (i := 1) rfl
  have cHD2 := OwnV.cell (unhide HD) (i := 2) rfl
  go_wp2_with fail
  refine (specRoomsOk_any step rise _ R _ Q _ ((unhide HV0).below (unhide HW)) ((unhide HV3).below (unhide HW))).mono ?_
  rintro e w2 ⟨rfl, hb⟩
  clear cHB00 cHB01 cHB02 cHD0 cHD1 cHD2
  replace HW := hide (Below.step (unhide HW) hb)
  replace HB0 := hide (OwnV.step (unhide HB0) hb)
  replace HB4 := hide (OwnV.step (unhide HB4) hb)
  replace HD := hide (OwnV.step (unhide HD) hb)
  have zw2 := hb.size
  simp only [World.size_alloc] at zw2
  clear hb
  have cHB40 := OwnV.cell (unhide HB4) (i := 0) rfl
  have cHB41 := OwnV.cell (unhide HB4) (i := 1) rfl
  have cHD0 := OwnV.cell (unhide HD) (i := 0) rfl
  have cHD1 := OwnV.cell (unhide HD) (i := 1) rfl
  have cHD2 := OwnV.cell (unhide HD) (i := 2) rfl
  cases k3 : roomsB step rise R Q
  case false =>
    have HK : Hid (stands step rise R L T Q (x4a, x4b) = 1) := stands_bad (by unfold standsB; simp [k3])
    go_wp2
    go_ret
    exact ⟨ret_int (unhide HK).symm, unhide HW⟩
  cases k1 : massesB L
  case false =>
    have HK : Hid (stands step rise R L T Q (x4a, x4b) = 1) := stands_bad (by unfold standsB; simp [k1])
    go_wp2
    go_ret
    exact ⟨ret_int (unhide HK).symm, unhide HW⟩
  by_cases k2 : Wt = 0
  case pos =>
    have HK : Hid (stands step rise R L T Q (x4a, x4b) = 1) := stands_bad (by unfold standsB; rw [← unhide EL]; simp [k2])
    subst k2
    go_wp2
    go_ret
    exact ⟨ret_int (unhide HK).symm, unhide HW⟩
  have z2 : (Wt == 0) = false := by simp [k2]
  go_wp2_with fail
  refine (l2Tanks_any _ T _ ((unhide HV2).below (unhide HW))).mono ?_
  rintro e w3 ⟨rfl, hb⟩
  clear cHB40 cHB41 cHD0 cHD1 cHD2
  replace HW := hide (Below.step (unhide HW) hb)
  replace HB0 := hide (OwnV.step (unhide HB0) hb)
  replace HB4 := hide (OwnV.step (unhide HB4) hb)
  replace HD := hide (OwnV.step (unhide HD) hb)
  have zw3 := hb.size
  clear hb
  have cHB40 := OwnV.cell (unhide HB4) (i := 0) rfl
  have cHB41 := OwnV.cell (unhide HB4) (i := 1) rfl
  cases k4 : tanksB T
  case false =>
    have HK : Hid (stands step rise R L T Q (x4a, x4b) = 1) := stands_bad (by unfold standsB; simp [k4])
    go_wp2
    go_ret
    exact ⟨ret_int (unhide HK).symm, unhide HW⟩
  go_wp2_with fail
  refine (l2FracOk_any x4a x4b _).mono ?_
  rintro e w4 ⟨rfl, hb⟩
  clear cHB40 cHB41
  replace HW := hide (Below.step (unhide HW) hb)
  replace HB0 := hide (OwnV.step (unhide HB0) hb)
  replace HB4 := hide (OwnV.step (unhide HB4) hb)
  replace HD := hide (OwnV.step (unhide HD) hb)
  have zw4 := hb.size
  clear hb
  cases k5 : leastB (x4a, x4b)
  case false =>
    have HK : Hid (stands step rise R L T Q (x4a, x4b) = 1) := stands_bad (by unfold standsB; simp [k5])
    go_wp2
    go_ret
    exact ⟨ret_int (unhide HK).symm, unhide HW⟩
  have HS : Hid (stands step rise R L T Q (x4a, x4b) = holed (fStep step rise R Q) (fRise step rise R Q) (fRows step rise R Q) L T (x4a, x4b)) := by show _ = _; rw [stands, if_pos (by unfold standsB; rw [← unhide EL]; simp [k1, k2, k3, k4, k5])]
  have hle : (-1000 ≤ x4a ∧ x4a ≤ 1000) ∧ 1 ≤ x4b ∧ x4b ≤ 1000 := by unfold leastB at k5; simp only [Bool.and_eq_true] at k5; exact ⟨inB_true k5.1.1, inB_true k5.1.2⟩
  obtain ⟨⟨e1, e2⟩, e3', e4⟩ := hle
  have cHB00 := OwnV.cell (unhide HB0) (i := 0) rfl
  have cHB01 := OwnV.cell (unhide HB0) (i := 1) rfl
  have cHB02 := OwnV.cell (unhide HB0) (i := 2) rfl
  go_wp2_with fail
  clear k1 k3 k4 k5 z2
  refine (specFlood_any step rise _ R _ Q _ ((unhide HV0).below (unhide HW)) ((unhide HV3).below (unhide HW))).mono ?_
  rintro e w5 ⟨a0, n0, cp0, rfl, hr, hb⟩
  clear cHB00 cHB01 cHB02
  replace HW := hide (Below.step (unhide HW) hb)
  replace HB0 := hide (OwnV.step (unhide HB0) hb)
  replace HB4 := hide (OwnV.step (unhide HB4) hb)
  replace HD := hide (OwnV.step (unhide HD) hb)
  have hr := hr
  have HR := hide hr
  have zw5 := hb.size
  clear hb hr
  obtain ⟨S, eS⟩ : ∃ x, x = fStep step rise R Q := ⟨_, rfl⟩
  obtain ⟨K, eK⟩ : ∃ x, x = fRise step rise R Q := ⟨_, rfl⟩
  obtain ⟨M, eM⟩ : ∃ x, x = fRows step rise R Q := ⟨_, rfl⟩
  rw [← eS, ← eK, ← eM] at HS
  rw [← eM] at HR
  rw [← eS, ← eK]
  clear eS eK eM
  have AHH := Below.alloc1 (w5) (.cells #[.int .i64 S, .int .i64 K, .slice a0 n0 cp0] 26)
  replace HW := hide (Below.step (unhide HW) AHH)
  replace HB0 := hide (OwnV.step (unhide HB0) AHH)
  replace HB4 := hide (OwnV.step (unhide HB4) AHH)
  replace HD := hide (OwnV.step (unhide HD) AHH)
  replace HR := hide ((unhide HR).below AHH)
  have HH := hide (ownV_alloc (w5) #[.int .i64 S, .int .i64 K, .slice a0 n0 cp0] 26)
  clear AHH
  have cHH0 := OwnV.cell (unhide HH) (i := 0) rfl
  have cHH1 := OwnV.cell (unhide HH) (i := 1) rfl
  have cHH2 := OwnV.cell (unhide HH) (i := 2) rfl
  have cHD0 := OwnV.cell (unhide HD) (i := 0) rfl
  have cHD1 := OwnV.cell (unhide HD) (i := 1) rfl
  have cHD2 := OwnV.cell (unhide HD) (i := 2) rfl
  go_wp2_with fail
  refine (specAfloat_any S K _ M Wt _ (unhide HR)).mono ?_
  rintro e w6 ⟨rfl, hb⟩
  clear cHH0 cHH1 cHH2 cHD0 cHD1 cHD2
  replace HW := hide (Below.step (unhide HW) hb)
  replace HB0 := hide (OwnV.step (unhide HB0) hb)
  replace HB4 := hide (OwnV.step (unhide HB4) hb)
  replace HD := hide (OwnV.step (unhide HD) hb)
  replace HR := hide ((unhide HR).below hb)
  replace HH := hide (OwnV.step (unhide HH) hb)
  have zw6 := hb.size
  simp only [World.size_alloc] at zw6
  clear hb
  have HQ : Hid (holed S K M L T (x4a, x4b) = if afloat S K M Wt < 0 then 2 else if metaB S K M (afloat S K M Wt) L T = true ∧ lessB (metaV S K M (afloat S K M Wt) L T) (x4a, x4b) = false then 0 else 3) := by show _ = _; rw [holed, ← unhide EL]
  generalize afloat S K M Wt = A at *
  by_cases ha : A < 0
  case pos =>
    rw [if_pos ha] at HQ
    have HK : Hid (stands step rise R L T Q (x4a, x4b) = 2) := (unhide HS).trans (unhide HQ)
    go_wp2
    go_ret
    exact ⟨ret_int (unhide HK).symm, unhide HW⟩
  rw [if_neg ha] at HQ
  have cHH0 := OwnV.cell (unhide HH) (i := 0) rfl
  have cHH1 := OwnV.cell (unhide HH) (i := 1) rfl
  have cHH2 := OwnV.cell (unhide HH) (i := 2) rfl
  go_wp2_with fail
  refine (specMetacentre_any S K _ M A _ L _ T _ (unhide HR) ((unhide HV1).below (unhide HW)) ((unhide HV2).below (unhide HW))).mono ?_
  rintro e w7 ⟨rfl, hb⟩
  clear cHH0 cHH1 cHH2
  clear HR HH HD HB0
  replace HW := hide (Below.step (unhide HW) hb)
  replace HB4 := hide (OwnV.step (unhide HB4) hb)
  have zw7 := hb.size
  clear hb
  have HB : Hid (metaB S K M A L T = true → (-200000000000000000 ≤ (metaV S K M A L T).1 ∧ (metaV S K M A L T).1 ≤ 200000000000000000) ∧ 0 < (metaV S K M A L T).2 ∧ (metaV S K M A L T).2 ≤ 200000000000000) := metaV_bd
  generalize metaB S K M A L T = kb at *
  generalize metaV S K M A L T = X at *
  obtain ⟨N, D⟩ := X
  have AHF := Below.alloc1 (w7) (.cells #[.int .i64 N, .int .i64 D] 44)
  replace HW := hide (Below.step (unhide HW) AHF)
  replace HB4 := hide (OwnV.step (unhide HB4) AHF)
  have HF := hide (ownV_alloc (w7) #[.int .i64 N, .int .i64 D] 44)
  clear AHF
  cases kb
  case false =>
    rw [if_neg (by simp)] at HQ
    have HK : Hid (stands step rise R L T Q (x4a, x4b) = 3) := (unhide HS).trans (unhide HQ)
    go_wp2
    go_ret
    exact ⟨ret_int (unhide HK).symm, unhide HW⟩
  obtain ⟨⟨b1, b2⟩, b3, b4⟩ := unhide HB rfl
  dsimp only at b1 b2 b3 b4
  have cHF0 := OwnV.cell (unhide HF) (i := 0) rfl
  have cHF1 := OwnV.cell (unhide HF) (i := 1) rfl
  have cHB40 := OwnV.cell (unhide HB4) (i := 0) rfl
  have cHB41 := OwnV.cell (unhide HB4) (i := 1) rfl
  go_wp2_with fail
  refine (l2Less_any N D x4a x4b _ b1 b2 b3 b4 e1 e2 e3' e4).mono ?_
  rintro e w8 ⟨rfl, hb⟩
  clear cHF0 cHF1 cHB40 cHB41
  replace HW := hide (Below.step (unhide HW) hb)
  replace HB4 := hide (OwnV.step (unhide HB4) hb)
  replace HF := hide (OwnV.step (unhide HF) hb)
  have zw8 := hb.size
  simp only [World.size_alloc] at zw8
  clear hb b1 b2 b3 b4
  cases kl : lessB (N, D) (x4a, x4b)
  case true =>
    rw [if_neg (by simp [kl])] at HQ
    have HK : Hid (stands step rise R L T Q (x4a, x4b) = 3) := (unhide HS).trans (unhide HQ)
    go_wp2
    go_ret
    exact ⟨ret_int (unhide HK).symm, unhide HW⟩
  rw [if_pos (by simp [kl])] at HQ
  have HK : Hid (stands step rise R L T Q (x4a, x4b) = 0) := (unhide HS).trans (unhide HQ)
  go_wp2
  go_ret
  exact ⟨ret_int (unhide HK).symm, unhide HW⟩

end Go.Proofs.Yticcjdcglfiggaa

/- Own words: a slice of slices of flat records, read in a world; one that is being made. No statement about the program stands here. -/
namespace Go.Proofs.Yticcjdcglfiggaa
open Go.RowKit

/-- The slice value v holds the lists LL of records in w. -/
def RecssIn {α : Type} [Inhabited α] (n : Nat) (enc : α → Nat → Value) (w : World) (v : Value) (LL : List (List α)) : Prop :=
  ∃ ao cap, v = .slice ao LL.length cap ∧ LL.length ≤ cap ∧ cap ≤ maxLen ∧ ∀ r, r < LL.length → ∃ b o vr, ao = some ⟨b, o, none⟩ ∧ w.cell? ⟨b, o + r, none⟩ = some vr ∧ RecsIn n enc w vr (LL.getD r [])

abbrev RR3 := RecssIn 3 e3
abbrev RR2 := RecssIn 2 e2

section
variable {α : Type} [Inhabited α] {n : Nat} {enc : α → Nat → Value} {w w' : World} {v : Value} {LL : List (List α)}

theorem RecssIn.below (h : RecssIn n enc w v LL) (hb : Below w.heap.size w w') : RecssIn n enc w' v LL := by
  obtain ⟨ao, cap, e, h1, h2, h3⟩ := h
  refine ⟨ao, cap, e, h1, h2, fun i hi => ?_⟩
  obtain ⟨b, o, vr, e1, hc, hr⟩ := h3 i hi
  exact ⟨b, o, vr, e1, (hb.cell (lt_of_cell hc)).trans hc, hr.below hb⟩

theorem RecssIn.inn (h : RecssIn n enc w v LL) : RecssIn n enc w v LL := h

/-- One row, its value written out, its length a number of its own. -/
theorem recsAt {ao : Option Addr} {k : Nat} (h : ∀ r, r < LL.length → ∃ b o vr, ao = some ⟨b, o, none⟩ ∧ w.cell? ⟨b, o + r, none⟩ = some vr ∧ RecsIn n enc w vr (LL.getD r [])) (hk : k < LL.length) :
    ∃ b o ar m cr, ao = some ⟨b, o, none⟩ ∧ w.cell? ⟨b, o + k, none⟩ = some (.slice ar m cr) ∧ RecsIn n enc w (.slice ar m cr) (LL.getD k []) ∧ Hid ((LL.getD k []).length = m) ∧ m ≤ 9223372036854775807 := by
  obtain ⟨b, o, vr, e1, hc, hr⟩ := h k hk
  have hr' := hr
  obtain ⟨ar, cr, rfl, h1, h2, _⟩ := hr
  exact ⟨b, o, ar, _, cr, e1, hc, hr', rfl, by unfold maxLen at h2; omega⟩
end

/-- A new list of rows, k of them made: row r holds the cells cs r in a block of its own. -/
structure FillT (t : TypeId) (w wr : World) (n : Nat) (len : Nat → Nat) (cs : Nat → List Value) (k : Nat) (G : Nat → Nat) : Prop where
  below : Below w.heap.size w wr
  top : wr.rowIs w.heap.size t n (fun r => if r < k then .slice (some ⟨G r, 0, none⟩) (len r) (len r) else .slice none 0 0)
  rows : ∀ r, r < k → OwnV wr (G r) (cs r)
  above : ∀ r, r < k → w.heap.size < G r

theorem FillT.start (t : TypeId) (w : World) (n : Nat) (len : Nat → Nat) (cs : Nat → List Value) : FillT t w (w.alloc (.cells (madeCells #[.slice none 0 0] n) t)) n len cs 0 (fun _ => 0) :=
  ⟨(Below.refl _ _).alloc (Nat.le_refl _) _, (World.rowIs_made w _ n t).congr (fun j _ => by simp), fun r hr => by omega, fun r hr => by omega⟩

theorem FillT.step {t : TypeId} {w wr w3 : World} {n k g : Nat} {len : Nat → Nat} {cs : Nat → List Value} {G : Nat → Nat} (h : FillT t w wr n len cs k G) (hg : wr.heap.size ≤ g) (ho : OwnV w3 g (cs k)) (hb : Below wr.heap.size wr w3) :
    FillT t w (w3.setCell ⟨w.heap.size, k, none⟩ (.slice (some ⟨g, 0, none⟩) (len k) (len k))) n len cs (k + 1) (fun r => if r = k then g else G r) := by
  have hlt := h.top.lt
  refine ⟨(Below.step h.below hb).setCell (Nat.le_refl _) _, ((h.top.of_block (hb.block _ hlt)).set k _).congr (fun i _ => ?_), fun r hr => ?_, fun r hr => ?_⟩
  · by_cases e : i = k
    · subst e; simp
    · rw [if_neg e]
      by_cases hi : i < k
      · rw [if_pos hi, if_pos (by omega), if_neg e]
      · rw [if_neg hi, if_neg (by omega)]
  · by_cases e : r = k
    · subst e
      simp only [if_true]
      exact ho.other (by show g ≠ w.heap.size; omega) _
    · have hr' : r < k := by omega
      rw [if_neg e]
      exact ((h.rows r hr').below hb (h.rows r hr').lt).other (by have := h.above r hr'; show G r ≠ w.heap.size; omega) _
  · by_cases e : r = k
    · subst e; simp only [if_true]; omega
    · rw [if_neg e]; exact h.above r (by omega)

theorem FillT.cell {t : TypeId} {w wr : World} {n k : Nat} {len : Nat → Nat} {cs : Nat → List Value} {G : Nat → Nat} (h : FillT t w wr n len cs k G) {w3 : World} (hb : Below wr.heap.size wr w3) (hk : k < n) : w3.cell? ⟨w.heap.size, k, none⟩ = some (.slice none 0 0) ∧ w3.frozen? ⟨w.heap.size, k, none⟩ = false := by
  have hbt := h.top.of_block (hb.block _ h.top.lt)
  have h3 := hbt.cell (i := k) hk
  rw [if_neg (Nat.lt_irrefl k)] at h3
  exact ⟨h3, hbt.frozen k⟩

theorem FillT.done {α : Type} [Inhabited α] {m : Nat} {enc : α → Nat → Value} {LL : List (List α)} {t : TypeId} {w wr : World} {G : Nat → Nat} (h : FillT t w wr LL.length (fun r => (LL.getD r []).length) (fun r => recCells m enc (LL.getD r [])) LL.length G)
    (hs : LL.length ≤ 1048576) (hl : ∀ i, i < LL.length → (LL.getD i []).length ≤ 1048576) : RecssIn m enc wr (.slice (some ⟨w.heap.size, 0, none⟩) LL.length LL.length) LL :=
  ⟨_, _, rfl, Nat.le_refl _, by unfold maxLen; omega, fun r hr => ⟨w.heap.size, 0, _, rfl, by rw [Nat.zero_add, h.top.cell hr, if_pos hr], (h.rows r hr).recsIn (Nat.le_refl _) (by have := hl r hr; unfold maxLen; omega)⟩⟩

def SizedLL {α : Type} (LL : List (List α)) (r : Int) : Prop := -1 ≤ r ∧ r ≤ 1048576 ∧ (0 ≤ r → LL.length ≤ 1048576 ∧ ∀ i, i < LL.length → (LL.getD i []).length ≤ 1048576)

end Go.Proofs.Yticcjdcglfiggaa

/- Contracts of the laws' own helpers over lists of lists of Room. Written by wip/mkrecss.py. -/
namespace Go.Proofs.Yticcjdcglfiggaa
open Go.RowKit

set_option maxHeartbeats 400000 in
theorem szRoomSS_any (v : Value) (LL : List (List I3)) (left : Int) (w : World) (h : RR3 w v LL) (h0 : 0 ≤ left) (h1 : left ≤ 1048576) :
    Calls Try.prog 44 #[v, .int .i64 left] w fun e w' => ∃ r, e = .returned (.int .i64 r) ∧ SizedLL LL r ∧ w = w' := by
  obtain ⟨ao, cap, rfl, hl, hm, hc⟩ := h
  unfold maxLen at hm
  have HC := hide hc
  clear hc
  obtain ⟨n, hn⟩ : ∃ n, LL.length = n := ⟨_, rfl⟩
  rw [hn] at hl ⊢
  have HN := hide hn
  clear hn
  by_cases hlt : left < (n : Int)
  · go_enter Try.func44, Try.ntmps44
    go_wp2
    go_ret
    exact ⟨_, rfl, ⟨by omega, by omega, fun h => by omega⟩, rfl⟩
  · go_enter Try.func44, Try.ntmps44
    go_wp2
    go_loopg [1, 5] n (fun g l i wr => w = wr ∧ ∃ k : Nat, ∃ z : Int, k ≤ n ∧ g = n - k ∧ i = .int .i64 k ∧ l = .int .i64 z ∧ 0 ≤ z ∧ z ≤ 1048576 ∧ Hid (∀ r, r < k → (LL.getD r []).length ≤ 1048576))
    case atStart => exact ⟨rfl, 0, _, Nat.zero_le _, rfl, rfl, rfl, by omega, by omega, fun r hr => by omega⟩
    case round =>
      obtain ⟨rfl, k, z, hk, rfl, rfl, rfl, hz0, hz1, HD⟩ := hrel
      by_cases hkn : k < n
      · obtain ⟨b, o, ar, m, cr, rfl, hcell, hrow, EM, hm0⟩ := recsAt (unhide HC) (by rw [unhide HN]; exact hkn)
        have HR := hide (szRoomS_any _ _ z w hrow hz0 hz1)
        clear hrow
        go_wp2_with fail
        refine (unhide HR).mono ?_
        rintro e w' ⟨r, rfl, ⟨s1, s2, s3⟩, rfl⟩
        have HS := hide s3
        clear s3 HR
        by_cases hneg : r < 0
        · go_wp2
          go_ret
          exact ⟨_, rfl, ⟨by omega, by omega, fun h => by omega⟩, rfl⟩
        · go_wp2
          go_roundg (n - (k + 1))
          case measure => omega
          case rel => exact ⟨rfl, k + 1, _, by omega, rfl, by go_num, rfl, by omega, by omega, fun q hq => by
            by_cases e : q = k
            · subst e; exact unhide HS (by omega)
            · exact HD.out q (by omega)⟩
      · go_wp2
        go_ret
        exact ⟨_, rfl, ⟨by omega, by omega, fun h => ⟨by rw [unhide HN]; omega, fun i hi => HD.out i (by rw [unhide HN] at hi; omega)⟩⟩, rfl⟩

theorem Try.infoSlRoom : (Try.prog.info? 38).map (fun i => (i.zero, i.size, i.bytes)) = some (some (.slice none 0 0), 1, 24) := by kernel_rfl

set_option maxHeartbeats 400000 in
theorem toRoomSS_any (v : Value) (LL : List (List I3)) (w : World) (h : RR3 w v LL) (hs : LL.length ≤ 1048576) (hl : ∀ i, i < LL.length → (LL.getD i []).length ≤ 1048576) :
    Calls Try.prog 46 #[v] w fun e w' => ∃ g, e = .returned (.slice (some ⟨g, 0, none⟩) LL.length LL.length) ∧ w.heap.size ≤ g ∧ RR3 w' (.slice (some ⟨g, 0, none⟩) LL.length LL.length) LL ∧ Below w.heap.size w w' := by
  obtain ⟨ao, cap, rfl, hlc, hm, hc⟩ := h
  clear hlc hm
  have HC := hide hc
  have HL := hide hl
  clear hc hl
  have hmk := run_make_row' (P := Try.prog) 45 38 (.slice none 0 0) 24 Try.underlying45 Try.infoSlRoom rfl .i64 .i64 LL.length (by omega) (by omega)
  go_enter Try.func46, Try.ntmps46
  go_wp2
  clear hmk
  go_loopg [4] LL.length (fun g i wr => ∃ k : Nat, ∃ G, k ≤ LL.length ∧ g = LL.length - k ∧ i = .int .i64 k ∧ FillT 38 w wr LL.length (fun r => (LL.getD r []).length) (fun r => recCells 3 e3 (LL.getD r [])) k G)
  case atStart => exact ⟨0, _, Nat.zero_le _, rfl, rfl, FillT.start _ _ _ _ _⟩
  case round =>
    obtain ⟨k, G, hk, rfl, rfl, hF⟩ := hrel
    by_cases hkn : k < LL.length
    · obtain ⟨b, o, ar, m, cr, rfl, hcell, hrow, EM, hm0⟩ := recsAt (unhide HC) hkn
      have g1 : wr.cell? ⟨b, o + k, none⟩ = some (.slice ar m cr) := (hF.below.cell (lt_of_cell hcell)).trans hcell
      have HR := hide (toRoomS_any _ _ wr (hrow.below hF.below) (unhide HL k hkn))
      have HF := hide hF
      clear hcell hF hrow
      go_wp2_with fail
      refine (unhide HR).mono ?_
      rintro e w1 ⟨g, rfl, hg, ho, hb⟩
      obtain ⟨g2, g3⟩ := (unhide HF).cell hb hkn
      have HS := hide ((unhide HF).step hg ho hb)
      clear ho hb HR HF
      rw [unhide EM] at HS ⊢
      go_wp2
      go_roundg (LL.length - (k + 1))
      case measure => omega
      case rel => exact ⟨k + 1, _, by omega, rfl, by go_num, unhide HS⟩
    · have hkk : k = LL.length := by omega
      subst hkk
      go_wp2
      go_ret
      exact ⟨_, rfl, Nat.le_refl _, hF.done hs (unhide HL), hF.below⟩

set_option maxHeartbeats 400000 in
theorem eqRoomSS_any (v v' : Value) (LL : List (List I3)) (w : World) (h : RR3 w v LL) (h' : RR3 w v' LL) :
    Calls Try.prog 47 #[v, v'] w fun e w' => e = .returned (.bool true) ∧ Below w.heap.size w w' := by
  obtain ⟨ao, cap, rfl, hl, hm, hc⟩ := h
  obtain ⟨ao', cap', rfl, _, _, hc'⟩ := h'
  unfold maxLen at hm
  have HC := hide hc
  have HC' := hide hc'
  clear hc hc'
  go_enter Try.func47, Try.ntmps47
  go_wp2
  go_loopg [5] LL.length (fun g i wr => Below w.heap.size w wr ∧ ∃ k : Nat, k ≤ LL.length ∧ g = LL.length - k ∧ i = .int .i64 k)
  case atStart => exact ⟨Below.refl _ _, 0, Nat.zero_le _, rfl, rfl⟩
  case round =>
    obtain ⟨hW, k, hk, rfl, rfl⟩ := hrel
    by_cases hkn : k < LL.length
    · obtain ⟨b, o, ar, m, cr, rfl, hcell, hrow, EM, hm0⟩ := recsAt (unhide HC) hkn
      obtain ⟨b', o', ar', m', cr', rfl, hcell', hrow', EM', hm0'⟩ := recsAt (unhide HC') hkn
      have r0 := fun x' : Gr wr => gr_cell (wcell3 hcell hW) x'
      have r1 := fun x' : Gr wr => gr_cell (wcell3 hcell' hW) x'
      have S1 := hide fun x' : Gr wr => eqRoomS_any _ _ _ x'.val ((hrow.below hW).below x'.ok) ((hrow'.below hW).below x'.ok)
      have HW := hide hW
      have gsome := gr_some wr
      clear hcell hcell' hrow hrow' hW
      go_wp2
      refine wp_region_grown (by kernel_rfl) (by kernel_rfl) ?_
      repeat (go_big_quiet_step (fail))
      go_big_quiet_want
      go_big_quiet_op
      go_big_quiet_call (exact calls_grown (unhide S1 _))
      repeat (go_big_quiet_step (fail))
      refine wpQuiet_nil ?_
      intro w1 hw1
      obtain ⟨z', hz⟩ := hw1
      have hb1 : Below wr.heap.size wr w1 := hz ▸ z'.ok
      clear hz gsome
      go_wp2
      go_roundg (LL.length - (k + 1))
      case measure => omega
      case rel => exact ⟨Below.step (unhide HW) hb1, k + 1, by omega, rfl, by go_num⟩
    · go_wp2
      go_ret
      exact ⟨rfl, hW⟩

end Go.Proofs.Yticcjdcglfiggaa

/- The first case that does not stand well, as a plain function; contracts of the program's and the specification's FirstBad. -/
namespace Go.Proofs.Yticcjdcglfiggaa
open Go.RowKit

def firstBad (step rise : Int) (R : List (List Int)) (L : List I3) (T : List I2) (QQ : List (List I3)) (f : I2) : Int :=
  if QQ.length ≤ 20 then
    match (List.range QQ.length).find? fun k : Nat => decide (stands step rise R L T (QQ.getD k []) f ≠ 0) with
    | some k => (k : Int)
    | none => -1
  else -2

theorem firstBad_some {step rise : Int} {R : List (List Int)} {L : List I3} {T : List I2} {QQ : List (List I3)} {f : I2} {k : Nat} (h1 : QQ.length ≤ 20) (hk : k < QQ.length) (hp : stands step rise R L T (QQ.getD k []) f ≠ 0)
    (hn : ∀ t, t < k → stands step rise R L T (QQ.getD t []) f = 0) : firstBad step rise R L T QQ f = k := by
  unfold firstBad
  rw [if_pos h1]
  have : (List.range QQ.length).find? (fun k : Nat => decide (stands step rise R L T (QQ.getD k []) f ≠ 0)) = some k := by
    rw [List.find?_range_eq_some]
    exact ⟨by simpa using hp, by simpa using hk, fun t ht => by simpa using hn t ht⟩
  rw [this]

theorem firstBad_none {step rise : Int} {R : List (List Int)} {L : List I3} {T : List I2} {QQ : List (List I3)} {f : I2} (h1 : QQ.length ≤ 20) (hn : ∀ t, t < QQ.length → stands step rise R L T (QQ.getD t []) f = 0) : firstBad step rise R L T QQ f = -1 := by
  unfold firstBad
  rw [if_pos h1]
  have : (List.range QQ.length).find? (fun k : Nat => decide (stands step rise R L T (QQ.getD k []) f ≠ 0)) = none := by
    rw [List.find?_eq_none]
    intro t ht
    simpa using hn t (by simpa using ht)
  rw [this]

theorem firstBad_long {step rise : Int} {R : List (List Int)} {L : List I3} {T : List I2} {QQ : List (List I3)} {f : I2} (h1 : ¬ QQ.length ≤ 20) : firstBad step rise R L T QQ f = -2 := by simp [firstBad, h1]

set_option maxHeartbeats 1600000 in
theorem implFirstBad_any (step rise : Int) (v0 : Value) (R : List (List Int)) (v1 : Value) (L : List I3) (v2' : Value) (T : List I2) (v3' : Value) (QQ : List (List I3)) (x4a x4b : Int) (w : World) (h0 : RowsIn w v0 R) (h1 : R3 w v1 L) (h2 : R2 w v2' T) (h3 : RR3 w v3' QQ) :
    Calls Try.prog 23 #[hullV step rise v0, v1, v2', v3', v2 (x4a, x4b)] w fun e w' => e = .returned (.int .i64 (firstBad step rise R L T QQ (x4a, x4b))) ∧ Below w.heap.size w w' := by
  have HV0 := hide h0
  have HV1 := hide h1
  have HV2 := hide h2
  obtain ⟨ao0, cap0, rfl, hl0, hm0, hc0⟩ := h0
  obtain ⟨ao1, cap1, rfl, hl1, hm1, hc1⟩ := h1
  obtain ⟨ao2, cap2, rfl, hl2, hm2, hc2⟩ := h2
  obtain ⟨ao3, cap3, rfl, hl3, hm3, hc3⟩ := h3
  have HC := hide hc3
  unfold maxLen at hm3
  clear hc0 hc1 hc2 hc3 hl0 hl1 hl2 hm0 hm1 hm2
  unfold hullV v2
  obtain ⟨W0, eW0⟩ : ∃ W, W = (w.alloc (.cells #[.int .i64 step, .int .i64 rise, .slice ao0 R.length cap0] 26)).alloc (.cells #[.int .i64 x4a, .int .i64 x4b] 44) := ⟨_, rfl⟩
  have HW0 : Hid (Below w.heap.size w W0) := by show Below _ _ _; rw [eW0]; exact Below.step (Below.alloc1 _ _) (Below.alloc1 _ _)
  have HB0 : Hid (OwnV W0 w.heap.size [.int .i64 step, .int .i64 rise, .slice ao0 R.length cap0]) := by show OwnV _ _ _; rw [eW0]; exact OwnV.alloc (ownV_alloc w #[.int .i64 step, .int .i64 rise, .slice ao0 R.length cap0] _) _
  have HF0 : Hid (OwnV W0 (w.heap.size + 1) [.int .i64 x4a, .int .i64 x4b]) := by
    show OwnV _ _ _
    rw [eW0]
    have h := ownV_alloc (w.alloc (.cells #[.int .i64 step, .int .i64 rise, .slice ao0 R.length cap0] 26)) #[.int .i64 x4a, .int .i64 x4b] 44
    simp only [World.size_alloc] at h
    exact h
  by_cases hlen : QQ.length ≤ 20
  case neg =>
    have HK := hide (firstBad_long (step := step) (rise := rise) (R := R) (L := L) (T := T) (f := (x4a, x4b)) hlen)
    go_enter Try.func23, Try.ntmps23
    go_wp2
    go_ret
    exact ⟨ret_int (unhide HK).symm, by rw [← eW0]; exact unhide HW0⟩
  go_enter Try.func23, Try.ntmps23
  go_wp2
  rw [← eW0]
  clear eW0
  go_loopg [18] QQ.length (fun g i wr => Below W0.heap.size W0 wr ∧ ∃ k : Nat, k ≤ QQ.length ∧ g = QQ.length - k ∧ i = .int .i64 k ∧ Hid (∀ t, t < k → stands step rise R L T (QQ.getD t []) (x4a, x4b) = 0))
  case atStart => exact ⟨Below.refl _ _, 0, Nat.zero_le _, rfl, rfl, fun r hr => by omega⟩
  case round =>
    obtain ⟨hb, k, hk, rfl, rfl, HD⟩ := hrel
    have HW := hide (Below.step (unhide HW0) hb)
    have HB := hide (OwnV.step (unhide HB0) hb)
    have HF := hide (OwnV.step (unhide HF0) hb)
    have HH := hide hb
    clear hb
    by_cases hkn : k < QQ.length
    · obtain ⟨b, o, ar, m, cr, rfl, hcell, hrow, EM, hm0'⟩ := recsAt (unhide HC) hkn
      have q1 := wcell3 hcell (unhide HW)
      have c0 := OwnV.cell (unhide HB) (i := 0) rfl
      have c1 := OwnV.cell (unhide HB) (i := 1) rfl
      have c2 := OwnV.cell (unhide HB) (i := 2) rfl
      have d0 := OwnV.cell (unhide HF) (i := 0) rfl
      have d1 := OwnV.cell (unhide HF) (i := 1) rfl
      have HR := hide (implStands_any step rise _ R _ L _ T _ (QQ.getD k []) x4a x4b wr ((unhide HV0).below (unhide HW)) ((unhide HV1).below (unhide HW)) ((unhide HV2).below (unhide HW)) (hrow.below (unhide HW)))
      clear hcell hrow
      go_wp2_with fail
      refine (unhide HR).mono ?_
      rintro e w1 ⟨rfl, hb⟩
      have HW1 := hide (Below.step (unhide HW) hb)
      have HH1 := hide (Below.step (unhide HH) hb)
      clear hb c0 c1 c2 d0 d1 HR q1
      obtain ⟨s, es⟩ : ∃ s, s = stands step rise R L T (QQ.getD k []) (x4a, x4b) := ⟨_, rfl⟩
      rw [← es]
      have ES := hide es.symm
      clear es
      by_cases hs : s = 0
      · subst hs
        go_wp2
        go_roundg (QQ.length - (k + 1))
        case measure => omega
        case rel => exact ⟨unhide HH1, k + 1, by omega, rfl, by go_num, fun t ht => by
          by_cases e : t = k
          · subst e; exact unhide ES
          · exact HD.out t (by omega)⟩
      · have HK : Hid (firstBad step rise R L T QQ (x4a, x4b) = k) := firstBad_some hlen hkn (by rw [unhide ES]; exact hs) HD.out
        have zs : (s == 0) = false := by simp [hs]
        go_wp2
        go_ret
        exact ⟨ret_int (unhide HK).symm, unhide HW1⟩
    · have HK : Hid (firstBad step rise R L T QQ (x4a, x4b) = -1) := firstBad_none hlen (fun t ht => HD.out t (by omega))
      go_wp2
      go_ret
      exact ⟨ret_int (unhide HK).symm, unhide HW⟩

set_option maxHeartbeats 1600000 in
theorem specFirstBad_any (step rise : Int) (v0 : Value) (R : List (List Int)) (v1 : Value) (L : List I3) (v2' : Value) (T : List I2) (v3' : Value) (QQ : List (List I3)) (x4a x4b : Int) (w : World) (h0 : RowsIn w v0 R) (h1 : R3 w v1 L) (h2 : R2 w v2' T) (h3 : RR3 w v3' QQ) :
    Calls Try.prog 45 #[hullV step rise v0, v1, v2', v3', v2 (x4a, x4b)] w fun e w' => e = .returned (.int .i64 (firstBad step rise R L T QQ (x4a, x4b))) ∧ Below w.heap.size w w' := by
  have HV0 := hide h0
  have HV1 := hide h1
  have HV2 := hide h2
  obtain ⟨ao0, cap0, rfl, hl0, hm0, hc0⟩ := h0
  obtain ⟨ao1, cap1, rfl, hl1, hm1, hc1⟩ := h1
  obtain ⟨ao2, cap2, rfl, hl2, hm2, hc2⟩ := h2
  obtain ⟨ao3, cap3, rfl, hl3, hm3, hc3⟩ := h3
  have HC := hide hc3
  unfold maxLen at hm3
  clear hc0 hc1 hc2 hc3 hl0 hl1 hl2 hm0 hm1 hm2
  unfold hullV v2
  obtain ⟨W0, eW0⟩ : ∃ W, W = (w.alloc (.cells #[.int .i64 step, .int .i64 rise, .slice ao0 R.length cap0] 26)).alloc (.cells #[.int .i64 x4a, .int .i64 x4b] 44) := ⟨_, rfl⟩
  have HW0 : Hid (Below w.heap.size w W0) := by show Below _ _ _; rw [eW0]; exact Below.step (Below.alloc1 _ _) (Below.alloc1 _ _)
  have HB0 : Hid (OwnV W0 w.heap.size [.int .i64 step, .int .i64 rise, .slice ao0 R.length cap0]) := by show OwnV _ _ _; rw [eW0]; exact OwnV.alloc (ownV_alloc w #[.int .i64 step, .int .i64 rise, .slice ao0 R.length cap0] _) _
  have HF0 : Hid (OwnV W0 (w.heap.size + 1) [.int .i64 x4a, .int .i64 x4b]) := by
    show OwnV _ _ _
    rw [eW0]
    have h := ownV_alloc (w.alloc (.cells #[.int .i64 step, .int .i64 rise, .slice ao0 R.length cap0] 26)) #[.int .i64 x4a, .int .i64 x4b] 44
    simp only [World.size_alloc] at h
    exact h
  by_cases hlen : QQ.length ≤ 20
  case neg =>
    have HK := hide (firstBad_long (step := step) (rise := rise) (R := R) (L := L) (T := T) (f := (x4a, x4b)) hlen)
    go_enter Try.func45, Try.ntmps45
    go_wp2
    go_ret
    exact ⟨ret_int (unhide HK).symm, by rw [← eW0]; exact unhide HW0⟩
  go_enter Try.func45, Try.ntmps45
  go_wp2
  rw [← eW0]
  clear eW0
  go_loopg [11] QQ.length (fun g i wr => Below W0.heap.size W0 wr ∧ ∃ k : Nat, k ≤ QQ.length ∧ g = QQ.length - k ∧ i = .int .i64 k ∧ Hid (∀ t, t < k → stands step rise R L T (QQ.getD t []) (x4a, x4b) = 0))
  case atStart => exact ⟨Below.refl _ _, 0, Nat.zero_le _, rfl, rfl, fun r hr => by omega⟩
  case round =>
    obtain ⟨hb, k, hk, rfl, rfl, HD⟩ := hrel
    have HW := hide (Below.step (unhide HW0) hb)
    have HB := hide (OwnV.step (unhide HB0) hb)
    have HF := hide (OwnV.step (unhide HF0) hb)
    have HH := hide hb
    clear hb
    by_cases hkn : k < QQ.length
    · obtain ⟨b, o, ar, m, cr, rfl, hcell, hrow, EM, hm0'⟩ := recsAt (unhide HC) hkn
      have q1 := wcell3 hcell (unhide HW)
      have r0 := fun x : Gr wr => gr_cell (OwnV.cell (unhide HB) (i := 0) rfl) x
      have r1 := fun x : Gr wr => gr_cell (OwnV.cell (unhide HB) (i := 1) rfl) x
      have r2 := fun x : Gr wr => gr_cell (OwnV.cell (unhide HB) (i := 2) rfl) x
      have r3 := fun x : Gr wr => gr_cell (OwnV.cell (unhide HF) (i := 0) rfl) x
      have r4 := fun x : Gr wr => gr_cell (OwnV.cell (unhide HF) (i := 1) rfl) x
      have r5 := fun x : Gr wr => gr_cell q1 x
      have S1 := hide fun x : Gr wr => specStands_any step rise _ R _ L _ T _ (QQ.getD k []) x4a x4b x.val (((unhide HV0).below (unhide HW)).below x.ok) (((unhide HV1).below (unhide HW)).below x.ok) (((unhide HV2).below (unhide HW)).below x.ok) ((hrow.below (unhide HW)).below x.ok)
      obtain ⟨s, es⟩ : ∃ s, s = stands step rise R L T (QQ.getD k []) (x4a, x4b) := ⟨_, rfl⟩
      rw [← es] at S1
      have ES := hide es.symm
      have gsome := gr_some wr
      clear es hcell hrow q1
      go_wp2
      refine wp_region_grown (by kernel_rfl) (by kernel_rfl) ?_
      repeat (go_big_quiet_step (fail))
      go_big_quiet_want
      go_big_quiet_op
      go_big_quiet_call (exact calls_grown (unhide S1 _))
      repeat (go_big_quiet_step (fail))
      refine wpQuiet_nil ?_
      intro w1 hw1
      obtain ⟨z', hz⟩ := hw1
      have hb1 : Below wr.heap.size wr w1 := hz ▸ z'.ok
      have HW1 := hide (Below.step (unhide HW) hb1)
      have HH1 := hide (Below.step (unhide HH) hb1)
      clear hz gsome r0 r1 r2 r3 r4 r5 S1 hb1 z'
      by_cases hs : s = 0
      · subst hs
        go_wp2
        go_roundg (QQ.length - (k + 1))
        case measure => omega
        case rel => exact ⟨unhide HH1, k + 1, by omega, rfl, by go_num, fun t ht => by
          by_cases e : t = k
          · subst e; exact unhide ES
          · exact HD.out t (by omega)⟩
      · have HK : Hid (firstBad step rise R L T QQ (x4a, x4b) = k) := firstBad_some hlen hkn (by rw [unhide ES]; exact hs) HD.out
        have zs : (s == 0) = false := by simp [hs]
        go_wp2
        go_ret
        exact ⟨ret_int (unhide HK).symm, unhide HW1⟩
    · have HK : Hid (firstBad step rise R L T QQ (x4a, x4b) = -1) := firstBad_none hlen (fun t ht => HD.out t (by omega))
      go_wp2
      go_ret
      exact ⟨ret_int (unhide HK).symm, unhide HW⟩

end Go.Proofs.Yticcjdcglfiggaa

/- The cursor over a draw's bytes: what its functions l1Byte, l1Below, l1Once tell (bounds alone) and what they leave of memory. -/
namespace Go.Proofs.Yticcjdcglfiggaa
open Go.RowKit

/-- The slice value v holds n bytes in w, in blocks below B. -/
def BytesIn (B : Nat) (w : World) (v : Value) (n : Nat) : Prop :=
  ∃ ao cap, v = .slice ao n cap ∧ n ≤ cap ∧ cap ≤ maxLen ∧ ∀ i, i < n → ∃ b o x, ao = some ⟨b, o, none⟩ ∧ b < B ∧ w.cell? ⟨b, o + i, none⟩ = some (.int .u8 x) ∧ 0 ≤ x ∧ x ≤ 255

theorem BytesIn.below {B B' : Nat} {w w' : World} {v : Value} {n : Nat} (h : BytesIn B w v n) (hb : Below B' w w') (hB : B ≤ B') : BytesIn B w' v n := by
  obtain ⟨ao, cap, e, h1, h2, h3⟩ := h
  refine ⟨ao, cap, e, h1, h2, fun i hi => ?_⟩
  obtain ⟨b, o, x, e1, hlt, hc, hx⟩ := h3 i hi
  exact ⟨b, o, x, e1, hlt, (hb.cell (show b < B' by omega)).trans hc, hx⟩

/-- THE CURSOR in block cb: the bytes v, a place in them, a number. -/
def Cur (w : World) (cb : Nat) (v : Value) (n : Nat) : Prop := BytesIn cb w v n ∧ ∃ i h : Int, 0 ≤ i ∧ i ≤ n ∧ OwnV w cb [v, .int .i64 i, .int .i64 h]

theorem drewN_below (B : Nat) (w : World) (n : Nat) : Below B w (w.drewN n) := ⟨rfl, rfl, rfl, Nat.le_refl _, fun _ _ => rfl⟩

theorem Cur.drewN {w : World} {cb n : Nat} {v : Value} (h : Cur w cb v n) (q : Nat) : Cur (w.drewN q) cb v n := by
  obtain ⟨hB, i, h2, a, b, hO⟩ := h
  exact ⟨hB.below (drewN_below cb w q) (Nat.le_refl _), i, h2, a, b, hO⟩

theorem Cur.kept {T : Nat → Prop} {w w' : World} {cb n : Nat} {v : Value} (h : Cur w cb v n) (hk : Kept T w w') (hT : ∀ b, T b → cb < b) : Cur w' cb v n := by
  obtain ⟨hB, i, h2, a, b, hO⟩ := h
  refine ⟨hB.below (hk.below (Nat.le_of_lt hO.lt) (fun b hb => Nat.le_of_lt (hT b hb))) (Nat.le_refl _), i, h2, a, b, hO.kept hk (fun hb => by have := hT cb hb; omega)⟩

theorem Cur.below {w w' : World} {cb n : Nat} {v : Value} (h : Cur w cb v n) (hb : Below w.heap.size w w') : Cur w' cb v n := h.kept (T := fun _ => False) (kept_of_below hb) (fun _ h => h.elim)

theorem Cur.lt {w : World} {cb n : Nat} {v : Value} (h : Cur w cb v n) : cb < w.heap.size := by
  obtain ⟨_, _, _, _, _, hO⟩ := h
  exact hO.lt

theorem cur_step {w : World} {cb n j : Nat} {v : Value} {h2 : Int} (hB : BytesIn cb w v n) (hO : OwnV w cb [v, .int .i64 j, .int .i64 h2]) (hj : j < n) (q : Nat) : Cur ((w.drewN q).setCell ⟨cb, 1, none⟩ (.int .i64 ((j : Int) + 1))) cb v n := by
  refine ⟨hB.below ((drewN_below cb w q).setCell (Nat.le_refl _) _) (Nat.le_refl _), (j : Int) + 1, h2, by omega, by omega, ?_⟩
  have h1 : OwnV (w.drewN q) cb [v, .int .i64 j, .int .i64 h2] := hO
  exact h1.set 1 _ (by simp)

theorem and255 (a : Int) : 0 ≤ bits .and .i64 a 255 ∧ bits .and .i64 a 255 ≤ 255 := by
  have hle : (BitVec.ofInt 64 a &&& BitVec.ofInt 64 255).toNat ≤ 255 := by
    rw [BitVec.toNat_and]
    exact Nat.le_trans Nat.and_le_right (by decide)
  have e : bits .and .i64 a 255 = (((BitVec.ofInt 64 a &&& BitVec.ofInt 64 255).toNat : Nat) : Int) := by
    show IntKind.i64.wrap _ = _
    rw [IntKind.wrap_i64]
    show ((((BitVec.ofInt 64 a &&& BitVec.ofInt 64 255).toNat : Nat) : Int) + 9223372036854775808) % 18446744073709551616 - 9223372036854775808 = _
    omega
  rw [e]
  omega

set_option maxHeartbeats 800000 in
theorem l1Byte_any (cb n : Nat) (v : Value) (w : World) (h : Cur w cb v n) (hn : n ≤ 1048576) :
    Calls Try.prog 91 #[.pointer (some ⟨cb, 0, none⟩)] w fun e w' => ∃ x, e = .returned (.int .i64 x) ∧ 0 ≤ x ∧ x ≤ 255 ∧ Cur w' cb v n ∧ Kept (fun b => b = cb) w w' := by
  obtain ⟨hB, i, hh, hi0, hi1, hO⟩ := h
  obtain ⟨j, rfl⟩ := Int.eq_ofNat_of_zero_le hi0
  clear hi0
  have HB := hide hB
  obtain ⟨ao, cap, rfl, hl, hm, hc⟩ := hB
  have HC := hide hc
  unfold maxLen at hm
  have c0 := hO.cell (i := 0) rfl
  have c1 := hO.cell (i := 1) rfl
  have c2 := hO.cell (i := 2) rfl
  have f1 := hO.frozen 1
  have f2 := hO.frozen 2
  have HO := hide hO
  clear hc hO
  go_enter Try.func91, Try.ntmps91
  go_wp2
  obtain ⟨h2, eh2⟩ : ∃ h2, h2 = wrap64 (wrap64 (hh * 6364136223846793005) + 1442695040888963407) := ⟨_, rfl⟩
  rw [← eh2]
  clear eh2
  obtain ⟨W1, eW⟩ : ∃ W, W = w.setCell ⟨cb, 2, none⟩ (.int .i64 h2) := ⟨_, rfl⟩
  rw [← eW]
  have hO1 : OwnV W1 cb [.slice ao n cap, .int .i64 j, .int .i64 h2] := by rw [eW]; exact (unhide HO).set 2 _ (by simp)
  have HK1 : Hid (Kept (fun b => b = cb) w W1) := by show Kept _ _ _; rw [eW]; exact (Kept.refl (fun b => b = cb) w).setCell (p := ⟨cb, 2, none⟩) rfl _
  have HB1 : Hid (BytesIn cb W1 (.slice ao n cap) n) := (unhide HB).below ((unhide HK1).below (Nat.le_of_lt hO1.lt |> fun h => by rw [eW] at h; simpa [World.setCell] using h) (fun b e => by omega)) (Nat.le_refl _)
  clear c0 c1 c2 f1 f2 eW
  have c0 := hO1.cell (i := 0) rfl
  have c1 := hO1.cell (i := 1) rfl
  have c2 := hO1.cell (i := 2) rfl
  have f1 := hO1.frozen 1
  have HO1 := hide hO1
  clear hO1
  go_quiet (fail)
  go_wp2
  have hx := and255 (bits BinOp.xor IntKind.i64 (h2 / 8589934592) (h2 / 35184372088832))
  generalize bits BinOp.and IntKind.i64 (bits BinOp.xor IntKind.i64 (h2 / 8589934592) (h2 / 35184372088832)) 255 = x0 at *
  generalize bits BinOp.xor IntKind.i64 (h2 / 8589934592) (h2 / 35184372088832) = x1 at *
  obtain ⟨hx1, hx2⟩ := hx
  by_cases hjn : j < n
  · have hjn' : (j : Int) < (n : Int) := by omega
    obtain ⟨ao', cap', ev, _, _, hcs⟩ := unhide HB1
    simp only [Value.slice.injEq, true_and] at ev
    obtain ⟨rfl, rfl⟩ := ev
    obtain ⟨b, o, y, rfl, hlt, hcell, hy1, hy2⟩ := hcs j hjn
    clear hcs
    go_quiet (fail)
    go_wp2
    go_quiet (fail)
    have hz := and255 (x0 + y)
    generalize bits BinOp.and IntKind.i64 (x0 + y) 255 = z at *
    obtain ⟨hz1, hz2⟩ := hz
    go_wp2
    go_ret
    exact ⟨z, rfl, hz1, hz2, cur_step (unhide HB1) (unhide HO1) hjn _, ((unhide HK1).trans (kept_of_below (drewN_below _ _ _))).setCell rfl _⟩
  · have hjn' : decide ((j : Int) < (n : Int)) = false := by simp; omega
    go_quiet (fail)
    go_wp2
    go_ret
    have hcur : Cur W1 cb (.slice ao n cap) n := ⟨unhide HB1, j, h2, by omega, hi1, unhide HO1⟩
    exact ⟨x0, rfl, hx1, hx2, (hcur.drewN _).drewN _, ((unhide HK1).trans (kept_of_below (drewN_below _ _ _))).trans (kept_of_below (drewN_below _ _ _))⟩

set_option maxHeartbeats 800000 in
theorem l1Below_any (cb n : Nat) (v : Value) (k : Int) (w : World) (h : Cur w cb v n) (hn : n ≤ 1048576) (hk0 : 1 ≤ k) (hk1 : k ≤ 256) :
    Calls Try.prog 50 #[.pointer (some ⟨cb, 0, none⟩), .int .i64 k] w fun e w' => ∃ x, e = .returned (.int .i64 x) ∧ 0 ≤ x ∧ x < k ∧ Cur w' cb v n ∧ Kept (fun b => b = cb) w w' := by
  have HB := hide (l1Byte_any cb n v w h hn)
  clear h
  go_enter Try.func50, Try.ntmps50
  go_wp2_with fail
  refine (unhide HB).mono ?_
  rintro e w1 ⟨x, rfl, hx0, hx1, hc, hK⟩
  have HC := hide hc
  have HK := hide hK
  clear hc hK HB
  go_wp2
  go_ret
  exact ⟨_, rfl, Int.emod_nonneg _ (by omega), Int.emod_lt_of_pos _ (by omega), unhide HC, unhide HK⟩

set_option maxHeartbeats 800000 in
theorem l1Once_any (cb n : Nat) (v : Value) (k : Int) (w : World) (h : Cur w cb v n) (hn : n ≤ 1048576) (hk0 : 1 ≤ k) (hk1 : k ≤ 256) :
    Calls Try.prog 90 #[.pointer (some ⟨cb, 0, none⟩), .int .i64 k] w fun e w' => ∃ b, e = .returned (.bool b) ∧ Cur w' cb v n ∧ Kept (fun b => b = cb) w w' := by
  have HB := hide (l1Below_any cb n v k w h hn hk0 hk1)
  clear h
  go_enter Try.func90, Try.ntmps90
  go_wp2_with fail
  refine (unhide HB).mono ?_
  rintro e w1 ⟨x, rfl, hx0, hx1, hc, hK⟩
  have HC := hide hc
  have HK := hide hK
  clear hc hK HB
  go_wp2
  go_ret
  exact ⟨_, rfl, unhide HC, unhide HK⟩

end Go.Proofs.Yticcjdcglfiggaa

/- The specification's draws of a hull: l1New makes a cursor; l1DrawHull and DrawRightHull make a right hull and a water line of it. -/
namespace Go.Proofs.Yticcjdcglfiggaa
open Go.RowKit

theorem cur_new {w : World} {v : Value} {n : Nat} (h : BytesIn w.heap.size w v n) (z : Int) (t : TypeId) : Cur (w.alloc (.cells #[v, .int .i64 0, .int .i64 z] t)) w.heap.size v n :=
  ⟨h.below (Below.alloc1 _ _) (Nat.le_refl _), 0, z, by omega, by omega, #[v, .int .i64 0, .int .i64 z], t, Go.Deep.blk_alloc_new _ _, fun i _ => by simp⟩

set_option maxHeartbeats 800000 in
theorem l1New_any (v : Value) (n : Nat) (w : World) (h : BytesIn w.heap.size w v n) (hn : n ≤ 1048576) :
    Calls Try.prog 48 #[v] w fun e w' => e = .returned (.pointer (some ⟨w.heap.size, 0, none⟩)) ∧ Cur w' w.heap.size v n ∧ Below w.heap.size w w' ∧ w'.heap.size = w.heap.size + 1 := by
  have HB := hide h
  obtain ⟨ao, cap, rfl, hl, hm, hc⟩ := h
  have HC := hide hc
  unfold maxLen at hm
  clear hc
  go_enter Try.func48, Try.ntmps48
  go_wp2
  go_loopg [3, 4] n (fun g hv iv wr => w = wr ∧ ∃ k : Nat, ∃ z : Int, k ≤ n ∧ g = n - k ∧ iv = .int .i64 k ∧ hv = .int .i64 z)
  case atStart => exact ⟨rfl, 0, _, Nat.zero_le _, rfl, rfl, rfl⟩
  case round =>
    obtain ⟨rfl, k, z, hk, rfl, rfl, rfl⟩ := hrel
    by_cases hkn : k < n
    · have hkn' : (k : Int) < (n : Int) := by omega
      by_cases hk4 : k < 4000
      · have hk4' : (k : Int) < 4000 := by omega
        obtain ⟨b, o, y, rfl, hlt, hcell, hy1, hy2⟩ := unhide HC k hkn
        go_wp2
        go_roundg (n - (k + 1))
        case measure => omega
        case rel => exact ⟨rfl, k + 1, _, by omega, rfl, by go_num, rfl⟩
      · have hk4' : decide ((k : Int) < 4000) = false := by simp; omega
        go_wp2
        go_ret
        exact ⟨rfl, cur_new (unhide HB) _ _, Below.alloc1 _ _, by simp⟩
    · have hkn' : decide ((k : Int) < (n : Int)) = false := by simp; omega
      go_wp2
      go_ret
      exact ⟨rfl, cur_new (unhide HB) _ _, Below.alloc1 _ _, by simp⟩

end Go.Proofs.Yticcjdcglfiggaa

/- The metacentre as a plain function, and the contracts of the program's and the specification's Metacentre: both tell it. -/
import Derived.Test.YticcjdcglfiggaaStD
import Derived.Test.YticcjdcglfiggaaWalkI
import Derived.Test.YticcjdcglfiggaaWalkO
import Derived.Test.YticcjdcglfiggaaWalkP
namespace Go.Proofs.Yticcjdcglfiggaa
open Go.RowKit

theorem inertia_bd (step rise : Int) (R : List (List Int)) (c : Int) : 0 ≤ inertia step rise R c ∧ inertia step rise R c ≤ 275000000 := by
  unfold inertia
  split
  case isFalse => omega
  case isTrue h =>
    unfold waterOk at h
    simp only [Bool.and_eq_true] at h
    have hr := hullOk_right h.1
    have hc := inB_true h.2
    have := sumTo_bd (inerF_bd hr (c := c.toNat) (by omega)) (R.length - 1) (Nat.le_refl _)
    have h2 := hr.len2
    omega

theorem height_bd (step rise : Int) (R : List (List Int)) (c : Int) : 0 ≤ height step rise R c ∧ height step rise R c ≤ 20000000000 := by
  unfold height
  split
  case isFalse => omega
  case isTrue h =>
    unfold waterOk at h
    simp only [Bool.and_eq_true] at h
    have hr := hullOk_right h.1
    have hc := inB_true h.2
    have hw := hr.wat2
    have := sumTo_bd (fun k hk => (heightF_bd (step := step) R hr.rise1 hr.rise2 k (by omega)).2.2) c.toNat (Nat.le_refl c.toNat)
    omega

def metaB (step rise : Int) (R : List (List Int)) (c : Int) (L : List I3) (T : List I2) : Bool := massesB L && decide ((load L).1 ≠ 0) && decide (volume step rise R c ≠ 0) && tanksB T
def metaNum (step rise : Int) (R : List (List Int)) (c : Int) (L : List I3) (T : List I2) : Int :=
  (3 * height step rise R c + 4 * inertia step rise R c - surf T) * (load L).1 - 6 * volume step rise R c * (load L).2.2
def metaDen (step rise : Int) (R : List (List Int)) (c : Int) (L : List I3) : Int := 6 * volume step rise R c * (load L).1
def metaV (step rise : Int) (R : List (List Int)) (c : Int) (L : List I3) (T : List I2) : I2 :=
  if metaB step rise R c L T = true then lowV (metaNum step rise R c L T) (metaDen step rise R c L) else (0, 0)

theorem prod_bd {a b A B : Int} (h1 : -A ≤ a) (h2 : a ≤ A) (h3 : 0 ≤ b) (h4 : b ≤ B) : -(A * B) ≤ a * b ∧ a * b ≤ A * B := by
  have hA : 0 ≤ A := by omega
  have h5 : A * b ≤ A * B := Int.mul_le_mul_of_nonneg_left h4 hA
  have h6 : a * b ≤ A * b := Int.mul_le_mul_of_nonneg_right h2 h3
  have h7 : -A * b ≤ a * b := Int.mul_le_mul_of_nonneg_right h1 h3
  rw [Int.neg_mul] at h7
  omega

theorem load_bd (L : List I3) : (0 ≤ (load L).1 ∧ (load L).1 ≤ 400000) ∧ (0 ≤ (load L).2.2 ∧ (load L).2.2 ≤ 400000000) := by
  unfold load
  split
  case isFalse => simp
  case isTrue h =>
    have := loadTo_bd h (Nat.le_refl _)
    have := (massesB_at h).1
    omega

theorem Own2.puts {w : World} {g : Nat} {x : I2} (h : OwnV w g [.int .i64 x.1, .int .i64 x.2]) (a b : Int) : OwnV ((w.setCell ⟨g, 0, none⟩ (.int .i64 a)).setCell ⟨g, 1, none⟩ (.int .i64 b)) g [.int .i64 a, .int .i64 b] :=
  (h.set 0 (.int .i64 a) (by simp)).set 1 (.int .i64 b) (by simp)

set_option maxHeartbeats 1600000 in
theorem implMetacentre_any (step rise : Int) (v : Value) (R : List (List Int)) (c : Int) (u : Value) (L : List I3) (t : Value) (T : List I2) (w : World) (h : RowsIn w v R) (hL : R3 w u L) (hT : R2 w t T) :
    Calls Try.prog 68 #[hullV step rise v, .int .i64 c, u, t] w fun e w' => e = .returned (.tuple #[v2 (metaV step rise R c L T), .bool (metaB step rise R c L T)]) ∧ Below w.heap.size w w' := by
  have HV := hide h
  have HU := hide hL
  have HT := hide hT
  obtain ⟨ao, cap, rfl, hl, hm, hc⟩ := h
  obtain ⟨ao1, cap1, rfl, hl1, hm1, hc1⟩ := hL
  obtain ⟨ao2, cap2, rfl, hl2, hm2, hc2⟩ := hT
  clear hc hl hm hc1 hl1 hm1 hc2 hl2 hm2
  unfold hullV
  obtain ⟨W0, eW0⟩ : ∃ W, W = (w.alloc (.cells #[.int .i64 step, .int .i64 rise, .slice ao R.length cap] 26)).alloc (.cells #[.int .i64 0, .int .i64 0] 44) := ⟨_, rfl⟩
  have HW0 : Hid (Below w.heap.size w W0) := by show Below _ _ _; rw [eW0]; exact Below.step (Below.alloc1 _ _) (Below.alloc1 _ _)
  have HB0 : Hid (OwnV W0 w.heap.size [.int .i64 step, .int .i64 rise, .slice ao R.length cap]) := by show OwnV _ _ _; rw [eW0]; exact OwnV.alloc (ownV_alloc w #[.int .i64 step, .int .i64 rise, .slice ao R.length cap] _) _
  have HA0 : Hid (OwnV W0 (w.heap.size + 1) [.int .i64 0, .int .i64 0]) := by
    show OwnV _ _ _
    rw [eW0]
    have := ownV_alloc (w.alloc (.cells #[.int .i64 step, .int .i64 rise, .slice ao R.length cap] 26)) #[.int .i64 0, .int .i64 0] 44
    simpa using this
  go_enter Try.func68, Try.ntmps68
  go_wp2_with fail
  rw [← eW0]
  have EW0 := hide eW0
  clear eW0
  refine (implLoadOf_any _ L _ ((unhide HU).below (unhide HW0))).mono ?_
  rintro e w1 ⟨rfl, hb⟩
  have HW1 := hide (Below.step (unhide HW0) hb)
  have HB1 := hide (OwnV.step (unhide HB0) hb)
  have HA1 := hide (OwnV.step (unhide HA0) hb)
  clear hb HW0 HB0 HA0 EW0
  have hld := load_bd L
  obtain ⟨⟨Wt, MX, MZ⟩, el⟩ : ∃ x, x = load L := ⟨_, rfl⟩
  rw [← el] at hld ⊢
  dsimp only at hld
  have EL := hide el
  clear el
  obtain ⟨⟨l1, l2⟩, l3, l4⟩ := hld
  have A2 := Below.alloc1 w1 (.cells #[.int .i64 Wt, .int .i64 MX, .int .i64 MZ] 93)
  have HW2 := hide (Below.step (unhide HW1) A2)
  have HB2 := hide (OwnV.step (unhide HB1) A2)
  have HA2 := hide (OwnV.step (unhide HA1) A2)
  have HD2 := hide (ownV_alloc w1 #[.int .i64 Wt, .int .i64 MX, .int .i64 MZ] 93)
  clear A2 HW1
  have b0 := OwnV.cell (unhide HB1) (i := 0) rfl
  have b1 := OwnV.cell (unhide HB1) (i := 1) rfl
  have b2 := OwnV.cell (unhide HB1) (i := 2) rfl
  have hz1 := (unhide HB1).lt
  go_wp2_with fail
  clear b0 b1 b2 HB1 HA1
  refine (implVolume2_any step rise _ R c _ ((unhide HV).below (unhide HW2))).mono ?_
  rintro e w3 ⟨rfl, hb⟩
  have HW3 := hide (Below.step (unhide HW2) hb)
  have HB3 := hide (OwnV.step (unhide HB2) hb)
  have HA3 := hide (OwnV.step (unhide HA2) hb)
  have HD3 := hide (OwnV.step (unhide HD2) hb)
  clear hb HW2 HB2 HA2 HD2
  have hvol := volume_bd step rise R c
  obtain ⟨V, eV⟩ : ∃ V, V = volume step rise R c := ⟨_, rfl⟩
  rw [← eV] at hvol ⊢
  have EV := hide eV
  clear eV
  obtain ⟨v1, v2'⟩ := hvol
  have d0 := OwnV.cell (unhide HD3) (i := 0) rfl
  have a0 := OwnV.cell (unhide HA3) (i := 0) rfl
  have a1 := OwnV.cell (unhide HA3) (i := 1) rfl
  have fa := (unhide HA3).frozen
  have done : ∀ w', Below w3.heap.size w3 w' → Below w.heap.size w ((w'.setCell ⟨w.heap.size + 1, 0, none⟩ (.int .i64 0)).setCell ⟨w.heap.size + 1, 1, none⟩ (.int .i64 0)) := fun w' hb => ((Below.step (unhide HW3) hb).setCell (by show _ ≤ w.heap.size + 1; omega) _).setCell (by show _ ≤ w.heap.size + 1; omega) _
  have HDone := hide done
  clear done
  cases k1 : massesB L with
  | false =>
    have HK : Hid (metaB step rise R c L T = false) := by show _ = _; simp [metaB, k1]
    have HM : Hid (metaV step rise R c L T = (0, 0)) := by show _ = _; rw [metaV, unhide HK]; rfl
    go_wp2
    refine bodyPost_ret (v := .tuple #[v2 (0, 0), .bool false]) (by simp [results, Try.results68, go_sem, a0, a1]) rfl ⟨by rw [unhide HM, unhide HK], unhide HDone _ (Below.refl _ _)⟩
  | true =>
  by_cases k2 : Wt = 0
  · have HK : Hid (metaB step rise R c L T = false) := by show _ = _; simp [metaB, ← unhide EL, k2]
    have HM : Hid (metaV step rise R c L T = (0, 0)) := by show _ = _; rw [metaV, unhide HK]; rfl
    subst k2
    go_wp2
    refine bodyPost_ret (v := .tuple #[v2 (0, 0), .bool false]) (by simp [results, Try.results68, go_sem, a0, a1]) rfl ⟨by rw [unhide HM, unhide HK], unhide HDone _ (Below.refl _ _)⟩
  by_cases k3 : V = 0
  · have HK : Hid (metaB step rise R c L T = false) := by show _ = _; simp [metaB, ← unhide EV, k3]
    have HM : Hid (metaV step rise R c L T = (0, 0)) := by show _ = _; rw [metaV, unhide HK]; rfl
    subst k3
    go_wp2
    refine bodyPost_ret (v := .tuple #[v2 (0, 0), .bool false]) (by simp [results, Try.results68, go_sem, a0, a1]) rfl ⟨by rw [unhide HM, unhide HK], unhide HDone _ (Below.refl _ _)⟩
  have z2 : (Wt == 0) = false := by simp [k2]
  have z3 : (V == 0) = false := by simp [k3]
  go_wp2_with fail
  refine (tanksOk_any _ T _ ((unhide HT).below (unhide HW3))).mono ?_
  rintro e w4 ⟨rfl, hb⟩
  have HW4 := hide (Below.step (unhide HW3) hb)
  have HB4 := hide (OwnV.step (unhide HB3) hb)
  have HA4 := hide (OwnV.step (unhide HA3) hb)
  have HD4 := hide (OwnV.step (unhide HD3) hb)
  have HB := hide hb
  clear hb HB3 HA3 HD3 d0 a0 a1 fa
  have a0 := OwnV.cell (unhide HA4) (i := 0) rfl
  have a1 := OwnV.cell (unhide HA4) (i := 1) rfl
  have fa := (unhide HA4).frozen
  cases k4 : tanksB T with
  | false =>
    have HK : Hid (metaB step rise R c L T = false) := by show _ = _; simp [metaB, k4]
    have HM : Hid (metaV step rise R c L T = (0, 0)) := by show _ = _; rw [metaV, unhide HK]; rfl
    go_wp2
    refine bodyPost_ret (v := .tuple #[v2 (0, 0), .bool false]) (by simp [results, Try.results68, go_sem, a0, a1]) rfl ⟨by rw [unhide HM, unhide HK], unhide HDone _ (unhide HB)⟩
  | true =>
  have HK : Hid (metaB step rise R c L T = true) := by show _ = _; simp [metaB, ← unhide EV, ← unhide EL, k1, k2, k3, k4]
  have H4 := hide k4
  clear k1 HDone HB HW3 a0 a1 fa
  have hH := height_bd step rise R c
  have hI := inertia_bd step rise R c
  have hS := surf_bd (unhide H4)
  have S1 := hide fun x : Gr w4 => implHeight4_any step rise _ R c x.val (((unhide HV).below (unhide HW4)).below x.ok)
  have S2 := hide fun x : Gr w4 => implInertia3_any step rise _ R c x.val (((unhide HV).below (unhide HW4)).below x.ok)
  have S3 := hide fun x : Gr w4 => surfaces_any _ T x.val (((unhide HT).below (unhide HW4)).below x.ok) (unhide H4)
  have EN : Hid (metaNum step rise R c L T = (3 * height step rise R c + 4 * inertia step rise R c - surf T) * Wt - 6 * V * MZ) := by show _ = _; rw [metaNum, ← unhide EL, ← unhide EV]
  have ED : Hid (metaDen step rise R c L = 6 * V * Wt) := by show _ = _; rw [metaDen, ← unhide EL, ← unhide EV]
  generalize height step rise R c = Hh at *
  generalize inertia step rise R c = Ii at *
  generalize surf T = Ss at *
  obtain ⟨U, eU⟩ : ∃ U, U = 3 * Hh + 4 * Ii - Ss := ⟨_, rfl⟩
  have q1 : IntKind.i64.wrap (3 * Hh) = 3 * Hh := by rw [IntKind.wrap_i64]; omega
  have q2 : IntKind.i64.wrap (4 * Ii) = 4 * Ii := by rw [IntKind.wrap_i64]; omega
  have q3 : IntKind.i64.wrap (3 * Hh + 4 * Ii) = 3 * Hh + 4 * Ii := by rw [IntKind.wrap_i64]; omega
  have q4 : IntKind.i64.wrap (3 * Hh + 4 * Ii - Ss) = U := by rw [IntKind.wrap_i64]; omega
  have q5 : IntKind.i64.wrap (6 * V) = 6 * V := by rw [IntKind.wrap_i64]; omega
  have p1 := prod_bd (a := U) (b := Wt) (A := 70000000000) (B := 400000) (by omega) (by omega) l1 l2
  have p2 := prod_bd (a := 6 * V) (b := MZ) (A := 288000000) (B := 400000000) (by omega) (by omega) l3 l4
  have p3 := prod_bd (a := 6 * V) (b := Wt) (A := 288000000) (B := 400000) (by omega) (by omega) l1 l2
  have p4 : 0 < 6 * V * Wt := Int.mul_pos (by omega) (by omega)
  rw [← eU] at EN
  have r0 := fun x : Gr w4 => gr_cell (OwnV.cell (unhide HB4) (i := 0) rfl) x
  have r1 := fun x : Gr w4 => gr_cell (OwnV.cell (unhide HB4) (i := 1) rfl) x
  have r2 := fun x : Gr w4 => gr_cell (OwnV.cell (unhide HB4) (i := 2) rfl) x
  have gsome := gr_some w4
  clear eU
  go_wp2
  refine wp_region_grown (by kernel_rfl) (by kernel_rfl) ?_
  repeat (go_big_quiet_step (fail))
  go_big_quiet_want
  go_big_quiet_op
  go_big_quiet_call (exact calls_grown (unhide S1 _))
  repeat (go_big_quiet_step (fail))
  go_big_quiet_want
  go_big_quiet_op
  go_big_quiet_call (exact calls_grown (unhide S2 _))
  repeat (go_big_quiet_step (fail))
  go_big_quiet_want
  go_big_quiet_op
  go_big_quiet_call (exact calls_grown (unhide S3 _))
  repeat (go_big_quiet_step (fail))
  refine wpQuiet_nil ?_
  intro w5 hw5
  obtain ⟨z, hz⟩ := hw5
  have hb5 : Below w4.heap.size w4 w5 := hz ▸ z.ok
  clear hz r0 r1 r2 S1 S2 S3 gsome z
  have HW5 := hide (Below.step (unhide HW4) hb5)
  have HA5 := hide (OwnV.step (unhide HA4) hb5)
  have HD5 := hide (OwnV.step (unhide HD4) hb5)
  clear hb5 HB4 HA4 HD4 HW4
  have d0 := OwnV.cell (unhide HD5) (i := 0) rfl
  have d2 := OwnV.cell (unhide HD5) (i := 2) rfl
  have HLow := hide (lowest_any (U * Wt - 6 * V * MZ) (6 * V * Wt) w5 (by omega) (by omega) p4 (by omega))
  rw [Int.mul_comm (6 * V) MZ] at HLow EN p2
  have EM : Hid (metaV step rise R c L T = lowV (U * Wt - MZ * (6 * V)) (6 * V * Wt)) := by show _ = _; rw [metaV, unhide HK, if_pos rfl, unhide EN, unhide ED]
  clear EN ED
  generalize g1 : U * Wt = P1 at *
  generalize g2 : MZ * (6 * V) = P2 at *
  generalize g3 : 6 * V * Wt = P3 at *
  go_wp2_with fail
  clear d0 d2
  refine (unhide HLow).mono ?_
  rintro e w6 ⟨rfl, hb⟩
  have HW6 := hide (Below.step (unhide HW5) hb)
  have HA6 := hide (OwnV.step (unhide HA5) hb)
  clear hb HW5 HA5 HD5 HLow
  generalize lowV (P1 - P2) P3 = X at *
  obtain ⟨N, D⟩ := X
  have a0 := OwnV.cell (unhide HA6) (i := 0) rfl
  have a1 := OwnV.cell (unhide HA6) (i := 1) rfl
  have fa := (unhide HA6).frozen
  go_wp2
  refine bodyPost_ret (v := .tuple #[v2 (N, D), .bool true]) (by simp [results, Try.results68, go_sem, a0, a1]) rfl ⟨by rw [unhide EM, unhide HK], ?_⟩
  exact ((unhide HW6).setCell (by show _ ≤ w.heap.size + 1; omega) _).setCell (by show _ ≤ w.heap.size + 1; omega) _

end Go.Proofs.Yticcjdcglfiggaa

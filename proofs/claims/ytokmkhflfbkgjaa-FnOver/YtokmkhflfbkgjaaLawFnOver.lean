/- FnOver: whatever the bytes, whole numbers multiplied by a unit and divided again are what they were, what is barred twice is, and nothing is divided by 0. -/
import Derived.Test.YtokmkhflfbkgjaaFoB
import Derived.Test.YtokmkhflfbkgjaaFlI4
import Derived.Test.YtokmkhflfbkgjaaAtFix
import Derived.BigRegion
import Derived.Deep.RegionHeld3
import Derived.Deep.RegionWith
import Derived.Deep.DeepCutAuto
namespace Go.Proofs.Ytokmkhflfbkgjaa
open Go.RowKit

attribute [local go_sem] run_store_float

set_option maxRecDepth 10000 in
set_option maxHeartbeats 16000000 in
theorem fnOver_any (v : Value) (nb : Nat) (w : World) (h : BytesIn w.heap.size w v nb) :
    Calls Try.prog 4 #[v] w fun e w' => e = .returned (.bool true) ∧ Below w.heap.size w w' := by
  have HB := hide h
  obtain ⟨vao, vcap, rfl, hl, hm, _⟩ := h
  unfold maxLen at hm
  by_cases hbig : (1048576 : Int) < (nb : Int)
  · go_enter Try.func4, Try.ntmps4
    go_wp2_with fail
    refine (big_any _ _ _ _).mono ?_
    rintro e w' ⟨rfl, rfl⟩
    go_wp2
    go_ret
    exact ⟨rfl, Below.refl _ _⟩
  have hn : nb ≤ 1048576 := by omega
  obtain ⟨y0, y00, y01, at0⟩ := at_fix _ nb 0 w (unhide HB) hn (by omega)
  obtain ⟨y1, y10, y11, at1⟩ := at_fix _ nb 1 w (unhide HB) hn (by omega)
  obtain ⟨y2, y20, y21, at2⟩ := at_fix _ nb 2 w (unhide HB) hn (by omega)
  obtain ⟨y3, y30, y31, at3⟩ := at_fix _ nb 3 w (unhide HB) hn (by omega)
  have AT0 := hide at0
  have AT1 := hide at1
  have AT2 := hide at2
  have AT3 := hide at3
  clear at0 at1 at2 at3
  obtain ⟨X, eX⟩ : ∃ X, X = y0 - 128 := ⟨_, rfl⟩
  obtain ⟨Y, eY⟩ : ∃ Y, Y = y1 - 128 := ⟨_, rfl⟩
  have w0 : IntKind.i64.wrap (y0 - 128) = X := by rw [IntKind.wrap_i64]; omega
  have w1' : IntKind.i64.wrap (y1 - 128) = Y := by rw [IntKind.wrap_i64]; omega
  have e0 : y0 - 128 = X := eX.symm
  have e1 : y1 - 128 = Y := eY.symm
  have hx0 : -128 ≤ X := by omega
  have hx1 : X ≤ 127 := by omega
  have hy0 : -128 ≤ Y := by omega
  have hy1 : Y ≤ 127 := by omega
  clear eX eY
  have HX := hide (isI_int .f64 X (by omega))
  have HY := hide (isI_int .f64 Y (by omega))
  obtain ⟨x, ex⟩ : ∃ z, floatOfInt .f64 X = z := ⟨_, rfl⟩
  obtain ⟨y, ey⟩ : ∃ z, floatOfInt .f64 Y = z := ⟨_, rfl⟩
  rw [ex] at HX
  rw [ey] at HY
  have HLX : Hid (x < 18446744073709551616) := by rw [← ex]; exact hide (foi_lt X)
  have HLY : Hid (y < 18446744073709551616) := by rw [← ey]; exact hide (foi_lt Y)
  go_enter Try.func4, Try.ntmps4
  go_wp2_with fail
  refine (big_any _ _ _ _).mono ?_
  rintro e w' ⟨rfl, rfl⟩
  go_wp2_with fail
  refine (unhide AT0 _ (Below.refl _ _)).mono ?_
  rintro e w1 ⟨rfl, h9⟩
  have h8 := h9.symm
  subst h8
  clear h9
  go_wp2_with fail
  refine (unhide AT1 _ (by first | exact Below.refl _ _ | exact Below.alloc1 _ _)).mono ?_
  rintro e w1 ⟨rfl, h9⟩
  have h8 := h9.symm
  subst h8
  clear h9
  have A1 := Below.step (Below.alloc1 w (.cells #[.float .f64 x, .float .f64 y] 32)) (Below.alloc1 _ (.cells unitCells.toArray 32))
  have hU := ownV_alloc (w.alloc (.cells #[.float .f64 x, .float .f64 y] 32)) unitCells.toArray 32
  simp only [World.size_alloc] at hU
  have hA := (ownV_alloc w #[.float .f64 x, .float .f64 y] 32).alloc (.cells unitCells.toArray 32)
  obtain ⟨k, ek⟩ : ∃ k : Nat, (k : Int) = y2 % 6 := ⟨(y2 % 6).toNat, by omega⟩
  have hk6 : k < 6 := by omega
  obtain ⟨u0, u1⟩ := unit_cell hU hk6
  have hki : (k : Int) < 6 := by omega
  have e6 : y2 % 6 = (k : Int) := ek.symm
  have HW := hide A1
  have HA := hide hA
  clear A1 hU hA ek
  go_wp2_with fail
  refine (unhide AT2 _ (unhide HW)).mono ?_
  rintro e w1 ⟨rfl, h9⟩
  rw [← h9] at HW HA u0 u1
  clear h9
  obtain ⟨I1, I2⟩ := times_unit (unhide HX) (unhide HY) hx0 hx1 hy0 hy1 k
  obtain ⟨O1, O2⟩ := over_unit hx0 hx1 hy0 hy1 k I1 I2
  have hok := unit_ok k
  have hul := unit_lt k
  obtain ⟨c, ec⟩ : ∃ c, (unitB k).1 = c := ⟨_, rfl⟩
  obtain ⟨d, ed⟩ : ∃ d, (unitB k).2 = d := ⟨_, rfl⟩
  rw [ec] at u0 I1 I2 O1 O2 hok hul
  rw [ed] at u1 I1 I2 O1 O2 hok hul
  obtain ⟨lc, ld⟩ := hul
  have HT6 := hide fun V => implTimes_any x y c d V
  obtain ⟨t1, et1⟩ : ∃ t, t = tRe x y c d := ⟨_, rfl⟩
  obtain ⟨t2, et2⟩ : ∃ t, t = tIm x y c d := ⟨_, rfl⟩
  have l1 : t1 < 18446744073709551616 := by rw [et1]; exact fop_lt .sub (by simp) _ _
  have l2 : t2 < 18446744073709551616 := by rw [et2]; exact fop_lt .add (by simp) _ _
  rw [← et1] at HT6 I1 O1 O2
  rw [← et2] at HT6 I2 O1 O2
  have HI1 := hide I1
  have HI2 := hide I2
  have eok : overOk t1 t2 c d = true := by
    unfold overOk
    rw [I1.fin, I2.fin]
    simpa using hok
  have HOV := hide fun V => implOver_any t1 t2 c d l1 l2 lc ld V
  rw [eok] at HOV
  have er : overRe t1 t2 c d = ovRe t1 t2 c d := by rw [overRe, if_pos eok]
  have ei : overIm t1 t2 c d = ovIm t1 t2 c d := by rw [overIm, if_pos eok]
  rw [er, ei] at HOV
  have HO1 := hide O1
  have HO2 := hide O2
  clear er ei eok I1 I2 O1 O2 hok lc ld l1 l2 et1 et2 ec ed
  generalize ovRe t1 t2 c d = r1 at *
  generalize ovIm t1 t2 c d = r2 at *
  simp only [vW] at HT6 HOV
  have HT : Hid (Bxs w (w1.alloc (.cells #[.float .f64 c, .float .f64 d] 32)) [(w1.heap.size, c, d), (w.heap.size, x, y)]) :=
    Bxs.made ⟨fun p hp => by simp only [List.mem_singleton] at hp; subst hp; exact unhide HA, unhide HW, fun p hp => by simp only [List.mem_singleton] at hp; subst hp; exact Nat.le_refl _⟩ c d _
  clear HA HW HB
  go_wp2_with fail
  obtain ⟨V0, eV⟩ : ∃ z, z = w1.alloc (.cells #[.float .f64 c, .float .f64 d] 32) := ⟨_, rfl⟩
  rw [← eV] at HT ⊢
  clear eV u0 u1
  generalize w1.heap.size = gb at *
  have c0 := (unhide HT).c0 (g := w.heap.size) (a := x) (b := y) (by simp)
  have c1 := (unhide HT).c1 (g := w.heap.size) (a := x) (b := y) (by simp)
  have c2 := (unhide HT).c0 (g := gb) (a := c) (b := d) (by simp)
  have c3 := (unhide HT).c1 (g := gb) (a := c) (b := d) (by simp)
  go_cut [6, 7] (fun qv ok wx => ∃ gq, qv = .pointer (some ⟨gq, 0, none⟩) ∧ ok = .bool true ∧ Hid (Bxs w wx [(gq, r1, r2), (gb, c, d), (w.heap.size, x, y)]))
  case first =>
    go_region_held3 (fun w' => w'.cell? ⟨w.heap.size, 0, none⟩ = some (.float .f64 x) ∧ w'.cell? ⟨w.heap.size, 1, none⟩ = some (.float .f64 y) ∧ w'.cell? ⟨gb, 0, none⟩ = some (.float .f64 c) ∧ w'.cell? ⟨gb, 1, none⟩ = some (.float .f64 d)) (go_keep) (first | (go_at_call 9; refine (unhide HT6 _).mono ?_; rintro e wt ⟨r, s, rfl, hr, hs, hb⟩; have hLq := (unhide HT).lt; have hgq := (unhide HT).below.size; (first | (have HT' := hide ((unhide HT).step hb)) | (have HT' := hide ((unhide HT).step (below_undrew' hb))) | (have HT' := hide ((unhide HT).step (Below.step (Below.alloc1 _ _) hb)); have HN := hide (OwnV.step (ownV_alloc _ _ _) hb); have hgN := hgq; have hLN := hLq; obtain ⟨ma0, mb0⟩ := (unhide HT).apart (g := w.heap.size) (a := x) (b := y) (by simp); obtain ⟨ma1, mb1⟩ := (unhide HT).apart (g := gb) (a := c) (b := d) (by simp)) | (have HT' := hide ((unhide HT).step (Below.step (Below.alloc1 _ _) (below_undrew' hb))); have HN := hide (OwnV.step (OwnV.drew (ownV_alloc _ _ _)) hb); have hgN := hgq; have hLN := hLq; obtain ⟨ma0, mb0⟩ := (unhide HT).apart (g := w.heap.size) (a := x) (b := y) (by simp); obtain ⟨ma1, mb1⟩ := (unhide HT).apart (g := gb) (a := c) (b := d) (by simp))); replace HT := HT'; clear HT' hgq hLq; (try replace HN := hide (OwnV.step (unhide HN) hb)); (try (have n0 := (unhide HN).cell (i := 0) rfl; have n1 := (unhide HN).cell (i := 1) rfl; have nf := (unhide HN).frozen)); have f0 := (unhide HT).c0 (g := w.heap.size) (a := x) (b := y) (by simp); have f1 := (unhide HT).c1 (g := w.heap.size) (a := x) (b := y) (by simp); have f2 := (unhide HT).c0 (g := gb) (a := c) (b := d) (by simp); have f3 := (unhide HT).c1 (g := gb) (a := c) (b := d) (by simp); clear hb; obtain rfl := (unhide HI1).same hr; obtain rfl := (unhide HI2).same hs) | (go_at_call 15; refine (unhide HOV _).mono ?_; rintro e wt ⟨r', s', rfl, hr', hs', hb⟩; have hLq := (unhide HT).lt; have hgq := (unhide HT).below.size; (first | (have HT' := hide ((unhide HT).step hb)) | (have HT' := hide ((unhide HT).step (below_undrew' hb))) | (have HT' := hide ((unhide HT).step (Below.step (Below.alloc1 _ _) hb)); have HN := hide (OwnV.step (ownV_alloc _ _ _) hb); have hgN := hgq; have hLN := hLq; obtain ⟨ma0, mb0⟩ := (unhide HT).apart (g := w.heap.size) (a := x) (b := y) (by simp); obtain ⟨ma1, mb1⟩ := (unhide HT).apart (g := gb) (a := c) (b := d) (by simp)) | (have HT' := hide ((unhide HT).step (Below.step (Below.alloc1 _ _) (below_undrew' hb))); have HN := hide (OwnV.step (OwnV.drew (ownV_alloc _ _ _)) hb); have hgN := hgq; have hLN := hLq; obtain ⟨ma0, mb0⟩ := (unhide HT).apart (g := w.heap.size) (a := x) (b := y) (by simp); obtain ⟨ma1, mb1⟩ := (unhide HT).apart (g := gb) (a := c) (b := d) (by simp))); replace HT := HT'; clear HT' hgq hLq; (try replace HN := hide (OwnV.step (unhide HN) hb)); (try (have n0 := (unhide HN).cell (i := 0) rfl; have n1 := (unhide HN).cell (i := 1) rfl; have nf := (unhide HN).frozen)); have f0 := (unhide HT).c0 (g := w.heap.size) (a := x) (b := y) (by simp); have f1 := (unhide HT).c1 (g := w.heap.size) (a := x) (b := y) (by simp); have f2 := (unhide HT).c0 (g := gb) (a := c) (b := d) (by simp); have f3 := (unhide HT).c1 (g := gb) (a := c) (b := d) (by simp); clear hb; obtain rfl := (unhide HO1).same hr'; obtain rfl := (unhide HO2).same hs'))
    all_goals
      go_wp2_with fail
      go_meet
      first
        | exact ⟨_, rfl, rfl, (unhide HT).made _ _ _⟩
        | exact ⟨_, rfl, rfl, (unhide HT).fill hLN hgN (unhide HN) _ _⟩
  case rest =>
  obtain ⟨gq, rfl, rfl, HT⟩ := hcut
  clear c0 c1 c2 c3 HT6 HOV HI1 HI2
  have c0 := (unhide HT).c0 (g := gq) (a := r1) (b := r2) (by simp)
  have c1 := (unhide HT).c1 (g := gq) (a := r1) (b := r2) (by simp)
  have c2 := (unhide HT).c0 (g := w.heap.size) (a := x) (b := y) (by simp)
  have c3 := (unhide HT).c1 (g := w.heap.size) (a := x) (b := y) (by simp)
  have HAL := hide fun V => implAlike_any r1 r2 x y V
  rw [show alikeB r1 r2 x y = true by unfold alikeB; rw [(unhide HO1).order (unhide HX), (unhide HO2).order (unhide HY)]; simp] at HAL
  simp only [vW] at HAL
  go_wp2_with fail
  refine (unhide HAL _).mono ?_
  rintro e wt ⟨rfl, hb⟩
  replace HT := hide ((unhide HT).step hb)
  clear hb HAL c0 c1 c2 c3
  obtain ⟨y', ey'⟩ : ∃ z, z = Op.negFloat .f64 y := ⟨_, rfl⟩
  have HY' : Hid (isI .f64 y' (-Y)) := by rw [ey']; exact hide (unhide HY).neg
  have HLY' : Hid (y' < 18446744073709551616) := by rw [ey']; exact hide (neg_lt (unhide HLY))
  obtain ⟨y'', ey''⟩ : ∃ z, z = Op.negFloat .f64 y' := ⟨_, rfl⟩
  have HY'' : Hid (isI .f64 y'' Y) := by have := (unhide HY').neg; rw [← ey'', Int.neg_neg] at this; exact hide this
  have HB1 : Hid (∀ V, Calls Try.prog 17 #[vW x y] V fun e w' => e = .returned (vW x y') ∧ Below V.heap.size V w') := fun V => by
    refine (implBarred_any x y (unhide HLY) V).mono ?_
    rintro e w' ⟨r, s, rfl, hr, hs, hb⟩
    rw [← ey'] at hs
    obtain rfl := (unhide HX).same hr
    obtain rfl := (unhide HY').same hs
    exact ⟨rfl, hb⟩
  have HB2 : Hid (∀ V, Calls Try.prog 17 #[vW x y'] V fun e w' => e = .returned (vW x y'') ∧ Below V.heap.size V w') := fun V => by
    refine (implBarred_any x y' (unhide HLY') V).mono ?_
    rintro e w' ⟨r, s, rfl, hr, hs, hb⟩
    rw [← ey''] at hs
    obtain rfl := (unhide HX).same hr
    obtain rfl := (unhide HY'').same hs
    exact ⟨rfl, hb⟩
  simp only [vW] at HB1 HB2
  clear ey' ey''
  have c0 := (unhide HT).c0 (g := w.heap.size) (a := x) (b := y) (by simp)
  have c1 := (unhide HT).c1 (g := w.heap.size) (a := x) (b := y) (by simp)
  go_wp2_with fail
  refine (unhide HB1 _).mono ?_
  rintro e wt1 ⟨rfl, hb⟩
  replace HT := hide ((unhide HT).step hb)
  clear hb c0 c1
  go_wp2_with fail
  refine (unhide HB2 _).mono ?_
  rintro e wt2 ⟨rfl, hb⟩
  replace HT := hide (((unhide HT).step hb).made x y'' 32)
  clear hb HB2
  have c0 := (unhide HT).c0 (g := w.heap.size) (a := x) (b := y) (by simp)
  have c1 := (unhide HT).c1 (g := w.heap.size) (a := x) (b := y) (by simp)
  have HT7 := hide fun V => implTimes_any x y x y' V
  simp only [vW] at HT7
  obtain ⟨p1, ep1⟩ : ∃ z, z = tRe x y x y' := ⟨_, rfl⟩
  obtain ⟨p2, ep2⟩ : ∃ z, z = tIm x y x y' := ⟨_, rfl⟩
  rw [← ep1, ← ep2] at HT7
  obtain ⟨XX, eXX⟩ : ∃ z, z = X * X := ⟨_, rfl⟩
  obtain ⟨YY, eYY⟩ : ∃ z, z = Y * Y := ⟨_, rfl⟩
  obtain ⟨XY, eXY⟩ : ∃ z, z = X * Y := ⟨_, rfl⟩
  have qX := sq_le (x := X) hx0 hx1
  have qY := sq_le (x := Y) hy0 hy1
  rw [← eXX] at qX
  rw [← eYY] at qY
  obtain ⟨qX0, qX1⟩ := qX
  obtain ⟨qY0, qY1⟩ := qY
  have qXY : -16384 ≤ XY ∧ XY ≤ 16384 := by rw [eXY]; exact mul_le128 hx0 hx1 hy0 hy1
  obtain ⟨qXY0, qXY1⟩ := qXY
  have HP1 : Hid (isI .f64 p1 (XX + YY)) := by
    have a := ((unhide HX).fop_mul (unhide HX) (by rw [← eXX]; omega)).fop_sub ((unhide HY).fop_mul (unhide HY') (by rw [Int.mul_neg, ← eYY]; omega)) (by rw [Int.mul_neg, ← eXX, ← eYY]; omega)
    rw [show X * X - Y * -Y = XX + YY by rw [Int.mul_neg, ← eXX, ← eYY]; omega] at a
    rw [ep1]
    exact hide a
  have HP2 : Hid (isI .f64 p2 0) := by
    have a := ((unhide HX).fop_mul (unhide HY') (by rw [Int.mul_neg, ← eXY]; omega)).fop_add ((unhide HY).fop_mul (unhide HX) (by rw [Int.mul_comm, ← eXY]; omega)) (by rw [Int.mul_neg, Int.mul_comm Y X, ← eXY]; omega)
    rw [show X * -Y + Y * X = 0 by rw [Int.mul_neg, Int.mul_comm Y X, ← eXY]; omega] at a
    rw [ep2]
    exact hide a
  have m1 := (unhide HX).fop_mul (unhide HX) (by rw [← eXX]; omega)
  have m2 := (unhide HY).fop_mul (unhide HY) (by rw [← eYY]; omega)
  obtain ⟨rm1, fm1, -⟩ := (unhide HX).mul (unhide HX) (by rw [← eXX]; omega)
  obtain ⟨rm2, fm2, -⟩ := (unhide HY).mul (unhide HY) (by rw [← eYY]; omega)
  rw [← eXX, fop_of' fm1] at m1
  rw [← eYY, fop_of' fm2] at m2
  obtain ⟨rs, fs, hs⟩ := m1.add m2 (by omega)
  have rr1 : ∀ V, (binOp .mul 30 (.float .f64 x) (.float .f64 x)).run Try.prog V = .ok (.float .f64 rm1) V := fun V => run_float_arith V .mul 30 .f64 x x rm1 fm1
  have rr2 : ∀ V, (binOp .mul 30 (.float .f64 y) (.float .f64 y)).run Try.prog V = .ok (.float .f64 rm2) V := fun V => run_float_arith V .mul 30 .f64 y y rm2 fm2
  have rr3 : ∀ V, (binOp .add 30 (.float .f64 rm1) (.float .f64 rm2)).run Try.prog V = .ok (.float .f64 rs) V := fun V => run_float_arith V .add 30 .f64 rm1 rm2 rs fs
  have op1 : FloatKind.f64.format.order p1 rs = some .eq := by rw [(unhide HP1).order hs]; simp
  have op2 : FloatKind.f64.format.order p2 0 = some .eq := by rw [(unhide HP2).order isI_0]; simp
  clear ep1 ep2 eXX eYY eXY m1 m2 fm1 fm2 fs hs qX0 qX1 qY0 qY1 qXY0 qXY1
  go_wp2_with fail
  obtain ⟨V0', eV⟩ : ∃ z, z = wt2.alloc (.cells #[.float .f64 x, .float .f64 y''] 32) := ⟨_, rfl⟩
  rw [← eV] at HT c0 c1 ⊢
  clear eV
  generalize wt2.heap.size = gc at *
  go_cut [9] (fun pv wx => ∃ gp, pv = .pointer (some ⟨gp, 0, none⟩) ∧ Hid (Bxs w wx [(gp, p1, p2), (gc, x, y''), (gq, r1, r2), (gb, c, d), (w.heap.size, x, y)]))
  case first =>
    go_region_held3 (fun w' => w'.cell? ⟨w.heap.size, 0, none⟩ = some (.float .f64 x) ∧ w'.cell? ⟨w.heap.size, 1, none⟩ = some (.float .f64 y)) (go_keep) (first | (go_at_call 17; refine (unhide HB1 _).mono ?_; rintro e wt ⟨rfl, hb⟩; have hLq := (unhide HT).lt; have hgq := (unhide HT).below.size; (first | (have HT' := hide ((unhide HT).step hb)) | (have HT' := hide ((unhide HT).step (below_undrew' hb))) | (have HT' := hide ((unhide HT).step (Below.step (Below.alloc1 _ _) hb)); have HN := hide (OwnV.step (ownV_alloc _ _ _) hb); have hgN := hgq; have hLN := hLq; obtain ⟨ma0, mb0⟩ := (unhide HT).apart (g := w.heap.size) (a := x) (b := y) (by simp)) | (have HT' := hide ((unhide HT).step (Below.step (Below.alloc1 _ _) (below_undrew' hb))); have HN := hide (OwnV.step (OwnV.drew (ownV_alloc _ _ _)) hb); have hgN := hgq; have hLN := hLq; obtain ⟨ma0, mb0⟩ := (unhide HT).apart (g := w.heap.size) (a := x) (b := y) (by simp))); replace HT := HT'; clear HT' hgq hLq; (try replace HN := hide (OwnV.step (unhide HN) hb)); (try (have n0 := (unhide HN).cell (i := 0) rfl; have n1 := (unhide HN).cell (i := 1) rfl; have nf := (unhide HN).frozen)); have f0 := (unhide HT).c0 (g := w.heap.size) (a := x) (b := y) (by simp); have f1 := (unhide HT).c1 (g := w.heap.size) (a := x) (b := y) (by simp); clear hb) | (go_at_call 9; refine (unhide HT7 _).mono ?_; rintro e wt ⟨r, s, rfl, hr, hs, hb⟩; have hLq := (unhide HT).lt; have hgq := (unhide HT).below.size; (first | (have HT' := hide ((unhide HT).step hb)) | (have HT' := hide ((unhide HT).step (below_undrew' hb))) | (have HT' := hide ((unhide HT).step (Below.step (Below.alloc1 _ _) hb)); have HN := hide (OwnV.step (ownV_alloc _ _ _) hb); have hgN := hgq; have hLN := hLq; obtain ⟨ma0, mb0⟩ := (unhide HT).apart (g := w.heap.size) (a := x) (b := y) (by simp)) | (have HT' := hide ((unhide HT).step (Below.step (Below.alloc1 _ _) (below_undrew' hb))); have HN := hide (OwnV.step (OwnV.drew (ownV_alloc _ _ _)) hb); have hgN := hgq; have hLN := hLq; obtain ⟨ma0, mb0⟩ := (unhide HT).apart (g := w.heap.size) (a := x) (b := y) (by simp))); replace HT := HT'; clear HT' hgq hLq; (try replace HN := hide (OwnV.step (unhide HN) hb)); (try (have n0 := (unhide HN).cell (i := 0) rfl; have n1 := (unhide HN).cell (i := 1) rfl; have nf := (unhide HN).frozen)); have f0 := (unhide HT).c0 (g := w.heap.size) (a := x) (b := y) (by simp); have f1 := (unhide HT).c1 (g := w.heap.size) (a := x) (b := y) (by simp); clear hb; obtain rfl := (unhide HP1).same hr; obtain rfl := (unhide HP2).same hs))
    all_goals
      go_wp2_with fail
      go_meet
      first
        | exact ⟨_, rfl, (unhide HT).made _ _ _⟩
        | exact ⟨_, rfl, (unhide HT).fill hLN hgN (unhide HN) _ _⟩
  case rest =>
  obtain ⟨gp, rfl, HT⟩ := hcut
  clear c0 c1 HT7 HB1
  have c0 := (unhide HT).c0 (g := w.heap.size) (a := x) (b := y) (by simp)
  have c1 := (unhide HT).c1 (g := w.heap.size) (a := x) (b := y) (by simp)
  have HON := hide fun V => implOver_any x y 0 0 (unhide HLX) (unhide HLY) (by decide) (by decide) V
  rw [over_none] at HON
  simp only [vW] at HON
  go_wp2_with fail
  refine (unhide HON _).mono ?_
  rintro e wt3 ⟨rn, sn, rfl, -, -, hb⟩
  replace HT := hide (((unhide HT).step hb).step (Below.alloc1 wt3 (.cells #[.float .f64 rn, .float .f64 sn] 32)))
  clear hb c0 c1 HON
  obtain ⟨n3, en3⟩ := Int.eq_ofNat_of_zero_le y30
  have hrp := rpD_zero (n := n3) (by omega)
  rw [← en3] at hrp
  obtain ⟨z3, ez3⟩ : ∃ z, floatOfInt .f64 y3 = z := ⟨_, rfl⟩
  rw [ez3] at hrp
  have HRP := hide fun V => implReply_any 0 z3 V
  rw [hrp, rpC_zero, reply_ok, reply_one] at HRP
  simp only [vW] at HRP
  clear hrp en3
  go_wp2_with fail
  refine (unhide AT3 _ (unhide HT).below).mono ?_
  rintro e wt4 ⟨rfl, h9⟩
  rw [← h9] at HT
  clear h9
  go_wp2_with fail
  refine (unhide HRP _).mono ?_
  rintro e wt5 ⟨rr, ss, rfl, hr, -, hb⟩
  obtain rfl := isI_one.same hr
  replace HT := hide (((unhide HT).step hb).made one64 ss 32)
  clear hb hr HRP
  have HAL := hide fun V => implAlike_any x y'' x y V
  rw [show alikeB x y'' x y = true by unfold alikeB; rw [(unhide HX).order (unhide HX), (unhide HY'').order (unhide HY)]; simp] at HAL
  simp only [vW] at HAL
  have o1 : FloatKind.f64.format.order 4607182418800017408 4607182418800017408 = some .eq := by decide +kernel
  have c0 := (unhide HT).c0 (g := gc) (a := x) (b := y'') (by simp)
  have c1 := (unhide HT).c1 (g := gc) (a := x) (b := y'') (by simp)
  have c2 := (unhide HT).c0 (g := w.heap.size) (a := x) (b := y) (by simp)
  have c3 := (unhide HT).c1 (g := w.heap.size) (a := x) (b := y) (by simp)
  go_wp2_with fail
  refine (unhide HAL _).mono ?_
  rintro e wt6 ⟨rfl, hb⟩
  replace HT := hide ((unhide HT).step hb)
  clear hb HAL c0 c1 c2 c3
  generalize wt5.heap.size = gr at *
  have c2 := (unhide HT).c0 (g := w.heap.size) (a := x) (b := y) (by simp)
  have c3 := (unhide HT).c1 (g := w.heap.size) (a := x) (b := y) (by simp)
  have c4 := (unhide HT).c0 (g := gp) (a := p1) (b := p2) (by simp)
  have c5 := (unhide HT).c1 (g := gp) (a := p1) (b := p2) (by simp)
  have c6 := (unhide HT).c0 (g := gr) (a := one64) (b := ss) (by simp)
  go_wp2
  go_ret
  exact ⟨rfl, (unhide HT).below⟩

end Go.Proofs.Ytokmkhflfbkgjaa

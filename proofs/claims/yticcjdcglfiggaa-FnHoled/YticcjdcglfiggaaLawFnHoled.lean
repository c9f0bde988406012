/- FnHoled: whatever the bytes, rooms that let nothing in change nothing, others leave no more volume, and a list of cases stands well just if each does. Written by wip/mkholed.py. -/
import Derived.Test.YticcjdcglfiggaaHoA
import Derived.Deep.RegionWith
import Derived.Deep.RegionHeld3
namespace Go.Proofs.Yticcjdcglfiggaa
open Go.RowKit

set_option maxHeartbeats 6400000 in
theorem fnHoled_any (v : Value) (nb : Nat) (w : World) (h : BytesIn w.heap.size w v nb) :
    Calls Try.prog 4 #[v] w fun e w' => e = .returned (.bool true) ∧ Below w.heap.size w w' := by
  have HB := hide h
  obtain ⟨vao, vcap, rfl, hl, hm, _⟩ := h
  unfold maxLen at hm
  by_cases hbig : (1048576 : Int) < (nb : Int)
  · go_enter Try.func4, Try.ntmps4
    go_wp2_with fail
    refine (big_any _ _ _ _).mono ?_
    rintro e w' ⟨rfl, rfl⟩
    go_wp2
    go_ret
    exact ⟨rfl, Below.refl _ _⟩
  have hn : nb ≤ 1048576 := by omega
  obtain ⟨y2, y20, y21, at2⟩ := at_fix _ nb 2 w (unhide HB) hn (by omega)
  obtain ⟨y3, y30, y31, at3⟩ := at_fix _ nb 3 w (unhide HB) hn (by omega)
  obtain ⟨y4, y40, y41, at4⟩ := at_fix _ nb 4 w (unhide HB) hn (by omega)
  obtain ⟨y5, y50, y51, at5⟩ := at_fix _ nb 5 w (unhide HB) hn (by omega)
  obtain ⟨y6, y60, y61, at6⟩ := at_fix _ nb 6 w (unhide HB) hn (by omega)
  have AT2 := hide at2
  have AT3 := hide at3
  have AT4 := hide at4
  have AT5 := hide at5
  have AT6 := hide at6
  clear at2 at3 at4 at5 at6
  go_enter Try.func4, Try.ntmps4
  go_wp2_with fail
  refine (big_any _ _ _ _).mono ?_
  rintro e w' ⟨rfl, rfl⟩
  go_wp2_with fail
  refine (drawRightHull_any _ nb w (unhide HB) hn).mono ?_
  rintro e w1 ⟨step, rise, R, ao, n, cap, x, rfl, hR, hok, hx0, hx1, hb⟩
  obtain ⟨ao', cap', ev, _, _, _⟩ := id hR
  simp only [Value.slice.injEq] at ev
  obtain ⟨rfl, rfl, rfl⟩ := ev
  have HR0 := hide hR
  have HOK := hide hok.1
  have hl1 := (hullOk_right hok.1).len1
  have hl2 := (hullOk_right hok.1).len2
  have HZ := hide (Below.refl w1.heap.size w1)
  have HW := hide hb
  have zw := hb.size
  clear hR hb hok hx0 hx1
  have AHX := Below.alloc1 (w1) (.cells #[.int .i64 step, .int .i64 rise, .slice ao R.length cap] 26)
  replace HW := hide (Below.step (unhide HW) AHX)
  replace HZ := hide (Below.step (unhide HZ) AHX)
  have HX := hide (ownV_alloc (w1) #[.int .i64 step, .int .i64 rise, .slice ao R.length cap] 26)
  clear AHX
  have cHX0 := OwnV.cell (unhide HX) (i := 0) rfl
  have cHX1 := OwnV.cell (unhide HX) (i := 1) rfl
  have cHX2 := OwnV.cell (unhide HX) (i := 2) rfl
  have hRne : ¬ ((R.length : Int) = 0) := by omega
  go_wp2
  go_quiet ((go_at_call 19; exact Calls.quiet_of_same (unhide AT2 _ (below_drewN (unhide HW) _))))
  clear cHX0 cHX1 cHX2
  have hd : Below ((w1).alloc (.cells #[.int .i64 step, .int .i64 rise, .slice ao R.length cap] 26)).heap.size ((w1).alloc (.cells #[.int .i64 step, .int .i64 rise, .slice ao R.length cap] 26)) (((w1).alloc (.cells #[.int .i64 step, .int .i64 rise, .slice ao R.length cap] 26)).drewN nq) := below_drewN (Below.refl _ _) nq
  replace HW := hide (Below.step (unhide HW) hd)
  replace HZ := hide (Below.step (unhide HZ) hd)
  replace HX := hide (OwnV.step (unhide HX) hd)
  clear hd
  obtain ⟨w2, ew2⟩ : ∃ x, x = ((w1).alloc (.cells #[.int .i64 step, .int .i64 rise, .slice ao R.length cap] 26)).drewN nq := ⟨_, rfl⟩
  rw [← ew2] at HW HZ HX ⊢
  have z2 : w1.heap.size + 1 ≤ w2.heap.size := by rw [ew2]; simp
  clear ew2
  have hla : 0 ≤ y2 % (R.length : Int) ∧ y2 % (R.length : Int) < R.length := by have := Int.emod_nonneg y2 hRne; have := Int.emod_lt_of_pos y2 (show (0 : Int) < R.length by omega); omega
  generalize y2 % (R.length : Int) = la at *
  clear y20 y21 AT2
  have cHX0 := OwnV.cell (unhide HX) (i := 0) rfl
  have cHX1 := OwnV.cell (unhide HX) (i := 1) rfl
  have cHX2 := OwnV.cell (unhide HX) (i := 2) rfl
  go_wp2_with fail
  clear cHX0 cHX1 cHX2
  have AHQ0 := Below.alloc1 (w2) (.cells #[.int .i64 0, .int .i64 la, .int .i64 0] 37)
  replace HW := hide (Below.step (unhide HW) AHQ0)
  replace HZ := hide (Below.step (unhide HZ) AHQ0)
  replace HX := hide (OwnV.step (unhide HX) AHQ0)
  have HQ0 := hide (ownV_alloc (w2) #[.int .i64 0, .int .i64 la, .int .i64 0] 37)
  clear AHQ0
  have HQ0r : Hid (R3 ((w2).alloc (.cells #[.int .i64 0, .int .i64 la, .int .i64 0] 37)) (.slice (some ⟨w2.heap.size, 0, none⟩) 1 1) [(0, la, 0)]) := by
    have h := OwnV.recsIn (n := 3) (enc := e3) (L := [(0, la, 0)]) (cap := 1) (by rw [rec1_cells]; exact unhide HQ0) (by simp) (by unfold maxLen; omega)
    exact h
  have hrb0 := roomsB_one (step := step) (rise := rise) (R := R) (a := 0) (b := la) (z := 0) (unhide HOK) (by omega) hla.1 hla.2 (by omega) (by omega)
  have hf0 := flood_none hrb0
  have HRB0 := hide hrb0
  clear hrb0
  refine (implFlood_any step rise _ R _ [(0, la, 0)] _ ((unhide HR0).below (unhide HZ)) (unhide HQ0r)).mono ?_
  rintro e w3 ⟨a0, n0, cp0, rfl, hr, hb⟩
  replace HW := hide (Below.step (unhide HW) hb)
  replace HZ := hide (Below.step (unhide HZ) hb)
  replace HX := hide (OwnV.step (unhide HX) hb)
  replace HQ0 := hide (OwnV.step (unhide HQ0) hb)
  replace HQ0r := hide ((unhide HQ0r).below hb)
  rw [hf0.1, hf0.2.1]
  rw [hf0.2.2] at hr
  have HRN := hide hr.upto.inn
  have zw3 := hb.size
  simp only [World.size_alloc] at zw3
  clear hb hr hf0
  have AHN := Below.alloc1 (w3) (.cells #[.int .i64 step, .int .i64 rise, .slice a0 n0 cp0] 26)
  replace HW := hide (Below.step (unhide HW) AHN)
  replace HZ := hide (Below.step (unhide HZ) AHN)
  replace HX := hide (OwnV.step (unhide HX) AHN)
  replace HQ0 := hide (OwnV.step (unhide HQ0) AHN)
  replace HQ0r := hide ((unhide HQ0r).below AHN)
  replace HRN := hide ((unhide HRN).below AHN)
  have HN := hide (ownV_alloc (w3) #[.int .i64 step, .int .i64 rise, .slice a0 n0 cp0] 26)
  clear AHN
  obtain ⟨V, eV⟩ : ∃ V, V = volume step rise R x := ⟨_, rfl⟩
  have EV := hide eV
  clear eV
  obtain ⟨w4, ew4⟩ : ∃ x, x = (w3).alloc (.cells #[.int .i64 step, .int .i64 rise, .slice a0 n0 cp0] 26) := ⟨_, rfl⟩
  rw [← ew4] at HW HZ HX HQ0 HQ0r HRN HN
  have Ew4 := hide ew4
  have zw4 : w3.heap.size + 1 ≤ w4.heap.size := by rw [ew4]; simp
  clear ew4
  go_wp2
  rw [← unhide Ew4]
  clear Ew4
  have rHN0 := fun y : Gr w4 => gr_cell (OwnV.cell (unhide HN) (i := 0) rfl) y
  have rHN1 := fun y : Gr w4 => gr_cell (OwnV.cell (unhide HN) (i := 1) rfl) y
  have rHN2 := fun y : Gr w4 => gr_cell (OwnV.cell (unhide HN) (i := 2) rfl) y
  have rHX0 := fun y : Gr w4 => gr_cell (OwnV.cell (unhide HX) (i := 0) rfl) y
  have rHX1 := fun y : Gr w4 => gr_cell (OwnV.cell (unhide HX) (i := 1) rfl) y
  have rHX2 := fun y : Gr w4 => gr_cell (OwnV.cell (unhide HX) (i := 2) rfl) y
  have S0 := hide fun y : Gr w4 => implHullOk_any step rise _ R y.val ((unhide HRN).below y.ok)
  rw [unhide HOK] at S0
  have S1 := hide fun y : Gr w4 => implVolume2_any step rise _ R x y.val ((unhide HRN).below y.ok)
  rw [← unhide EV] at S1
  have S2 := hide fun y : Gr w4 => specVolume2_any step rise _ R x y.val (((unhide HR0).below (unhide HZ)).below y.ok)
  rw [← unhide EV] at S2
  have gsome := gr_some w4
  refine wp_region_grown (by kernel_rfl) (by kernel_rfl) ?_
  repeat (go_big_quiet_step (fail))
  go_big_quiet_want
  go_big_quiet_op
  go_big_quiet_call (exact calls_grown (unhide S0 _))
  repeat (go_big_quiet_step (fail))
  go_big_quiet_want
  go_big_quiet_op
  go_big_quiet_call (exact calls_grown (unhide S1 _))
  repeat (go_big_quiet_step (fail))
  go_big_quiet_want
  go_big_quiet_op
  go_big_quiet_call (exact calls_grown (unhide S2 _))
  repeat (go_big_quiet_step (fail))
  refine wpQuiet_nil ?_
  intro w5 hw
  obtain ⟨zz, hz⟩ := hw
  have hb : Below w4.heap.size w4 w5 := hz ▸ zz.ok
  replace HW := hide (Below.step (unhide HW) hb)
  replace HZ := hide (Below.step (unhide HZ) hb)
  replace HX := hide (OwnV.step (unhide HX) hb)
  replace HQ0 := hide (OwnV.step (unhide HQ0) hb)
  replace HQ0r := hide ((unhide HQ0r).below hb)
  replace HRN := hide ((unhide HRN).below hb)
  replace HN := hide (OwnV.step (unhide HN) hb)
  have zw5 := hb.size
  clear hb hz zz gsome rHN0 rHN1 rHN2 rHX0 rHX1 rHX2 S0 S1 S2
  clear HN HRN HQ0 HQ0r
  have cHX0 := OwnV.cell (unhide HX) (i := 0) rfl
  have cHX1 := OwnV.cell (unhide HX) (i := 1) rfl
  have cHX2 := OwnV.cell (unhide HX) (i := 2) rfl
  have AT3' := hide (unhide AT3 (w5).drew ((unhide HW).drew))
  have k3 : IntKind.i64.wrap ((R.length : Int) - 1) = (R.length : Int) - 1 := by rw [IntKind.wrap_i64]; omega
  go_wp2
  go_region_held3 (fun w' => w'.cell? ⟨w1.heap.size, 2, none⟩ = some (.slice ao R.length cap)) (go_keep) (first | (go_at_call 19; refine (unhide AT3').mono ?_; rintro e w' ⟨rfl, rfl⟩))
  clear cHX0 cHX1 cHX2
  clear AT3' k3
  have hpm : 0 ≤ y3.tmod 101 ∧ y3.tmod 101 ≤ 100 := by have := Int.tmod_nonneg 101 y30; have := Int.tmod_lt_of_pos y3 (show (0 : Int) < 101 by omega); omega
  generalize y3.tmod 101 = pm at *
  obtain ⟨lb, elb⟩ : ∃ b, b = (R.length : Int) - 1 := ⟨_, rfl⟩
  rw [← elb]
  have hlb : lb < R.length ∧ la ≤ lb := by omega
  clear elb y30 y31 AT3
  have hg1 : w5.heap.size = w5.heap.size := rfl
  clear hg1
  have AHQ1 := Below.alloc1 (w5) (.cells #[.int .i64 la, .int .i64 lb, .int .i64 pm] 37)
  replace HW := hide (Below.step (unhide HW) AHQ1)
  replace HZ := hide (Below.step (unhide HZ) AHQ1)
  replace HX := hide (OwnV.step (unhide HX) AHQ1)
  have HQ1 := hide (ownV_alloc (w5) #[.int .i64 la, .int .i64 lb, .int .i64 pm] 37)
  clear AHQ1
  have HQ1r : Hid (R3 ((w5).alloc (.cells #[.int .i64 la, .int .i64 lb, .int .i64 pm] 37)) (.slice (some ⟨w5.heap.size, 0, none⟩) 1 1) [(la, lb, pm)]) := by
    have h := OwnV.recsIn (n := 3) (enc := e3) (L := [(la, lb, pm)]) (cap := 1) (by rw [rec1_cells]; exact unhide HQ1) (by simp) (by unfold maxLen; omega)
    exact h
  have hd : Below ((w5).alloc (.cells #[.int .i64 la, .int .i64 lb, .int .i64 pm] 37)).heap.size ((w5).alloc (.cells #[.int .i64 la, .int .i64 lb, .int .i64 pm] 37)) ((w5).alloc (.cells #[.int .i64 la, .int .i64 lb, .int .i64 pm] 37)).drew := (Below.refl _ _).drew
  replace HW := hide (Below.step (unhide HW) hd)
  replace HZ := hide (Below.step (unhide HZ) hd)
  replace HX := hide (OwnV.step (unhide HX) hd)
  replace HQ1 := hide (OwnV.step (unhide HQ1) hd)
  replace HQ1r := hide ((unhide HQ1r).below hd)
  clear hd
  obtain ⟨w6, ew6⟩ : ∃ x, x = ((w5).alloc (.cells #[.int .i64 la, .int .i64 lb, .int .i64 pm] 37)).drew := ⟨_, rfl⟩
  rw [← ew6] at HW HZ HX HQ1 HQ1r ⊢
  have zw6 : w5.heap.size + 1 ≤ w6.heap.size := by rw [ew6]; simp
  clear ew6
  have hrb1 := roomsB_one (step := step) (rise := rise) (R := R) (a := la) (b := lb) (z := pm) (unhide HOK) hla.1 hlb.2 hlb.1 hpm.1 hpm.2
  have HRB1 := hide hrb1
  have hf1 := flood_one hrb1
  have hP : ∀ q, q < R.length → 0 ≤ permTo [(la, lb, pm)] q 1 ∧ permTo [(la, lb, pm)] q 1 ≤ 100 := fun q _ => by rw [permTo_one]; split <;> omega
  have hvol := volume_dips (unhide HOK) (P := fun q => permTo [(la, lb, pm)] q 1) hP x
  rw [← unhide EV] at hvol
  have hMl : (fRows step rise R [(la, lb, pm)]).length = R.length := by rw [hf1.2.2, dips_len]
  have hvol2 : volume step rise (fRows step rise R [(la, lb, pm)]) x ≤ V := by rw [hf1.2.2]; exact hvol
  clear hvol hP hrb1
  have hfs := hf1.1
  have hfr := hf1.2.1
  have HFS := hide hfs
  have HFR := hide hfr
  clear hfs hfr hf1
  have cHX0 := OwnV.cell (unhide HX) (i := 0) rfl
  have cHX1 := OwnV.cell (unhide HX) (i := 1) rfl
  have cHX2 := OwnV.cell (unhide HX) (i := 2) rfl
  have HML := hide hMl
  have HV2 := hide hvol2
  clear hMl hvol2
  go_wp2_with fail
  clear cHX0 cHX1 cHX2
  refine (implFlood_any step rise _ R _ [(la, lb, pm)] _ ((unhide HR0).below (unhide HZ)) (unhide HQ1r)).mono ?_
  rintro e w7 ⟨a1, n1, cp1, rfl, hr, hb⟩
  replace HW := hide (Below.step (unhide HW) hb)
  replace HZ := hide (Below.step (unhide HZ) hb)
  replace HX := hide (OwnV.step (unhide HX) hb)
  replace HQ1 := hide (OwnV.step (unhide HQ1) hb)
  replace HQ1r := hide ((unhide HQ1r).below hb)
  rw [unhide HFS, unhide HFR]
  obtain ⟨MM, eMM⟩ : ∃ x, x = fRows step rise R [(la, lb, pm)] := ⟨_, rfl⟩
  rw [← eMM] at hr HML HV2
  clear eMM
  have hri := hr.upto.inn
  have HRM := hide hri
  obtain ⟨_, _, ev1, _, _, _⟩ := hri
  simp only [Value.slice.injEq] at ev1
  have en1 : n1 = R.length := ev1.2.1.trans (unhide HML)
  clear ev1
  subst en1
  have zw7 := hb.size
  clear hb hr
  have AHN := Below.alloc1 (w7) (.cells #[.int .i64 step, .int .i64 rise, .slice a1 R.length cp1] 26)
  replace HW := hide (Below.step (unhide HW) AHN)
  replace HZ := hide (Below.step (unhide HZ) AHN)
  replace HX := hide (OwnV.step (unhide HX) AHN)
  replace HQ1 := hide (OwnV.step (unhide HQ1) AHN)
  replace HQ1r := hide ((unhide HQ1r).below AHN)
  replace HRM := hide ((unhide HRM).below AHN)
  have HN := hide (ownV_alloc (w7) #[.int .i64 step, .int .i64 rise, .slice a1 R.length cp1] 26)
  clear AHN
  obtain ⟨V2, eV2⟩ : ∃ V2, V2 = volume step rise MM x := ⟨_, rfl⟩
  have hv2 := unhide HV2
  rw [← eV2] at hv2
  have EV2 := hide eV2
  have dv2 : decide (V < V2) = false := by simp; omega
  clear eV2 hv2 HV2
  obtain ⟨w8, ew8⟩ : ∃ x, x = (w7).alloc (.cells #[.int .i64 step, .int .i64 rise, .slice a1 R.length cp1] 26) := ⟨_, rfl⟩
  rw [← ew8] at HW HZ HX HQ1 HQ1r HRM HN
  have Ew8 := hide ew8
  have zw8 : w7.heap.size + 1 ≤ w8.heap.size := by rw [ew8]; simp
  clear ew8
  go_wp2
  rw [← unhide Ew8]
  clear Ew8
  have rHN0 := fun y : Gr w8 => gr_cell (OwnV.cell (unhide HN) (i := 0) rfl) y
  have rHN1 := fun y : Gr w8 => gr_cell (OwnV.cell (unhide HN) (i := 1) rfl) y
  have rHN2 := fun y : Gr w8 => gr_cell (OwnV.cell (unhide HN) (i := 2) rfl) y
  have rHX0 := fun y : Gr w8 => gr_cell (OwnV.cell (unhide HX) (i := 0) rfl) y
  have rHX1 := fun y : Gr w8 => gr_cell (OwnV.cell (unhide HX) (i := 1) rfl) y
  have rHX2 := fun y : Gr w8 => gr_cell (OwnV.cell (unhide HX) (i := 2) rfl) y
  have S0 := hide fun y : Gr w8 => implRoomsOk_any step rise _ R _ [(la, lb, pm)] y.val (((unhide HR0).below (unhide HZ)).below y.ok) ((unhide HQ1r).below y.ok)
  rw [unhide HRB1] at S0
  have S1 := hide fun y : Gr w8 => implVolume2_any step rise _ MM x y.val ((unhide HRM).below y.ok)
  rw [← unhide EV2] at S1
  have S2 := hide fun y : Gr w8 => specVolume2_any step rise _ R x y.val (((unhide HR0).below (unhide HZ)).below y.ok)
  rw [← unhide EV] at S2
  have gsome := gr_some w8
  refine wp_region_grown (by kernel_rfl) (by kernel_rfl) ?_
  repeat (go_big_quiet_step (fail))
  go_big_quiet_want
  go_big_quiet_op
  go_big_quiet_call (exact calls_grown (unhide S0 _))
  repeat (go_big_quiet_step (fail))
  go_big_quiet_want
  go_big_quiet_op
  go_big_quiet_call (exact calls_grown (unhide S1 _))
  repeat (go_big_quiet_step (fail))
  go_big_quiet_want
  go_big_quiet_op
  go_big_quiet_call (exact calls_grown (unhide S2 _))
  repeat (go_big_quiet_step (fail))
  refine wpQuiet_nil ?_
  intro w9 hw
  obtain ⟨zz, hz⟩ := hw
  have hb : Below w8.heap.size w8 w9 := hz ▸ zz.ok
  replace HW := hide (Below.step (unhide HW) hb)
  replace HZ := hide (Below.step (unhide HZ) hb)
  replace HX := hide (OwnV.step (unhide HX) hb)
  replace HQ1 := hide (OwnV.step (unhide HQ1) hb)
  replace HQ1r := hide ((unhide HQ1r).below hb)
  replace HRM := hide ((unhide HRM).below hb)
  replace HN := hide (OwnV.step (unhide HN) hb)
  have zw9 := hb.size
  clear hb hz zz gsome rHN0 rHN1 rHN2 rHX0 rHX1 rHX2 S0 S1 S2
  clear HN HRM
  clear dv2
  have cHX0 := OwnV.cell (unhide HX) (i := 0) rfl
  have cHX1 := OwnV.cell (unhide HX) (i := 1) rfl
  have cHX2 := OwnV.cell (unhide HX) (i := 2) rfl
  have hzx := (unhide HX).lt
  have HX9 := hide (unhide HX)
  have qx0 := fun o1 o2 o3 o4 => OwnV.cell (OwnV.alloc (OwnV.alloc (OwnV.alloc (OwnV.alloc (unhide HX9) o1) o2) o3) o4) (i := 0) rfl
  have qx1 := fun o1 o2 o3 o4 => OwnV.cell (OwnV.alloc (OwnV.alloc (OwnV.alloc (OwnV.alloc (unhide HX9) o1) o2) o3) o4) (i := 1) rfl
  have qx2 := fun o1 o2 o3 o4 => OwnV.cell (OwnV.alloc (OwnV.alloc (OwnV.alloc (OwnV.alloc (unhide HX9) o1) o2) o3) o4) (i := 2) rfl
  clear HX9
  go_wp2_with fail
  refine (unhide AT4 _ (unhide HW)).mono ?_
  rintro e w' ⟨rfl, hw'⟩
  have hw'' := hw'.symm
  clear hw'
  subst hw''
  go_wp2_with fail
  refine (unhide AT5 _ (unhide HW)).mono ?_
  rintro e w' ⟨rfl, hw'⟩
  have hw'' := hw'.symm
  clear hw'
  subst hw''
  have hq4 : 0 ≤ y4 % 90 ∧ y4 % 90 < 90 := by omega
  have hq5 : 0 ≤ y5 % 6 ∧ y5 % 6 < 6 := by omega
  have hq6 : 0 ≤ y6 % 5 ∧ y6 % 5 < 5 := by omega
  have AT6' := hide fun o => unhide AT6 (w9.alloc o) (Below.step (unhide HW) (Below.alloc1 _ _))
  go_wp2_with fail
  refine (unhide AT6' _).mono ?_
  rintro e w' ⟨rfl, rfl⟩
  generalize y4 % 90 = q4 at *
  generalize y5 % 6 = q5 at *
  have AHM := Below.alloc1 (w9) (.cells #[.int .i64 (1 + q4), .int .i64 0, .int .i64 q5] 41)
  replace HW := hide (Below.step (unhide HW) AHM)
  replace HZ := hide (Below.step (unhide HZ) AHM)
  replace HX := hide (OwnV.step (unhide HX) AHM)
  replace HQ1 := hide (OwnV.step (unhide HQ1) AHM)
  replace HQ1r := hide ((unhide HQ1r).below AHM)
  have HM := hide (ownV_alloc (w9) #[.int .i64 (1 + q4), .int .i64 0, .int .i64 q5] 41)
  clear AHM
  have HMr : Hid (R3 ((w9).alloc (.cells #[.int .i64 (1 + q4), .int .i64 0, .int .i64 q5] 41)) (.slice (some ⟨w9.heap.size, 0, none⟩) 1 1) [(1 + q4, 0, q5)]) := by
    have h := OwnV.recsIn (n := 3) (enc := e3) (L := [(1 + q4, 0, q5)]) (cap := 1) (by rw [rec1_cells]; exact unhide HM) (by simp) (by unfold maxLen; omega)
    exact h
  have k6 : IntKind.i64.wrap (y6 % 5 - 2) = y6 % 5 - 2 := by rw [IntKind.wrap_i64]; omega
  go_wp2_with fail
  clear cHX0 cHX1 cHX2
  clear k6 hzx qx0 qx1 qx2
  obtain ⟨nn, enn⟩ : ∃ b, b = y6 % 5 - 2 := ⟨_, rfl⟩
  rw [← enn]
  clear enn AT4 AT5 AT6 AT6'
  have AHF := Below.alloc1 ((w9).alloc (.cells #[.int .i64 (1 + q4), .int .i64 0, .int .i64 q5] 41)) (.cells #[.int .i64 nn, .int .i64 1] 44)
  replace HW := hide (Below.step (unhide HW) AHF)
  replace HZ := hide (Below.step (unhide HZ) AHF)
  replace HX := hide (OwnV.step (unhide HX) AHF)
  replace HQ1 := hide (OwnV.step (unhide HQ1) AHF)
  replace HQ1r := hide ((unhide HQ1r).below AHF)
  replace HM := hide (OwnV.step (unhide HM) AHF)
  replace HMr := hide ((unhide HMr).below AHF)
  have HF : Hid (OwnV (((w9).alloc (.cells #[.int .i64 (1 + q4), .int .i64 0, .int .i64 q5] 41)).alloc (.cells #[.int .i64 nn, .int .i64 1] 44)) (w9.heap.size + 1) [.int .i64 nn, .int .i64 1]) := by
    have h := ownV_alloc ((w9).alloc (.cells #[.int .i64 (1 + q4), .int .i64 0, .int .i64 q5] 41)) #[.int .i64 nn, .int .i64 1] 44
    simp only [World.size_alloc] at h
    exact h
  clear AHF
  have AHQ2 := Below.alloc1 (((w9).alloc (.cells #[.int .i64 (1 + q4), .int .i64 0, .int .i64 q5] 41)).alloc (.cells #[.int .i64 nn, .int .i64 1] 44)) (.cells #[.int .i64 0, .int .i64 la, .int .i64 0] 37)
  replace HW := hide (Below.step (unhide HW) AHQ2)
  replace HZ := hide (Below.step (unhide HZ) AHQ2)
  replace HX := hide (OwnV.step (unhide HX) AHQ2)
  replace HQ1 := hide (OwnV.step (unhide HQ1) AHQ2)
  replace HQ1r := hide ((unhide HQ1r).below AHQ2)
  replace HM := hide (OwnV.step (unhide HM) AHQ2)
  replace HMr := hide ((unhide HMr).below AHQ2)
  replace HF := hide (OwnV.step (unhide HF) AHQ2)
  have HQ2 : Hid (OwnV ((((w9).alloc (.cells #[.int .i64 (1 + q4), .int .i64 0, .int .i64 q5] 41)).alloc (.cells #[.int .i64 nn, .int .i64 1] 44)).alloc (.cells #[.int .i64 0, .int .i64 la, .int .i64 0] 37)) (w9.heap.size + 1 + 1) [.int .i64 0, .int .i64 la, .int .i64 0]) := by
    have h := ownV_alloc (((w9).alloc (.cells #[.int .i64 (1 + q4), .int .i64 0, .int .i64 q5] 41)).alloc (.cells #[.int .i64 nn, .int .i64 1] 44)) #[.int .i64 0, .int .i64 la, .int .i64 0] 37
    simp only [World.size_alloc] at h
    exact h
  clear AHQ2
  have HQ2r : Hid (R3 ((((w9).alloc (.cells #[.int .i64 (1 + q4), .int .i64 0, .int .i64 q5] 41)).alloc (.cells #[.int .i64 nn, .int .i64 1] 44)).alloc (.cells #[.int .i64 0, .int .i64 la, .int .i64 0] 37)) (.slice (some ⟨w9.heap.size + 1 + 1, 0, none⟩) 1 1) [(0, la, 0)]) := by
    have h := OwnV.recsIn (n := 3) (enc := e3) (L := [(0, la, 0)]) (cap := 1) (by rw [rec1_cells]; exact unhide HQ2) (by simp) (by unfold maxLen; omega)
    exact h
  have AHT := Below.alloc1 ((((w9).alloc (.cells #[.int .i64 (1 + q4), .int .i64 0, .int .i64 q5] 41)).alloc (.cells #[.int .i64 nn, .int .i64 1] 44)).alloc (.cells #[.int .i64 0, .int .i64 la, .int .i64 0] 37)) (.cells #[.slice (some ⟨w9.heap.size + 1 + 1, 0, none⟩) 1 1, .slice (some ⟨w5.heap.size, 0, none⟩) 1 1] 38)
  replace HW := hide (Below.step (unhide HW) AHT)
  replace HZ := hide (Below.step (unhide HZ) AHT)
  replace HX := hide (OwnV.step (unhide HX) AHT)
  replace HQ1 := hide (OwnV.step (unhide HQ1) AHT)
  replace HQ1r := hide ((unhide HQ1r).below AHT)
  replace HM := hide (OwnV.step (unhide HM) AHT)
  replace HMr := hide ((unhide HMr).below AHT)
  replace HF := hide (OwnV.step (unhide HF) AHT)
  replace HQ2 := hide (OwnV.step (unhide HQ2) AHT)
  replace HQ2r := hide ((unhide HQ2r).below AHT)
  have HT : Hid (OwnV (((((w9).alloc (.cells #[.int .i64 (1 + q4), .int .i64 0, .int .i64 q5] 41)).alloc (.cells #[.int .i64 nn, .int .i64 1] 44)).alloc (.cells #[.int .i64 0, .int .i64 la, .int .i64 0] 37)).alloc (.cells #[.slice (some ⟨w9.heap.size + 1 + 1, 0, none⟩) 1 1, .slice (some ⟨w5.heap.size, 0, none⟩) 1 1] 38)) (w9.heap.size + 1 + 1 + 1) [.slice (some ⟨w9.heap.size + 1 + 1, 0, none⟩) 1 1, .slice (some ⟨w5.heap.size, 0, none⟩) 1 1]) := by
    have h := ownV_alloc ((((w9).alloc (.cells #[.int .i64 (1 + q4), .int .i64 0, .int .i64 q5] 41)).alloc (.cells #[.int .i64 nn, .int .i64 1] 44)).alloc (.cells #[.int .i64 0, .int .i64 la, .int .i64 0] 37)) #[.slice (some ⟨w9.heap.size + 1 + 1, 0, none⟩) 1 1, .slice (some ⟨w5.heap.size, 0, none⟩) 1 1] 38
    simp only [World.size_alloc] at h
    exact h
  clear AHT
  have HRR : Hid (RR3 (((((w9).alloc (.cells #[.int .i64 (1 + q4), .int .i64 0, .int .i64 q5] 41)).alloc (.cells #[.int .i64 nn, .int .i64 1] 44)).alloc (.cells #[.int .i64 0, .int .i64 la, .int .i64 0] 37)).alloc (.cells #[.slice (some ⟨w9.heap.size + 1 + 1, 0, none⟩) 1 1, .slice (some ⟨w5.heap.size, 0, none⟩) 1 1] 38)) (.slice (some ⟨w9.heap.size + 1 + 1 + 1, 0, none⟩) 2 2) [[(0, la, 0)], [(la, lb, pm)]]) := by
    refine ⟨_, 2, rfl, Nat.le_refl _, by unfold maxLen; omega, fun r hr => ?_⟩
    match r, hr with
    | 0, _ => exact ⟨_, 0, _, rfl, OwnV.cell (unhide HT) (i := 0) rfl, unhide HQ2r⟩
    | 1, _ => exact ⟨_, 0, _, rfl, OwnV.cell (unhide HT) (i := 1) rfl, unhide HQ1r⟩
  refine (implFirstBad_any step rise _ R _ [(1 + q4, 0, q5)] _ [] _ [[(0, la, 0)], [(la, lb, pm)]] nn 1 _ ((unhide HR0).below (unhide HZ)) (unhide HMr) recsIn_nil (unhide HRR)).mono ?_
  rintro e w10 ⟨rfl, hb⟩
  replace HW := hide (Below.step (unhide HW) hb)
  replace HZ := hide (Below.step (unhide HZ) hb)
  replace HX := hide (OwnV.step (unhide HX) hb)
  replace HQ1 := hide (OwnV.step (unhide HQ1) hb)
  replace HQ1r := hide ((unhide HQ1r).below hb)
  replace HM := hide (OwnV.step (unhide HM) hb)
  replace HMr := hide ((unhide HMr).below hb)
  replace HF := hide (OwnV.step (unhide HF) hb)
  replace HQ2 := hide (OwnV.step (unhide HQ2) hb)
  replace HQ2r := hide ((unhide HQ2r).below hb)
  replace HT := hide (OwnV.step (unhide HT) hb)
  replace HRR := hide ((unhide HRR).below hb)
  have zw10 := hb.size
  simp only [World.size_alloc] at zw10
  clear hb
  obtain ⟨s0, es0⟩ : ∃ q, q = stands step rise R [(1 + q4, 0, q5)] [] [(0, la, 0)] (nn, 1) := ⟨_, rfl⟩
  obtain ⟨s1, es1⟩ : ∃ q, q = stands step rise R [(1 + q4, 0, q5)] [] [(la, lb, pm)] (nn, 1) := ⟨_, rfl⟩
  have hfb : firstBad step rise R [(1 + q4, 0, q5)] [] [[(0, la, 0)], [(la, lb, pm)]] (nn, 1) = if s0 ≠ 0 then 0 else if s1 ≠ 0 then 1 else -1 := by
    by_cases h0 : s0 = 0
    · rw [if_neg (by simpa using h0)]
      by_cases h1 : s1 = 0
      · rw [if_neg (by simpa using h1)]
        refine firstBad_none (by simp) (fun t ht => ?_)
        match t, ht with
        | 0, _ => exact es0.symm.trans h0
        | 1, _ => exact es1.symm.trans h1
      · rw [if_pos h1]
        have h := firstBad_some (step := step) (rise := rise) (R := R) (L := [(1 + q4, 0, q5)]) (T := []) (QQ := [[(0, la, 0)], [(la, lb, pm)]]) (f := (nn, 1)) (k := 1) (by simp) (by simp) (by intro e; exact h1 (es1.trans e)) (fun t ht => by
          have : t = 0 := by omega
          subst this
          exact es0.symm.trans h0)
        simpa using h
    · rw [if_pos h0]
      have h := firstBad_some (step := step) (rise := rise) (R := R) (L := [(1 + q4, 0, q5)]) (T := []) (QQ := [[(0, la, 0)], [(la, lb, pm)]]) (f := (nn, 1)) (k := 0) (by simp) (by simp) (by intro e; exact h0 (es0.trans e)) (fun t ht => by omega)
      simpa using h
  rw [hfb]
  have ES0 := hide es0
  have ES1 := hide es1
  clear hfb es0 es1
  obtain ⟨fb, efb⟩ : ∃ q, q = (if s0 ≠ 0 then (0 : Int) else if s1 ≠ 0 then 1 else -1) := ⟨_, rfl⟩
  rw [← efb]
  have EFB := hide efb
  clear efb
  obtain ⟨w11, ew11⟩ : ∃ x, x = w10 := ⟨_, rfl⟩
  rw [← ew11] at HW HZ HX HQ1 HQ1r HM HMr HF HQ2 HQ2r HT HRR
  have Ew11 := hide ew11
  have zw11 : w10.heap.size ≤ w11.heap.size := by rw [ew11]; simp
  clear ew11
  go_wp2
  rw [← unhide Ew11]
  clear Ew11
  have rHX0 := fun y : Gr w11 => gr_cell (OwnV.cell (unhide HX) (i := 0) rfl) y
  have rHX1 := fun y : Gr w11 => gr_cell (OwnV.cell (unhide HX) (i := 1) rfl) y
  have rHX2 := fun y : Gr w11 => gr_cell (OwnV.cell (unhide HX) (i := 2) rfl) y
  have rHF0 := fun y : Gr w11 => gr_cell (OwnV.cell (unhide HF) (i := 0) rfl) y
  have rHF1 := fun y : Gr w11 => gr_cell (OwnV.cell (unhide HF) (i := 1) rfl) y
  have rHT0 := fun y : Gr w11 => gr_cell (OwnV.cell (unhide HT) (i := 0) rfl) y
  have rHT1 := fun y : Gr w11 => gr_cell (OwnV.cell (unhide HT) (i := 1) rfl) y
  have S0 := hide fun y : Gr w11 => implStands_any step rise _ R _ [(1 + q4, 0, q5)] _ [] _ [(0, la, 0)] nn 1 y.val (((unhide HR0).below (unhide HZ)).below y.ok) ((unhide HMr).below y.ok) recsIn_nil ((unhide HQ2r).below y.ok)
  rw [← unhide ES0] at S0
  have gsome := gr_some w11
  refine wp_region_grown (by kernel_rfl) (by kernel_rfl) ?_
  repeat (go_big_quiet_step (fail))
  go_big_quiet_want
  go_big_quiet_op
  go_big_quiet_call (exact calls_grown (unhide S0 _))
  repeat (go_big_quiet_step (fail))
  refine wpQuiet_nil ?_
  intro w12 hw
  obtain ⟨zz, hz⟩ := hw
  have hb : Below w11.heap.size w11 w12 := hz ▸ zz.ok
  replace HW := hide (Below.step (unhide HW) hb)
  replace HZ := hide (Below.step (unhide HZ) hb)
  replace HX := hide (OwnV.step (unhide HX) hb)
  replace HQ1 := hide (OwnV.step (unhide HQ1) hb)
  replace HQ1r := hide ((unhide HQ1r).below hb)
  replace HM := hide (OwnV.step (unhide HM) hb)
  replace HMr := hide ((unhide HMr).below hb)
  replace HF := hide (OwnV.step (unhide HF) hb)
  replace HQ2 := hide (OwnV.step (unhide HQ2) hb)
  replace HQ2r := hide ((unhide HQ2r).below hb)
  replace HT := hide (OwnV.step (unhide HT) hb)
  replace HRR := hide ((unhide HRR).below hb)
  have zw12 := hb.size
  clear hb hz zz gsome rHX0 rHX1 rHX2 rHF0 rHF1 rHT0 rHT1 S0
  obtain ⟨w13, ew13⟩ : ∃ x, x = w12 := ⟨_, rfl⟩
  rw [← ew13] at HW HZ HX HQ1 HQ1r HM HMr HF HQ2 HQ2r HT HRR
  have Ew13 := hide ew13
  have zw13 : w12.heap.size ≤ w13.heap.size := by rw [ew13]; simp
  clear ew13
  go_wp2
  rw [← unhide Ew13]
  clear Ew13
  have rHX0 := fun y : Gr w13 => gr_cell (OwnV.cell (unhide HX) (i := 0) rfl) y
  have rHX1 := fun y : Gr w13 => gr_cell (OwnV.cell (unhide HX) (i := 1) rfl) y
  have rHX2 := fun y : Gr w13 => gr_cell (OwnV.cell (unhide HX) (i := 2) rfl) y
  have rHF0 := fun y : Gr w13 => gr_cell (OwnV.cell (unhide HF) (i := 0) rfl) y
  have rHF1 := fun y : Gr w13 => gr_cell (OwnV.cell (unhide HF) (i := 1) rfl) y
  have rHT0 := fun y : Gr w13 => gr_cell (OwnV.cell (unhide HT) (i := 0) rfl) y
  have rHT1 := fun y : Gr w13 => gr_cell (OwnV.cell (unhide HT) (i := 1) rfl) y
  have S0 := hide fun y : Gr w13 => implStands_any step rise _ R _ [(1 + q4, 0, q5)] _ [] _ [(la, lb, pm)] nn 1 y.val (((unhide HR0).below (unhide HZ)).below y.ok) ((unhide HMr).below y.ok) recsIn_nil ((unhide HQ1r).below y.ok)
  rw [← unhide ES1] at S0
  have gsome := gr_some w13
  refine wp_region_grown (by kernel_rfl) (by kernel_rfl) ?_
  repeat (go_big_quiet_step (fail))
  go_big_quiet_want
  go_big_quiet_op
  go_big_quiet_call (exact calls_grown (unhide S0 _))
  repeat (go_big_quiet_step (fail))
  refine wpQuiet_nil ?_
  intro w14 hw
  obtain ⟨zz, hz⟩ := hw
  have hb : Below w13.heap.size w13 w14 := hz ▸ zz.ok
  replace HW := hide (Below.step (unhide HW) hb)
  replace HZ := hide (Below.step (unhide HZ) hb)
  replace HX := hide (OwnV.step (unhide HX) hb)
  replace HQ1 := hide (OwnV.step (unhide HQ1) hb)
  replace HQ1r := hide ((unhide HQ1r).below hb)
  replace HM := hide (OwnV.step (unhide HM) hb)
  replace HMr := hide ((unhide HMr).below hb)
  replace HF := hide (OwnV.step (unhide HF) hb)
  replace HQ2 := hide (OwnV.step (unhide HQ2) hb)
  replace HQ2r := hide ((unhide HQ2r).below hb)
  replace HT := hide (OwnV.step (unhide HT) hb)
  replace HRR := hide ((unhide HRR).below hb)
  have zw14 := hb.size
  clear hb hz zz gsome rHX0 rHX1 rHX2 rHF0 rHF1 rHT0 rHT1 S0
  have hefb := unhide EFB
  clear EFB
  by_cases h0 : s0 = 0
  · by_cases h1 : s1 = 0
    · rw [if_neg (by simpa using h0), if_neg (by simpa using h1)] at hefb
      subst h0 h1 hefb
      go_wp2
      go_ret
      exact ⟨rfl, unhide HW⟩
    · rw [if_neg (by simpa using h0), if_pos h1] at hefb
      subst h0 hefb
      have z1 : (s1 == 0) = false := by simp [h1]
      go_wp2
      go_ret
      exact ⟨rfl, unhide HW⟩
  · rw [if_pos h0] at hefb
    subst hefb
    have z0 : (s0 == 0) = false := by simp [h0]
    go_wp2
    go_ret
    exact ⟨rfl, unhide HW⟩

end Go.Proofs.Yticcjdcglfiggaa

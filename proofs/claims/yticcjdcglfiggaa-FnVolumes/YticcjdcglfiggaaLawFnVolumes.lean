/- FnVolumes: whatever the bytes, of a drawn hull the volumes never fall, the strips are the whole, a mirrored hull has the same areas and volumes, and its moment from the other end. Written by wip/mkvol.py. -/
import Derived.Test.YticcjdcglfiggaaVoA
import Derived.Test.YticcjdcglfiggaaDrawH3
import Derived.Test.YticcjdcglfiggaaAtBig
import Derived.Deep.RegionHeld3
namespace Go.Proofs.Yticcjdcglfiggaa
open Go.RowKit

set_option maxHeartbeats 6400000 in
theorem fnVolumes_any (v : Value) (nb : Nat) (w : World) (h : BytesIn w.heap.size w v nb) :
    Calls Try.prog 3 #[v] w fun e w' => e = .returned (.bool true) ∧ Below w.heap.size w w' := by
  have HB := hide h
  obtain ⟨vao, vcap, rfl, hl, hm, _⟩ := h
  unfold maxLen at hm
  by_cases hbig : (1048576 : Int) < (nb : Int)
  · go_enter Try.func3, Try.ntmps3
    go_wp2_with fail
    refine (big_any _ _ _ _).mono ?_
    rintro e w' ⟨rfl, rfl⟩
    go_wp2
    go_ret
    exact ⟨rfl, Below.refl _ _⟩
  have hn : nb ≤ 1048576 := by omega
  go_enter Try.func3, Try.ntmps3
  go_wp2_with fail
  refine (big_any _ _ _ _).mono ?_
  rintro e w' ⟨rfl, rfl⟩
  go_wp2_with fail
  refine (drawRightHull_any _ nb w (unhide HB) hn).mono ?_
  rintro e w1 ⟨step, rise, R, ao, n, cap, x, rfl, hR, hok, hx0, hx1, hb⟩
  obtain ⟨ao', cap', ev, _, _, _⟩ := id hR
  simp only [Value.slice.injEq] at ev
  obtain ⟨rfl, rfl, rfl⟩ := ev
  have HR0 := hide hR
  have HOK := hide hok.1
  have hl1 := (hullOk_right hok.1).len1
  have hl2 := (hullOk_right hok.1).len2
  have hs1 := (hullOk_right hok.1).step1
  have hs2 := (hullOk_right hok.1).step2
  have hwk : waterOk step rise R x = true := by unfold waterOk; rw [hok.1, inB_mk hx0 (by omega)]; rfl
  have hx9 : x ≤ 10 := by have := (hullOk_right hok.1).wat2; omega
  have HWK := hide hwk
  have HMO := hide (mirror_ok hok.1)
  have HZ := hide (Below.refl w1.heap.size w1)
  have HW := hide hb
  have zw := hb.size
  clear hR hb hok hwk hx1
  have AHX := Below.alloc1 (w1) (.cells #[.int .i64 step, .int .i64 rise, .slice ao R.length cap] 26)
  replace HW := hide (Below.step (unhide HW) AHX)
  replace HZ := hide (Below.step (unhide HZ) AHX)
  have HX := hide (ownV_alloc (w1) #[.int .i64 step, .int .i64 rise, .slice ao R.length cap] 26)
  clear AHX
  have cHX0 := OwnV.cell (unhide HX) (i := 0) rfl
  have cHX1 := OwnV.cell (unhide HX) (i := 1) rfl
  have cHX2 := OwnV.cell (unhide HX) (i := 2) rfl
  have hms : mStep step rise R = step ∧ mRise step rise R = rise ∧ mRows step rise R = mirrorR R := by simp [mStep, mRise, mRows, unhide HOK]
  have HMS := hide hms
  clear hms
  go_wp2_with fail
  refine (implMirror_any step rise _ R _ ((unhide HR0).below (unhide HZ))).mono ?_
  rintro e w2 ⟨a0, n0, cp0, rfl, hr, hb⟩
  clear cHX0 cHX1 cHX2
  replace HW := hide (Below.step (unhide HW) hb)
  replace HZ := hide (Below.step (unhide HZ) hb)
  replace HX := hide (OwnV.step (unhide HX) hb)
  rw [(unhide HMS).1, (unhide HMS).2.1]
  rw [(unhide HMS).2.2] at hr
  have HRM := hide hr.inn
  have zw2 := hb.size
  simp only [World.size_alloc] at zw2
  clear hb hr HMS
  have AHM := Below.alloc1 (w2) (.cells #[.int .i64 step, .int .i64 rise, .slice a0 n0 cp0] 26)
  replace HW := hide (Below.step (unhide HW) AHM)
  replace HZ := hide (Below.step (unhide HZ) AHM)
  replace HX := hide (OwnV.step (unhide HX) AHM)
  replace HRM := hide ((unhide HRM).below AHM)
  have HM := hide (ownV_alloc (w2) #[.int .i64 step, .int .i64 rise, .slice a0 n0 cp0] 26)
  clear AHM
  obtain ⟨w3, ew3⟩ : ∃ x, x = (w2).alloc (.cells #[.int .i64 step, .int .i64 rise, .slice a0 n0 cp0] 26) := ⟨_, rfl⟩
  rw [← ew3] at HW HZ HX HRM HM
  have Ew3 := hide ew3
  have zw3 : w2.heap.size + 1 ≤ w3.heap.size := by rw [ew3]; simp
  clear ew3
  have hzx := (unhide HX).lt
  have hzm := (unhide HM).lt
  have HHo := hide (implHullOk_any step rise _ R w3 ((unhide HR0).below (unhide HZ)))
  rw [unhide Ew3] at HHo
  have cx := And.intro (OwnV.cell (unhide HX) (i := 0) rfl) (And.intro (OwnV.cell (unhide HX) (i := 1) rfl) (OwnV.cell (unhide HX) (i := 2) rfl))
  rw [unhide Ew3] at cx
  obtain ⟨cx0, cx1, cx2⟩ := cx
  go_wp2_with fail
  refine (unhide HHo).mono ?_
  rintro e w4 ⟨rfl, hb⟩
  rw [← unhide Ew3] at hb
  rw [unhide HOK]
  clear cx0 cx1 cx2 HHo hzx hzm
  replace HW := hide (Below.step (unhide HW) hb)
  replace HZ := hide (Below.step (unhide HZ) hb)
  replace HX := hide (OwnV.step (unhide HX) hb)
  replace HRM := hide ((unhide HRM).below hb)
  replace HM := hide (OwnV.step (unhide HM) hb)
  have zw4 := hb.size
  clear hb
  have cHM0 := OwnV.cell (unhide HM) (i := 0) rfl
  have cHM1 := OwnV.cell (unhide HM) (i := 1) rfl
  have cHM2 := OwnV.cell (unhide HM) (i := 2) rfl
  go_wp2_with fail
  refine (implHullOk_any step rise _ (mirrorR R) _ (unhide HRM)).mono ?_
  rintro e w5 ⟨rfl, hb⟩
  clear cHM0 cHM1 cHM2
  replace HW := hide (Below.step (unhide HW) hb)
  replace HZ := hide (Below.step (unhide HZ) hb)
  replace HX := hide (OwnV.step (unhide HX) hb)
  replace HRM := hide ((unhide HRM).below hb)
  replace HM := hide (OwnV.step (unhide HM) hb)
  have zw5 := hb.size
  clear hb
  rw [unhide HMO]
  go_wp2_with fail
  refine (implMirror_any 0 0 _ [] _ (rows_nil _)).mono ?_
  rintro e w6 ⟨a9, n9, cp9, rfl, _, hb⟩
  replace HW := hide (Below.step (unhide HW) hb)
  replace HZ := hide (Below.step (unhide HZ) hb)
  replace HX := hide (OwnV.step (unhide HX) hb)
  replace HRM := hide ((unhide HRM).below hb)
  replace HM := hide (OwnV.step (unhide HM) hb)
  have zw6 := hb.size
  clear hb
  rw [show mStep 0 0 [] = 0 by decide, show mRise 0 0 [] = 0 by decide]
  have cHX0 := OwnV.cell (unhide HX) (i := 0) rfl
  have cHX1 := OwnV.cell (unhide HX) (i := 1) rfl
  have cHX2 := OwnV.cell (unhide HX) (i := 2) rfl
  unfold hullV
  have hfd := field0 (.slice a9 n9 cp9) 0 0
  go_wp2_with fail
  clear hfd
  refine (implStrips2_any step rise _ R x _ ((unhide HR0).below (unhide HZ))).mono ?_
  rintro e w7 ⟨a1, n1, cp1, rfl, hr, hb⟩
  clear cHX0 cHX1 cHX2
  replace HW := hide (Below.step (unhide HW) hb)
  replace HZ := hide (Below.step (unhide HZ) hb)
  replace HX := hide (OwnV.step (unhide HX) hb)
  replace HRM := hide ((unhide HRM).below hb)
  replace HM := hide (OwnV.step (unhide HM) hb)
  obtain ⟨sl, sg, sv⟩ := strips_sum (unhide HWK)
  have hri := hr.intsIn
  have HSI := hide hri
  have en1 : n1 = R.length - 1 := by rw [← sl]; exact hri.len.1.symm
  subst en1
  have zw7 := hb.size
  clear hb hr hri
  have HSG := hide sg
  have HSV := hide sv
  have HSL := hide sl
  clear sg sv sl
  have HSB : Hid (∀ k, k ≤ R.length - 1 → 0 ≤ sumTo (strip2 step rise R x.toNat) k ∧ sumTo (strip2 step rise R x.toNat) k ≤ 48000000) := fun k hk => by
    have hr := hullOk_right (unhide HOK)
    have hw := unhide HWK
    unfold waterOk at hw
    simp only [Bool.and_eq_true] at hw
    have hc := inB_true hw.2
    have := sumTo_bd (f := strip2 step rise R x.toNat) (n := R.length - 1) (B := 4000000) (fun i hi => (strip2_bd hr (s := i) (c := x.toNat) (by omega) (by omega)).2) k hk
    omega
  go_wp2
  go_loopg [6, 8] (R.length - 1) (fun g sv iv wr => w7 = wr ∧ ∃ k : Nat, k ≤ R.length - 1 ∧ g = R.length - 1 - k ∧ iv = .int .i64 k ∧ sv = .int .i64 (sumTo (strip2 step rise R x.toNat) k))
  case atStart => exact ⟨rfl, 0, Nat.zero_le _, rfl, rfl, rfl⟩
  case round =>
    obtain ⟨rfl, k, hk, rfl, rfl, rfl⟩ := hrel
    by_cases hkn : k < R.length - 1
    · obtain ⟨b, o, rfl, hc⟩ := intAt (unhide HSI) hkn
      rw [unhide HSG k hkn] at hc
      have s1 := unhide HSB k hk
      have s2 := unhide HSB (k + 1) hkn
      have HN : Hid (sumTo (strip2 step rise R x.toNat) (k + 1) = sumTo (strip2 step rise R x.toNat) k + strip2 step rise R x.toNat k) := hide rfl
      rw [unhide HN] at s2
      generalize sumTo (strip2 step rise R x.toNat) k = A at *
      generalize strip2 step rise R x.toNat k = q at *
      go_wp2
      go_roundg (R.length - 1 - (k + 1))
      case measure => omega
      case rel => exact ⟨rfl, k + 1, by omega, rfl, by go_num, by rw [unhide HN]⟩
    have hkk : k = R.length - 1 := by omega
    subst hkk
    have hV := unhide HSB (R.length - 1) (Nat.le_refl _)
    rw [← unhide HSV] at hV ⊢
    clear HSB HSG
    obtain ⟨V, eV⟩ : ∃ V, V = volume step rise R x := ⟨_, rfl⟩
    have EV := hide eV
    rw [← eV] at hV ⊢
    clear eV
    have hln : ((R.length - 1 : Nat) : Int) = (R.length : Int) - 1 := by omega
    have cHX0 := OwnV.cell (unhide HX) (i := 0) rfl
    have cHX1 := OwnV.cell (unhide HX) (i := 1) rfl
    have cHX2 := OwnV.cell (unhide HX) (i := 2) rfl
    go_wp2_with fail
    clear cHX0 cHX1 cHX2
    refine (implVolume2_any step rise _ R x _ ((unhide HR0).below (unhide HZ))).mono ?_
    rintro e w8 ⟨rfl, hb⟩
    replace HW := hide (Below.step (unhide HW) hb)
    replace HZ := hide (Below.step (unhide HZ) hb)
    replace HX := hide (OwnV.step (unhide HX) hb)
    replace HRM := hide ((unhide HRM).below hb)
    replace HM := hide (OwnV.step (unhide HM) hb)
    replace HSI := hide ((unhide HSI).below hb)
    have zw8 := hb.size
    clear hb
    rw [← unhide EV]
    clear HSI
    by_cases hxp : 0 < x
    · have dx : decide (0 < x) = true := by simpa using hxp
      have cHX0 := OwnV.cell (unhide HX) (i := 0) rfl
      have cHX1 := OwnV.cell (unhide HX) (i := 1) rfl
      have cHX2 := OwnV.cell (unhide HX) (i := 2) rfl
      go_wp2_with fail
      clear cHX0 cHX1 cHX2
      have hvr := volume_rises (unhide HOK) (unhide HWK) hxp
      rw [← unhide EV] at hvr
      refine (implVolume2_any step rise _ R (x - 1) _ ((unhide HR0).below (unhide HZ))).mono ?_
      rintro e w9 ⟨rfl, hb⟩
      replace HW := hide (Below.step (unhide HW) hb)
      replace HZ := hide (Below.step (unhide HZ) hb)
      replace HX := hide (OwnV.step (unhide HX) hb)
      replace HRM := hide ((unhide HRM).below hb)
      replace HM := hide (OwnV.step (unhide HM) hb)
      have zw9 := hb.size
      clear hb
      generalize volume step rise R (x - 1) = V' at *
      have dv : decide (V < V') = false := by simp; omega
      go_wp2
      have rHX0 := fun y : Gr w9 => gr_cell (OwnV.cell (unhide HX) (i := 0) rfl) y
      have rHX1 := fun y : Gr w9 => gr_cell (OwnV.cell (unhide HX) (i := 1) rfl) y
      have rHX2 := fun y : Gr w9 => gr_cell (OwnV.cell (unhide HX) (i := 2) rfl) y
      have rHM0 := fun y : Gr w9 => gr_cell (OwnV.cell (unhide HM) (i := 0) rfl) y
      have rHM1 := fun y : Gr w9 => gr_cell (OwnV.cell (unhide HM) (i := 1) rfl) y
      have rHM2 := fun y : Gr w9 => gr_cell (OwnV.cell (unhide HM) (i := 2) rfl) y
      have S0 := hide fun y : Gr w9 => implPlane_any step rise _ R x y.val (((unhide HR0).below (unhide HZ)).below y.ok)
      have S1 := hide fun y : Gr w9 => implPlane_any step rise _ (mirrorR R) x y.val ((unhide HRM).below y.ok)
      rw [mirror_plane (unhide HOK)] at S1
      have S2 := hide fun y : Gr w9 => implInertia3_any step rise _ R x y.val (((unhide HR0).below (unhide HZ)).below y.ok)
      have S3 := hide fun y : Gr w9 => implInertia3_any step rise _ (mirrorR R) x y.val ((unhide HRM).below y.ok)
      rw [mirror_inertia (unhide HOK)] at S3
      have S4 := hide fun y : Gr w9 => implVolume2_any step rise _ (mirrorR R) x y.val ((unhide HRM).below y.ok)
      rw [mirror_volume (unhide HOK) (unhide HWK), ← unhide EV] at S4
      have S5 := hide fun y : Gr w9 => implHeight4_any step rise _ R x y.val (((unhide HR0).below (unhide HZ)).below y.ok)
      have S6 := hide fun y : Gr w9 => implHeight4_any step rise _ (mirrorR R) x y.val ((unhide HRM).below y.ok)
      rw [mirror_height (unhide HOK)] at S6
      generalize plane step rise R x = vp at *
      generalize inertia step rise R x = vi at *
      generalize height step rise R x = vh at *
      have gsome := gr_some w9
      refine wp_region_grown (by kernel_rfl) (by kernel_rfl) ?_
      repeat (go_big_quiet_step (fail))
      go_big_quiet_want
      go_big_quiet_op
      go_big_quiet_call (exact calls_grown (unhide S0 _))
      repeat (go_big_quiet_step (fail))
      go_big_quiet_want
      go_big_quiet_op
      go_big_quiet_call (exact calls_grown (unhide S1 _))
      repeat (go_big_quiet_step (fail))
      go_big_quiet_want
      go_big_quiet_op
      go_big_quiet_call (exact calls_grown (unhide S2 _))
      repeat (go_big_quiet_step (fail))
      go_big_quiet_want
      go_big_quiet_op
      go_big_quiet_call (exact calls_grown (unhide S3 _))
      repeat (go_big_quiet_step (fail))
      go_big_quiet_want
      go_big_quiet_op
      go_big_quiet_call (exact calls_grown (unhide S4 _))
      repeat (go_big_quiet_step (fail))
      go_big_quiet_want
      go_big_quiet_op
      go_big_quiet_call (exact calls_grown (unhide S5 _))
      repeat (go_big_quiet_step (fail))
      go_big_quiet_want
      go_big_quiet_op
      go_big_quiet_call (exact calls_grown (unhide S6 _))
      repeat (go_big_quiet_step (fail))
      refine wpQuiet_nil ?_
      intro w10 hw
      obtain ⟨zz, hz⟩ := hw
      have hb : Below w9.heap.size w9 w10 := hz ▸ zz.ok
      replace HW := hide (Below.step (unhide HW) hb)
      replace HZ := hide (Below.step (unhide HZ) hb)
      replace HX := hide (OwnV.step (unhide HX) hb)
      replace HRM := hide ((unhide HRM).below hb)
      replace HM := hide (OwnV.step (unhide HM) hb)
      have zw10 := hb.size
      clear hb hz zz gsome rHX0 rHX1 rHX2 rHM0 rHM1 rHM2 S0 S1 S2 S3 S4 S5 S6
      have hal := mirror_along (unhide HOK) (unhide HWK)
      rw [← unhide EV] at hal
      have m1 := mul_bd (a := V) (b := step) (A := 48000000) (B := 100) hV.1 hV.2 (by omega) hs2
      have m2 := mul_bd (a := V * step * 2) (b := (R.length : Int) - 1) (A := 9600000000) (B := 11) (by omega) (by omega) (by omega) (by omega)
      have cHX0 := OwnV.cell (unhide HX) (i := 0) rfl
      have cHX1 := OwnV.cell (unhide HX) (i := 1) rfl
      have cHX2 := OwnV.cell (unhide HX) (i := 2) rfl
      have cHM0 := OwnV.cell (unhide HM) (i := 0) rfl
      have cHM1 := OwnV.cell (unhide HM) (i := 1) rfl
      have cHM2 := OwnV.cell (unhide HM) (i := 2) rfl
      go_wp2
      clear cHX0 cHX1 cHX2 cHM0 cHM1 cHM2
      have hd : Below w10.heap.size w10 w10.drew := (Below.refl _ _).drew
      replace HW := hide (Below.step (unhide HW) hd)
      replace HZ := hide (Below.step (unhide HZ) hd)
      replace HX := hide (OwnV.step (unhide HX) hd)
      replace HRM := hide ((unhide HRM).below hd)
      replace HM := hide (OwnV.step (unhide HM) hd)
      clear hd
      have kHX0 := OwnV.cell (unhide HX) (i := 0) rfl
      have kHX1 := OwnV.cell (unhide HX) (i := 1) rfl
      have kHX2 := OwnV.cell (unhide HX) (i := 2) rfl
      have kHM0 := OwnV.cell (unhide HM) (i := 0) rfl
      have kHM1 := OwnV.cell (unhide HM) (i := 1) rfl
      have kHM2 := OwnV.cell (unhide HM) (i := 2) rfl
      have HAL := hide (implAlong4_any step rise _ R x w10.drew ((unhide HR0).below (unhide HZ)))
      obtain ⟨A1, eA1⟩ : ∃ q, q = along step rise R x := ⟨_, rfl⟩
      obtain ⟨A2, eA2⟩ : ∃ q, q = along step rise (mirrorR R) x := ⟨_, rfl⟩
      rw [← eA1, ← eA2] at hal
      rw [← eA1] at HAL
      have EA2 := hide eA2
      clear eA1 eA2
      obtain ⟨T, eT⟩ : ∃ q, q = V * step * 2 * ((R.length : Int) - 1) := ⟨_, rfl⟩
      rw [← eT] at hal m2
      have s1 : IntKind.i64.wrap (A1 + A2) = T := by rw [hal, IntKind.wrap_i64]; omega
      have s2 : IntKind.i64.wrap (V * step) = V * step := by rw [IntKind.wrap_i64]; omega
      have s3 : IntKind.i64.wrap (V * step * 2) = V * step * 2 := by rw [IntKind.wrap_i64]; omega
      have s4 : IntKind.i64.wrap (V * step * 2 * ((R.length : Int) - 1)) = T := by rw [← eT, IntKind.wrap_i64]; omega
      have s5 : IntKind.i64.wrap ((R.length : Int) - 1) = (R.length : Int) - 1 := by rw [IntKind.wrap_i64]; omega
      clear hal eT m1 m2
      go_region_held3 (fun w' => w'.cell? ⟨w1.heap.size, 0, none⟩ = some (.int .i64 step) ∧ w'.cell? ⟨w1.heap.size, 1, none⟩ = some (.int .i64 rise) ∧ w'.cell? ⟨w1.heap.size, 2, none⟩ = some (.slice ao R.length cap) ∧ w'.cell? ⟨w2.heap.size, 0, none⟩ = some (.int .i64 step) ∧ w'.cell? ⟨w2.heap.size, 1, none⟩ = some (.int .i64 rise) ∧ w'.cell? ⟨w2.heap.size, 2, none⟩ = some (.slice a0 n0 cp0)) (go_keep) (first
        | (go_at_call 18; refine (unhide HAL).mono ?_; rintro e wa ⟨rfl, hb⟩; replace HW := hide (Below.step (unhide HW) hb); replace HZ := hide (Below.step (unhide HZ) hb); replace HX := hide (OwnV.step (unhide HX) hb); replace HRM := hide ((unhide HRM).below hb); replace HM := hide (OwnV.step (unhide HM) hb); have kHX0 := OwnV.cell (unhide HX) (i := 0) rfl; have kHX1 := OwnV.cell (unhide HX) (i := 1) rfl; have kHX2 := OwnV.cell (unhide HX) (i := 2) rfl; have kHM0 := OwnV.cell (unhide HM) (i := 0) rfl; have kHM1 := OwnV.cell (unhide HM) (i := 1) rfl; have kHM2 := OwnV.cell (unhide HM) (i := 2) rfl; clear hb HAL)
        | (go_at_call 18; refine (implAlong4_any step rise _ (mirrorR R) x _ (unhide HRM)).mono ?_; rintro e wb ⟨rfl, hb⟩; rw [← unhide EA2]; replace HW := hide (Below.step (unhide HW) hb); replace HZ := hide (Below.step (unhide HZ) hb); replace HX := hide (OwnV.step (unhide HX) hb); replace HRM := hide ((unhide HRM).below hb); replace HM := hide (OwnV.step (unhide HM) hb); have kHX0 := OwnV.cell (unhide HX) (i := 0) rfl; have kHX1 := OwnV.cell (unhide HX) (i := 1) rfl; have kHX2 := OwnV.cell (unhide HX) (i := 2) rfl; have kHM0 := OwnV.cell (unhide HM) (i := 0) rfl; have kHM1 := OwnV.cell (unhide HM) (i := 1) rfl; have kHM2 := OwnV.cell (unhide HM) (i := 2) rfl; clear hb)
        | (go_at_call 15; (first | (refine (implPlane_any 2 1 _ [[1, 2], [3, 4]] 1 _ (rows_lit _)).mono ?_) | (refine (implPlane_any 2 1 _ [[1, 2], [3, 4]] 1 _ (rows_lit' _)).mono ?_)); rintro e wc ⟨rfl, hb⟩; rw [plane_lit]; have hbb := Below.step (Below.step (Below.step (Below.alloc1 _ _) (Below.alloc1 _ _)) (Below.alloc1 _ _)) hb; clear hb; have hb := hbb; clear hbb; replace HW := hide (Below.step (unhide HW) hb); replace HZ := hide (Below.step (unhide HZ) hb); replace HX := hide (OwnV.step (unhide HX) hb); replace HRM := hide ((unhide HRM).below hb); replace HM := hide (OwnV.step (unhide HM) hb); have kHX0 := OwnV.cell (unhide HX) (i := 0) rfl; have kHX1 := OwnV.cell (unhide HX) (i := 1) rfl; have kHX2 := OwnV.cell (unhide HX) (i := 2) rfl; have kHM0 := OwnV.cell (unhide HM) (i := 0) rfl; have kHM1 := OwnV.cell (unhide HM) (i := 1) rfl; have kHM2 := OwnV.cell (unhide HM) (i := 2) rfl; clear hb))
      all_goals go_wp2
      all_goals go_ret
      all_goals exact ⟨rfl, unhide HW⟩
    · have dx : decide (0 < x) = false := by simpa using hxp
      go_wp2
      have rHX0 := fun y : Gr w8 => gr_cell (OwnV.cell (unhide HX) (i := 0) rfl) y
      have rHX1 := fun y : Gr w8 => gr_cell (OwnV.cell (unhide HX) (i := 1) rfl) y
      have rHX2 := fun y : Gr w8 => gr_cell (OwnV.cell (unhide HX) (i := 2) rfl) y
      have rHM0 := fun y : Gr w8 => gr_cell (OwnV.cell (unhide HM) (i := 0) rfl) y
      have rHM1 := fun y : Gr w8 => gr_cell (OwnV.cell (unhide HM) (i := 1) rfl) y
      have rHM2 := fun y : Gr w8 => gr_cell (OwnV.cell (unhide HM) (i := 2) rfl) y
      have S0 := hide fun y : Gr w8 => implPlane_any step rise _ R x y.val (((unhide HR0).below (unhide HZ)).below y.ok)
      have S1 := hide fun y : Gr w8 => implPlane_any step rise _ (mirrorR R) x y.val ((unhide HRM).below y.ok)
      rw [mirror_plane (unhide HOK)] at S1
      have S2 := hide fun y : Gr w8 => implInertia3_any step rise _ R x y.val (((unhide HR0).below (unhide HZ)).below y.ok)
      have S3 := hide fun y : Gr w8 => implInertia3_any step rise _ (mirrorR R) x y.val ((unhide HRM).below y.ok)
      rw [mirror_inertia (unhide HOK)] at S3
      have S4 := hide fun y : Gr w8 => implVolume2_any step rise _ (mirrorR R) x y.val ((unhide HRM).below y.ok)
      rw [mirror_volume (unhide HOK) (unhide HWK), ← unhide EV] at S4
      have S5 := hide fun y : Gr w8 => implHeight4_any step rise _ R x y.val (((unhide HR0).below (unhide HZ)).below y.ok)
      have S6 := hide fun y : Gr w8 => implHeight4_any step rise _ (mirrorR R) x y.val ((unhide HRM).below y.ok)
      rw [mirror_height (unhide HOK)] at S6
      generalize plane step rise R x = vp at *
      generalize inertia step rise R x = vi at *
      generalize height step rise R x = vh at *
      have gsome := gr_some w8
      refine wp_region_grown (by kernel_rfl) (by kernel_rfl) ?_
      repeat (go_big_quiet_step (fail))
      go_big_quiet_want
      go_big_quiet_op
      go_big_quiet_call (exact calls_grown (unhide S0 _))
      repeat (go_big_quiet_step (fail))
      go_big_quiet_want
      go_big_quiet_op
      go_big_quiet_call (exact calls_grown (unhide S1 _))
      repeat (go_big_quiet_step (fail))
      go_big_quiet_want
      go_big_quiet_op
      go_big_quiet_call (exact calls_grown (unhide S2 _))
      repeat (go_big_quiet_step (fail))
      go_big_quiet_want
      go_big_quiet_op
      go_big_quiet_call (exact calls_grown (unhide S3 _))
      repeat (go_big_quiet_step (fail))
      go_big_quiet_want
      go_big_quiet_op
      go_big_quiet_call (exact calls_grown (unhide S4 _))
      repeat (go_big_quiet_step (fail))
      go_big_quiet_want
      go_big_quiet_op
      go_big_quiet_call (exact calls_grown (unhide S5 _))
      repeat (go_big_quiet_step (fail))
      go_big_quiet_want
      go_big_quiet_op
      go_big_quiet_call (exact calls_grown (unhide S6 _))
      repeat (go_big_quiet_step (fail))
      refine wpQuiet_nil ?_
      intro w9 hw
      obtain ⟨zz, hz⟩ := hw
      have hb : Below w8.heap.size w8 w9 := hz ▸ zz.ok
      replace HW := hide (Below.step (unhide HW) hb)
      replace HZ := hide (Below.step (unhide HZ) hb)
      replace HX := hide (OwnV.step (unhide HX) hb)
      replace HRM := hide ((unhide HRM).below hb)
      replace HM := hide (OwnV.step (unhide HM) hb)
      have zw9 := hb.size
      clear hb hz zz gsome rHX0 rHX1 rHX2 rHM0 rHM1 rHM2 S0 S1 S2 S3 S4 S5 S6
      have hal := mirror_along (unhide HOK) (unhide HWK)
      rw [← unhide EV] at hal
      have m1 := mul_bd (a := V) (b := step) (A := 48000000) (B := 100) hV.1 hV.2 (by omega) hs2
      have m2 := mul_bd (a := V * step * 2) (b := (R.length : Int) - 1) (A := 9600000000) (B := 11) (by omega) (by omega) (by omega) (by omega)
      have cHX0 := OwnV.cell (unhide HX) (i := 0) rfl
      have cHX1 := OwnV.cell (unhide HX) (i := 1) rfl
      have cHX2 := OwnV.cell (unhide HX) (i := 2) rfl
      have cHM0 := OwnV.cell (unhide HM) (i := 0) rfl
      have cHM1 := OwnV.cell (unhide HM) (i := 1) rfl
      have cHM2 := OwnV.cell (unhide HM) (i := 2) rfl
      go_wp2
      clear cHX0 cHX1 cHX2 cHM0 cHM1 cHM2
      have hd : Below w9.heap.size w9 w9.drew := (Below.refl _ _).drew
      replace HW := hide (Below.step (unhide HW) hd)
      replace HZ := hide (Below.step (unhide HZ) hd)
      replace HX := hide (OwnV.step (unhide HX) hd)
      replace HRM := hide ((unhide HRM).below hd)
      replace HM := hide (OwnV.step (unhide HM) hd)
      clear hd
      have kHX0 := OwnV.cell (unhide HX) (i := 0) rfl
      have kHX1 := OwnV.cell (unhide HX) (i := 1) rfl
      have kHX2 := OwnV.cell (unhide HX) (i := 2) rfl
      have kHM0 := OwnV.cell (unhide HM) (i := 0) rfl
      have kHM1 := OwnV.cell (unhide HM) (i := 1) rfl
      have kHM2 := OwnV.cell (unhide HM) (i := 2) rfl
      have HAL := hide (implAlong4_any step rise _ R x w9.drew ((unhide HR0).below (unhide HZ)))
      obtain ⟨A1, eA1⟩ : ∃ q, q = along step rise R x := ⟨_, rfl⟩
      obtain ⟨A2, eA2⟩ : ∃ q, q = along step rise (mirrorR R) x := ⟨_, rfl⟩
      rw [← eA1, ← eA2] at hal
      rw [← eA1] at HAL
      have EA2 := hide eA2
      clear eA1 eA2
      obtain ⟨T, eT⟩ : ∃ q, q = V * step * 2 * ((R.length : Int) - 1) := ⟨_, rfl⟩
      rw [← eT] at hal m2
      have s1 : IntKind.i64.wrap (A1 + A2) = T := by rw [hal, IntKind.wrap_i64]; omega
      have s2 : IntKind.i64.wrap (V * step) = V * step := by rw [IntKind.wrap_i64]; omega
      have s3 : IntKind.i64.wrap (V * step * 2) = V * step * 2 := by rw [IntKind.wrap_i64]; omega
      have s4 : IntKind.i64.wrap (V * step * 2 * ((R.length : Int) - 1)) = T := by rw [← eT, IntKind.wrap_i64]; omega
      have s5 : IntKind.i64.wrap ((R.length : Int) - 1) = (R.length : Int) - 1 := by rw [IntKind.wrap_i64]; omega
      clear hal eT m1 m2
      go_region_held3 (fun w' => w'.cell? ⟨w1.heap.size, 0, none⟩ = some (.int .i64 step) ∧ w'.cell? ⟨w1.heap.size, 1, none⟩ = some (.int .i64 rise) ∧ w'.cell? ⟨w1.heap.size, 2, none⟩ = some (.slice ao R.length cap) ∧ w'.cell? ⟨w2.heap.size, 0, none⟩ = some (.int .i64 step) ∧ w'.cell? ⟨w2.heap.size, 1, none⟩ = some (.int .i64 rise) ∧ w'.cell? ⟨w2.heap.size, 2, none⟩ = some (.slice a0 n0 cp0)) (go_keep) (first
        | (go_at_call 18; refine (unhide HAL).mono ?_; rintro e wa ⟨rfl, hb⟩; replace HW := hide (Below.step (unhide HW) hb); replace HZ := hide (Below.step (unhide HZ) hb); replace HX := hide (OwnV.step (unhide HX) hb); replace HRM := hide ((unhide HRM).below hb); replace HM := hide (OwnV.step (unhide HM) hb); have kHX0 := OwnV.cell (unhide HX) (i := 0) rfl; have kHX1 := OwnV.cell (unhide HX) (i := 1) rfl; have kHX2 := OwnV.cell (unhide HX) (i := 2) rfl; have kHM0 := OwnV.cell (unhide HM) (i := 0) rfl; have kHM1 := OwnV.cell (unhide HM) (i := 1) rfl; have kHM2 := OwnV.cell (unhide HM) (i := 2) rfl; clear hb HAL)
        | (go_at_call 18; refine (implAlong4_any step rise _ (mirrorR R) x _ (unhide HRM)).mono ?_; rintro e wb ⟨rfl, hb⟩; rw [← unhide EA2]; replace HW := hide (Below.step (unhide HW) hb); replace HZ := hide (Below.step (unhide HZ) hb); replace HX := hide (OwnV.step (unhide HX) hb); replace HRM := hide ((unhide HRM).below hb); replace HM := hide (OwnV.step (unhide HM) hb); have kHX0 := OwnV.cell (unhide HX) (i := 0) rfl; have kHX1 := OwnV.cell (unhide HX) (i := 1) rfl; have kHX2 := OwnV.cell (unhide HX) (i := 2) rfl; have kHM0 := OwnV.cell (unhide HM) (i := 0) rfl; have kHM1 := OwnV.cell (unhide HM) (i := 1) rfl; have kHM2 := OwnV.cell (unhide HM) (i := 2) rfl; clear hb)
        | (go_at_call 15; (first | (refine (implPlane_any 2 1 _ [[1, 2], [3, 4]] 1 _ (rows_lit _)).mono ?_) | (refine (implPlane_any 2 1 _ [[1, 2], [3, 4]] 1 _ (rows_lit' _)).mono ?_)); rintro e wc ⟨rfl, hb⟩; rw [plane_lit]; have hbb := Below.step (Below.step (Below.step (Below.alloc1 _ _) (Below.alloc1 _ _)) (Below.alloc1 _ _)) hb; clear hb; have hb := hbb; clear hbb; replace HW := hide (Below.step (unhide HW) hb); replace HZ := hide (Below.step (unhide HZ) hb); replace HX := hide (OwnV.step (unhide HX) hb); replace HRM := hide ((unhide HRM).below hb); replace HM := hide (OwnV.step (unhide HM) hb); have kHX0 := OwnV.cell (unhide HX) (i := 0) rfl; have kHX1 := OwnV.cell (unhide HX) (i := 1) rfl; have kHX2 := OwnV.cell (unhide HX) (i := 2) rfl; have kHM0 := OwnV.cell (unhide HM) (i := 0) rfl; have kHM1 := OwnV.cell (unhide HM) (i := 1) rfl; have kHM2 := OwnV.cell (unhide HM) (i := 2) rfl; clear hb))
      all_goals go_wp2
      all_goals go_ret
      all_goals exact ⟨rfl, unhide HW⟩

end Go.Proofs.Yticcjdcglfiggaa

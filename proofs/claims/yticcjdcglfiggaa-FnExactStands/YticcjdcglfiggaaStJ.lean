/- Whether a hull stands, as a plain function; contracts of the program's and the specification's Stands. Written by wip/mkstands.py. -/
import Derived.Test.YticcjdcglfiggaaStEs
import Derived.Test.YticcjdcglfiggaaStHs
import Derived.Test.YticcjdcglfiggaaStHb
import Derived.Test.YticcjdcglfiggaaStI2
import Derived.Test.YticcjdcglfiggaaOwnHull
namespace Go.Proofs.Yticcjdcglfiggaa
open Go.RowKit

def standsB (step rise : Int) (R : List (List Int)) (L : List I3) (T : List I2) (Q : List I3) (f : I2) : Bool :=
  massesB L && decide ((load L).1 ≠ 0) && roomsB step rise R Q && tanksB T && leastB f
def holed (S K : Int) (M : List (List Int)) (L : List I3) (T : List I2) (f : I2) : Int :=
  if afloat S K M (load L).1 < 0 then 2 else if metaB S K M (afloat S K M (load L).1) L T = true ∧ lessB (metaV S K M (afloat S K M (load L).1) L T) f = false then 0 else 3
def stands (step rise : Int) (R : List (List Int)) (L : List I3) (T : List I2) (Q : List I3) (f : I2) : Int :=
  if standsB step rise R L T Q f = true then holed (fStep step rise R Q) (fRise step rise R Q) (fRows step rise R Q) L T f else 1

theorem stands_bad {step rise : Int} {R : List (List Int)} {L : List I3} {T : List I2} {Q : List I3} {f : I2} (h : standsB step rise R L T Q f = false) : stands step rise R L T Q f = 1 := by simp [stands, h]

theorem metaV_bd {step rise : Int} {R : List (List Int)} {c : Int} {L : List I3} {T : List I2} (h : metaB step rise R c L T = true) :
    (-200000000000000000 ≤ (metaV step rise R c L T).1 ∧ (metaV step rise R c L T).1 ≤ 200000000000000000) ∧ 0 < (metaV step rise R c L T).2 ∧ (metaV step rise R c L T).2 ≤ 200000000000000 := by
  rw [metaV, if_pos h]
  unfold metaB at h
  simp only [Bool.and_eq_true, decide_eq_true_eq] at h
  obtain ⟨⟨⟨h1, h2⟩, h3⟩, h4⟩ := h
  have hH := height_bd step rise R c
  have hI := inertia_bd step rise R c
  have hS := surf_bd h4
  have hV := volume_bd step rise R c
  have hL := load_bd L
  have p1 := prod_bd (a := 3 * height step rise R c + 4 * inertia step rise R c - surf T) (b := (load L).1) (A := 70000000000) (B := 400000) (by omega) (by omega) hL.1.1 hL.1.2
  have p2 := prod_bd (a := 6 * volume step rise R c) (b := (load L).2.2) (A := 288000000) (B := 400000000) (by omega) (by omega) hL.2.1 hL.2.2
  have p3 := prod_bd (a := 6 * volume step rise R c) (b := (load L).1) (A := 288000000) (B := 400000) (by omega) (by omega) hL.1.1 hL.1.2
  have p4 : 0 < 6 * volume step rise R c * (load L).1 := Int.mul_pos (by omega) (by omega)
  have n1 : -200000000000000000 ≤ metaNum step rise R c L T ∧ metaNum step rise R c L T ≤ 200000000000000000 := by unfold metaNum; omega
  have n2 : 0 < metaDen step rise R c L ∧ metaDen step rise R c L ≤ 200000000000000 := by unfold metaDen; omega
  generalize metaNum step rise R c L T = N at *
  generalize metaDen step rise R c L = D at *
  obtain ⟨g1, g2⟩ := gcd_range (num := N) n2.1
  have a1 := tdiv_abs N (Int.gcd N D : Int)
  unfold lowV
  refine ⟨⟨?_, ?_⟩, ?_, ?_⟩
  · dsimp only; omega
  · dsimp only; omega
  · exact Int.ediv_pos_of_pos_of_dvd n2.1 (Int.le_of_lt g1) (Int.gcd_dvd_right ..)
  · exact Int.le_trans (Int.ediv_le_self _ (Int.le_of_lt n2.1)) n2.2

set_option maxHeartbeats 3200000 in
theorem implStands_any (step rise : Int) (v0 : Value) (R : List (List Int)) (v1 : Value) (L : List I3) (v2' : Value) (T : List I2) (v3' : Value) (Q : List I3) (x4a x4b : Int) (w : World) (h0 : RowsIn w v0 R) (h1 : R3 w v1 L) (h2 : R2 w v2' T) (h3 : R3 w v3' Q) :
    Calls Try.prog 24 #[hullV step rise v0, v1, v2', v3', v2 (x4a, x4b)] w fun e w' => e = .returned (.int .i64 (stands step rise R L T Q (x4a, x4b))) ∧ Below w.heap.size w w' := by
  have HV0 := hide h0
  obtain ⟨ao0, cap0, rfl, hl0, hm0, hc0⟩ := h0
  clear hc0 hl0 hm0
  have HV1 := hide h1
  obtain ⟨ao1, cap1, rfl, hl1, hm1, hc1⟩ := h1
  clear hc1 hl1 hm1
  have HV2 := hide h2
  obtain ⟨ao2, cap2, rfl, hl2, hm2, hc2⟩ := h2
  clear hc2 hl2 hm2
  have HV3 := hide h3
  obtain ⟨ao3, cap3, rfl, hl3, hm3, hc3⟩ := h3
  clear hc3 hl3 hm3
  have HX : Hid (∀ x, x = stands step rise R L T Q (x4a, x4b) → x = stands step rise R L T Q (x4a, x4b)) := fun _ h => h
  clear HX
  have HW := hide (Below.refl w.heap.size w)
  unfold hullV v2
  go_enter Try.func24, Try.ntmps24
  have AHB0 := Below.alloc1 (w) (.cells #[.int .i64 step, .int .i64 rise, .slice ao0 R.length cap0] 26)
  replace HW := hide (Below.step (unhide HW) AHB0)
  have HB0 := hide (ownV_alloc (w) #[.int .i64 step, .int .i64 rise, .slice ao0 R.length cap0] 26)
  clear AHB0
  have AHB4 := Below.alloc1 ((w).alloc (.cells #[.int .i64 step, .int .i64 rise, .slice ao0 R.length cap0] 26)) (.cells #[.int .i64 x4a, .int .i64 x4b] 44)
  replace HW := hide (Below.step (unhide HW) AHB4)
  replace HB0 := hide (OwnV.step (unhide HB0) AHB4)
  have HB4 : Hid (OwnV (((w).alloc (.cells #[.int .i64 step, .int .i64 rise, .slice ao0 R.length cap0] 26)).alloc (.cells #[.int .i64 x4a, .int .i64 x4b] 44)) (w.heap.size + 1) [.int .i64 x4a, .int .i64 x4b]) := by
    have h := ownV_alloc ((w).alloc (.cells #[.int .i64 step, .int .i64 rise, .slice ao0 R.length cap0] 26)) #[.int .i64 x4a, .int .i64 x4b] 44
    simp only [World.size_alloc] at h
    exact h
  clear AHB4
  go_wp2_with fail
  refine (implLoadOf_any _ L _ ((unhide HV1).below (unhide HW))).mono ?_
  rintro e w1 ⟨rfl, hb⟩
  replace HW := hide (Below.step (unhide HW) hb)
  replace HB0 := hide (OwnV.step (unhide HB0) hb)
  replace HB4 := hide (OwnV.step (unhide HB4) hb)
  have zw1 := hb.size
  simp only [World.size_alloc] at zw1
  clear hb
  have hld := load_bd L
  obtain ⟨⟨Wt, MX, MZ⟩, el⟩ : ∃ x, x = load L := ⟨_, rfl⟩
  rw [← el] at hld ⊢
  dsimp only at hld
  have EL := hide el
  clear el
  obtain ⟨⟨l1, l2⟩, _, _⟩ := hld
  have AHD := Below.alloc1 (w1) (.cells #[.int .i64 Wt, .int .i64 MX, .int .i64 MZ] 93)
  replace HW := hide (Below.step (unhide HW) AHD)
  replace HB0 := hide (OwnV.step (unhide HB0) AHD)
  replace HB4 := hide (OwnV.step (unhide HB4) AHD)
  have HD := hide (ownV_alloc (w1) #[.int .i64 Wt, .int .i64 MX, .int .i64 MZ] 93)
  clear AHD
  have cHD0 := OwnV.cell (unhide HD) (i := 0) rfl
  have cHD1 := OwnV.cell (unhide HD) (i := 1) rfl
  have cHD2 := OwnV.cell (unhide HD) (i := 2) rfl
  cases k1 : massesB L
  case false =>
    have HK : Hid (stands step rise R L T Q (x4a, x4b) = 1) := stands_bad (by unfold standsB; simp [k1])
    go_wp2
    go_ret
    exact ⟨ret_int (unhide HK).symm, unhide HW⟩
  by_cases k2 : Wt = 0
  case pos =>
    have HK : Hid (stands step rise R L T Q (x4a, x4b) = 1) := stands_bad (by unfold standsB; rw [← unhide EL]; simp [k2])
    subst k2
    go_wp2
    go_ret
    exact ⟨ret_int (unhide HK).symm, unhide HW⟩
  have z2 : (Wt == 0) = false := by simp [k2]
  clear cHD0 cHD1 cHD2
  have cHB00 := OwnV.cell (unhide HB0) (i := 0) rfl
  have cHB01 := OwnV.cell (unhide HB0) (i := 1) rfl
  have cHB02 := OwnV.cell (unhide HB0) (i := 2) rfl
  have cHD0 := OwnV.cell (unhide HD) (i := 0) rfl
  have cHD1 := OwnV.cell (unhide HD) (i := 1) rfl
  have cHD2 := OwnV.cell (unhide HD) (i := 2) rfl
  go_wp2_with fail
  refine (implRoomsOk_any step rise _ R _ Q _ ((unhide HV0).below (unhide HW)) ((unhide HV3).below (unhide HW))).mono ?_
  rintro e w2 ⟨rfl, hb⟩
  clear cHB00 cHB01 cHB02 cHD0 cHD1 cHD2
  replace HW := hide (Below.step (unhide HW) hb)
  replace HB0 := hide (OwnV.step (unhide HB0) hb)
  replace HB4 := hide (OwnV.step (unhide HB4) hb)
  replace HD := hide (OwnV.step (unhide HD) hb)
  have zw2 := hb.size
  simp only [World.size_alloc] at zw2
  clear hb
  have cHB40 := OwnV.cell (unhide HB4) (i := 0) rfl
  have cHB41 := OwnV.cell (unhide HB4) (i := 1) rfl
  have cHD0 := OwnV.cell (unhide HD) (i := 0) rfl
  have cHD1 := OwnV.cell (unhide HD) (i := 1) rfl
  have cHD2 := OwnV.cell (unhide HD) (i := 2) rfl
  cases k3 : roomsB step rise R Q
  case false =>
    have HK : Hid (stands step rise R L T Q (x4a, x4b) = 1) := stands_bad (by unfold standsB; simp [k3])
    go_wp2
    go_ret
    exact ⟨ret_int (unhide HK).symm, unhide HW⟩
  go_wp2_with fail
  refine (tanksOk_any _ T _ ((unhide HV2).below (unhide HW))).mono ?_
  rintro e w3 ⟨rfl, hb⟩
  clear cHB40 cHB41 cHD0 cHD1 cHD2
  replace HW := hide (Below.step (unhide HW) hb)
  replace HB0 := hide (OwnV.step (unhide HB0) hb)
  replace HB4 := hide (OwnV.step (unhide HB4) hb)
  replace HD := hide (OwnV.step (unhide HD) hb)
  have zw3 := hb.size
  clear hb
  have cHB40 := OwnV.cell (unhide HB4) (i := 0) rfl
  have cHB41 := OwnV.cell (unhide HB4) (i := 1) rfl
  cases k4 : tanksB T
  case false =>
    have HK : Hid (stands step rise R L T Q (x4a, x4b) = 1) := stands_bad (by unfold standsB; simp [k4])
    go_wp2
    go_ret
    exact ⟨ret_int (unhide HK).symm, unhide HW⟩
  go_wp2_with fail
  refine (leastOk_any x4a x4b _).mono ?_
  rintro e w4 ⟨rfl, hb⟩
  clear cHB40 cHB41
  replace HW := hide (Below.step (unhide HW) hb)
  replace HB0 := hide (OwnV.step (unhide HB0) hb)
  replace HB4 := hide (OwnV.step (unhide HB4) hb)
  replace HD := hide (OwnV.step (unhide HD) hb)
  have zw4 := hb.size
  clear hb
  cases k5 : leastB (x4a, x4b)
  case false =>
    have HK : Hid (stands step rise R L T Q (x4a, x4b) = 1) := stands_bad (by unfold standsB; simp [k5])
    go_wp2
    go_ret
    exact ⟨ret_int (unhide HK).symm, unhide HW⟩
  have HS : Hid (stands step rise R L T Q (x4a, x4b) = holed (fStep step rise R Q) (fRise step rise R Q) (fRows step rise R Q) L T (x4a, x4b)) := by show _ = _; rw [stands, if_pos (by unfold standsB; rw [← unhide EL]; simp [k1, k2, k3, k4, k5])]
  have hle : (-1000 ≤ x4a ∧ x4a ≤ 1000) ∧ 1 ≤ x4b ∧ x4b ≤ 1000 := by unfold leastB at k5; simp only [Bool.and_eq_true] at k5; exact ⟨inB_true k5.1.1, inB_true k5.1.2⟩
  obtain ⟨⟨e1, e2⟩, e3', e4⟩ := hle
  have cHB00 := OwnV.cell (unhide HB0) (i := 0) rfl
  have cHB01 := OwnV.cell (unhide HB0) (i := 1) rfl
  have cHB02 := OwnV.cell (unhide HB0) (i := 2) rfl
  go_wp2_with fail
  clear k1 k3 k4 k5 z2
  refine (implFlood_any step rise _ R _ Q _ ((unhide HV0).below (unhide HW)) ((unhide HV3).below (unhide HW))).mono ?_
  rintro e w5 ⟨a0, n0, cp0, rfl, hr, hb⟩
  clear cHB00 cHB01 cHB02
  replace HW := hide (Below.step (unhide HW) hb)
  replace HB0 := hide (OwnV.step (unhide HB0) hb)
  replace HB4 := hide (OwnV.step (unhide HB4) hb)
  replace HD := hide (OwnV.step (unhide HD) hb)
  have hr := hr.upto.inn
  have HR := hide hr
  have zw5 := hb.size
  clear hb hr
  obtain ⟨S, eS⟩ : ∃ x, x = fStep step rise R Q := ⟨_, rfl⟩
  obtain ⟨K, eK⟩ : ∃ x, x = fRise step rise R Q := ⟨_, rfl⟩
  obtain ⟨M, eM⟩ : ∃ x, x = fRows step rise R Q := ⟨_, rfl⟩
  rw [← eS, ← eK, ← eM] at HS
  rw [← eM] at HR
  rw [← eS, ← eK]
  clear eS eK eM
  have AHH := Below.alloc1 (w5) (.cells #[.int .i64 S, .int .i64 K, .slice a0 n0 cp0] 26)
  replace HW := hide (Below.step (unhide HW) AHH)
  replace HB0 := hide (OwnV.step (unhide HB0) AHH)
  replace HB4 := hide (OwnV.step (unhide HB4) AHH)
  replace HD := hide (OwnV.step (unhide HD) AHH)
  replace HR := hide ((unhide HR).below AHH)
  have HH := hide (ownV_alloc (w5) #[.int .i64 S, .int .i64 K, .slice a0 n0 cp0] 26)
  clear AHH
  have cHH0 := OwnV.cell (unhide HH) (i := 0) rfl
  have cHH1 := OwnV.cell (unhide HH) (i := 1) rfl
  have cHH2 := OwnV.cell (unhide HH) (i := 2) rfl
  have cHD0 := OwnV.cell (unhide HD) (i := 0) rfl
  have cHD1 := OwnV.cell (unhide HD) (i := 1) rfl
  have cHD2 := OwnV.cell (unhide HD) (i := 2) rfl
  go_wp2_with fail
  refine (implAfloat_any S K _ M Wt _ (unhide HR)).mono ?_
  rintro e w6 ⟨rfl, hb⟩
  clear cHH0 cHH1 cHH2 cHD0 cHD1 cHD2
  replace HW := hide (Below.step (unhide HW) hb)
  replace HB0 := hide (OwnV.step (unhide HB0) hb)
  replace HB4 := hide (OwnV.step (unhide HB4) hb)
  replace HD := hide (OwnV.step (unhide HD) hb)
  replace HR := hide ((unhide HR).below hb)
  replace HH := hide (OwnV.step (unhide HH) hb)
  have zw6 := hb.size
  simp only [World.size_alloc] at zw6
  clear hb
  have HQ : Hid (holed S K M L T (x4a, x4b) = if afloat S K M Wt < 0 then 2 else if metaB S K M (afloat S K M Wt) L T = true ∧ lessB (metaV S K M (afloat S K M Wt) L T) (x4a, x4b) = false then 0 else 3) := by show _ = _; rw [holed, ← unhide EL]
  generalize afloat S K M Wt = A at *
  by_cases ha : A < 0
  case pos =>
    rw [if_pos ha] at HQ
    have HK : Hid (stands step rise R L T Q (x4a, x4b) = 2) := (unhide HS).trans (unhide HQ)
    go_wp2
    go_ret
    exact ⟨ret_int (unhide HK).symm, unhide HW⟩
  rw [if_neg ha] at HQ
  have cHH0 := OwnV.cell (unhide HH) (i := 0) rfl
  have cHH1 := OwnV.cell (unhide HH) (i := 1) rfl
  have cHH2 := OwnV.cell (unhide HH) (i := 2) rfl
  go_wp2_with fail
  refine (implMetacentre_any S K _ M A _ L _ T _ (unhide HR) ((unhide HV1).below (unhide HW)) ((unhide HV2).below (unhide HW))).mono ?_
  rintro e w7 ⟨rfl, hb⟩
  clear cHH0 cHH1 cHH2
  clear HR HH HD HB0
  replace HW := hide (Below.step (unhide HW) hb)
  replace HB4 := hide (OwnV.step (unhide HB4) hb)
  have zw7 := hb.size
  clear hb
  have HB : Hid (metaB S K M A L T = true → (-200000000000000000 ≤ (metaV S K M A L T).1 ∧ (metaV S K M A L T).1 ≤ 200000000000000000) ∧ 0 < (metaV S K M A L T).2 ∧ (metaV S K M A L T).2 ≤ 200000000000000) := metaV_bd
  generalize metaB S K M A L T = kb at *
  generalize metaV S K M A L T = X at *
  obtain ⟨N, D⟩ := X
  have AHF := Below.alloc1 (w7) (.cells #[.int .i64 N, .int .i64 D] 44)
  replace HW := hide (Below.step (unhide HW) AHF)
  replace HB4 := hide (OwnV.step (unhide HB4) AHF)
  have HF := hide (ownV_alloc (w7) #[.int .i64 N, .int .i64 D] 44)
  clear AHF
  cases kb
  case false =>
    rw [if_neg (by simp)] at HQ
    have HK : Hid (stands step rise R L T Q (x4a, x4b) = 3) := (unhide HS).trans (unhide HQ)
    go_wp2
    go_ret
    exact ⟨ret_int (unhide HK).symm, unhide HW⟩
  obtain ⟨⟨b1, b2⟩, b3, b4⟩ := unhide HB rfl
  dsimp only at b1 b2 b3 b4
  have cHF0 := OwnV.cell (unhide HF) (i := 0) rfl
  have cHF1 := OwnV.cell (unhide HF) (i := 1) rfl
  have cHB40 := OwnV.cell (unhide HB4) (i := 0) rfl
  have cHB41 := OwnV.cell (unhide HB4) (i := 1) rfl
  go_wp2_with fail
  refine (isLess_any N D x4a x4b _ b1 b2 b3 b4 e1 e2 e3' e4).mono ?_
  rintro e w8 ⟨rfl, hb⟩
  clear cHF0 cHF1 cHB40 cHB41
  replace HW := hide (Below.step (unhide HW) hb)
  replace HB4 := hide (OwnV.step (unhide HB4) hb)
  replace HF := hide (OwnV.step (unhide HF) hb)
  have zw8 := hb.size
  simp only [World.size_alloc] at zw8
  clear hb b1 b2 b3 b4
  cases kl : lessB (N, D) (x4a, x4b)
  case true =>
    rw [if_neg (by simp [kl])] at HQ
    have HK : Hid (stands step rise R L T Q (x4a, x4b) = 3) := (unhide HS).trans (unhide HQ)
    go_wp2
    go_ret
    exact ⟨ret_int (unhide HK).symm, unhide HW⟩
  rw [if_pos (by simp [kl])] at HQ
  have HK : Hid (stands step rise R L T Q (x4a, x4b) = 0) := (unhide HS).trans (unhide HQ)
  go_wp2
  go_ret
  exact ⟨ret_int (unhide HK).symm, unhide HW⟩

set_option maxHeartbeats 3200000 in
theorem specStands_any (step rise : Int) (v0 : Value) (R : List (List Int)) (v1 : Value) (L : List I3) (v2' : Value) (T : List I2) (v3' : Value) (Q : List I3) (x4a x4b : Int) (w : World) (h0 : RowsIn w v0 R) (h1 : R3 w v1 L) (h2 : R2 w v2' T) (h3 : R3 w v3' Q) :
    Calls Try.prog 38 #[hullV step rise v0, v1, v2', v3', v2 (x4a, x4b)] w fun e w' => e = .returned (.int .i64 (stands step rise R L T Q (x4a, x4b))) ∧ Below w.heap.size w w' := by
  have HV0 := hide h0
  obtain ⟨ao0, cap0, rfl, hl0, hm0, hc0⟩ := h0
  clear hc0 hl0 hm0
  have HV1 := hide h1
  obtain ⟨ao1, cap1, rfl, hl1, hm1, hc1⟩ := h1
  clear hc1 hl1 hm1
  have HV2 := hide h2
  obtain ⟨ao2, cap2, rfl, hl2, hm2, hc2⟩ := h2
  clear hc2 hl2 hm2
  have HV3 := hide h3
  obtain ⟨ao3, cap3, rfl, hl3, hm3, hc3⟩ := h3
  clear hc3 hl3 hm3
  have HX : Hid (∀ x, x = stands step rise R L T Q (x4a, x4b) → x = stands step rise R L T Q (x4a, x4b)) := fun _ h => h
  clear HX
  have HW := hide (Below.refl w.heap.size w)
  unfold hullV v2
  go_enter Try.func38, Try.ntmps38
  have AHB0 := Below.alloc1 (w) (.cells #[.int .i64 step, .int .i64 rise, .slice ao0 R.length cap0] 26)
  replace HW := hide (Below.step (unhide HW) AHB0)
  have HB0 := hide (ownV_alloc (w) #[.int .i64 step, .int .i64 rise, .slice ao0 R.length cap0] 26)
  clear AHB0
  have AHB4 := Below.alloc1 ((w).alloc (.cells #[.int .i64 step, .int .i64 rise, .slice ao0 R.length cap0] 26)) (.cells #[.int .i64 x4a, .int .i64 x4b] 44)
  replace HW := hide (Below.step (unhide HW) AHB4)
  replace HB0 := hide (OwnV.step (unhide HB0) AHB4)
  have HB4 : Hid (OwnV (((w).alloc (.cells #[.int .i64 step, .int .i64 rise, .slice ao0 R.length cap0] 26)).alloc (.cells #[.int .i64 x4a, .int .i64 x4b] 44)) (w.heap.size + 1) [.int .i64 x4a, .int .i64 x4b]) := by
    have h := ownV_alloc ((w).alloc (.cells #[.int .i64 step, .int .i64 rise, .slice ao0 R.length cap0] 26)) #[.int .i64 x4a, .int .i64 x4b] 44
    simp only [World.size_alloc] at h
    exact h
  clear AHB4
  go_wp2_with fail
  refine (specLoadOf_any _ L _ ((unhide HV1).below (unhide HW))).mono ?_
  rintro e w1 ⟨rfl, hb⟩
  replace HW := hide (Below.step (unhide HW) hb)
  replace HB0 := hide (OwnV.step (unhide HB0) hb)
  replace HB4 := hide (OwnV.step (unhide HB4) hb)
  have zw1 := hb.size
  simp only [World.size_alloc] at zw1
  clear hb
  have hld := load_bd L
  obtain ⟨⟨Wt, MX, MZ⟩, el⟩ : ∃ x, x = load L := ⟨_, rfl⟩
  rw [← el] at hld ⊢
  dsimp only at hld
  have EL := hide el
  clear el
  obtain ⟨⟨l1, l2⟩, _, _⟩ := hld
  have AHD := Below.alloc1 (w1) (.cells #[.int .i64 Wt, .int .i64 MX, .int .i64 MZ] 93)
  replace HW := hide (Below.step (unhide HW) AHD)
  replace HB0 := hide (OwnV.step (unhide HB0) AHD)
  replace HB4 := hide (OwnV.step (unhide HB4) AHD)
  have HD := hide (ownV_alloc (w1) #[.int .i64 Wt, .int .i64 MX, .int .i64 MZ] 93)
  clear AHD
  have cHB00 := OwnV.cell (unhide HB0) (i := 0) rfl
  have cHB01 := OwnV.cell (unhide HB0) (i := 1) rfl
  have cHB02 := OwnV.cell (unhide HB0) (i := 2) rfl
  have cHD0 := OwnV.cell (unhide HD) (i := 0) rfl
  have cHD1 := OwnV.cell (unhide HD) (i := 1) rfl
  have cHD2 := OwnV.cell (unhide HD) (i := 2) rfl
  go_wp2_with fail
  refine (specRoomsOk_any step rise _ R _ Q _ ((unhide HV0).below (unhide HW)) ((unhide HV3).below (unhide HW))).mono ?_
  rintro e w2 ⟨rfl, hb⟩
  clear cHB00 cHB01 cHB02 cHD0 cHD1 cHD2
  replace HW := hide (Below.step (unhide HW) hb)
  replace HB0 := hide (OwnV.step (unhide HB0) hb)
  replace HB4 := hide (OwnV.step (unhide HB4) hb)
  replace HD := hide (OwnV.step (unhide HD) hb)
  have zw2 := hb.size
  simp only [World.size_alloc] at zw2
  clear hb
  have cHB40 := OwnV.cell (unhide HB4) (i := 0) rfl
  have cHB41 := OwnV.cell (unhide HB4) (i := 1) rfl
  have cHD0 := OwnV.cell (unhide HD) (i := 0) rfl
  have cHD1 := OwnV.cell (unhide HD) (i := 1) rfl
  have cHD2 := OwnV.cell (unhide HD) (i := 2) rfl
  cases k3 : roomsB step rise R Q
  case false =>
    have HK : Hid (stands step rise R L T Q (x4a, x4b) = 1) := stands_bad (by unfold standsB; simp [k3])
    go_wp2
    go_ret
    exact ⟨ret_int (unhide HK).symm, unhide HW⟩
  cases k1 : massesB L
  case false =>
    have HK : Hid (stands step rise R L T Q (x4a, x4b) = 1) := stands_bad (by unfold standsB; simp [k1])
    go_wp2
    go_ret
    exact ⟨ret_int (unhide HK).symm, unhide HW⟩
  by_cases k2 : Wt = 0
  case pos =>
    have HK : Hid (stands step rise R L T Q (x4a, x4b) = 1) := stands_bad (by unfold standsB; rw [← unhide EL]; simp [k2])
    subst k2
    go_wp2
    go_ret
    exact ⟨ret_int (unhide HK).symm, unhide HW⟩
  have z2 : (Wt == 0) = false := by simp [k2]
  go_wp2_with fail
  refine (l2Tanks_any _ T _ ((unhide HV2).below (unhide HW))).mono ?_
  rintro e w3 ⟨rfl, hb⟩
  clear cHB40 cHB41 cHD0 cHD1 cHD2
  replace HW := hide (Below.step (unhide HW) hb)
  replace HB0 := hide (OwnV.step (unhide HB0) hb)
  replace HB4 := hide (OwnV.step (unhide HB4) hb)
  replace HD := hide (OwnV.step (unhide HD) hb)
  have zw3 := hb.size
  clear hb
  have cHB40 := OwnV.cell (unhide HB4) (i := 0) rfl
  have cHB41 := OwnV.cell (unhide HB4) (i := 1) rfl
  cases k4 : tanksB T
  case false =>
    have HK : Hid (stands step rise R L T Q (x4a, x4b) = 1) := stands_bad (by unfold standsB; simp [k4])
    go_wp2
    go_ret
    exact ⟨ret_int (unhide HK).symm, unhide HW⟩
  go_wp2_with fail
  refine (l2FracOk_any x4a x4b _).mono ?_
  rintro e w4 ⟨rfl, hb⟩
  clear cHB40 cHB41
  replace HW := hide (Below.step (unhide HW) hb)
  replace HB0 := hide (OwnV.step (unhide HB0) hb)
  replace HB4 := hide (OwnV.step (unhide HB4) hb)
  replace HD := hide (OwnV.step (unhide HD) hb)
  have zw4 := hb.size
  clear hb
  cases k5 : leastB (x4a, x4b)
  case false =>
    have HK : Hid (stands step rise R L T Q (x4a, x4b) = 1) := stands_bad (by unfold standsB; simp [k5])
    go_wp2
    go_ret
    exact ⟨ret_int (unhide HK).symm, unhide HW⟩
  have HS : Hid (stands step rise R L T Q (x4a, x4b) = holed (fStep step rise R Q) (fRise step rise R Q) (fRows step rise R Q) L T (x4a, x4b)) := by show _ = _; rw [stands, if_pos (by unfold standsB; rw [← unhide EL]; simp [k1, k2, k3, k4, k5])]
  have hle : (-1000 ≤ x4a ∧ x4a ≤ 1000) ∧ 1 ≤ x4b ∧ x4b ≤ 1000 := by unfold leastB at k5; simp only [Bool.and_eq_true] at k5; exact ⟨inB_true k5.1.1, inB_true k5.1.2⟩
  obtain ⟨⟨e1, e2⟩, e3', e4⟩ := hle
  have cHB00 := OwnV.cell (unhide HB0) (i := 0) rfl
  have cHB01 := OwnV.cell (unhide HB0) (i := 1) rfl
  have cHB02 := OwnV.cell (unhide HB0) (i := 2) rfl
  go_wp2_with fail
  clear k1 k3 k4 k5 z2
  refine (specFlood_any step rise _ R _ Q _ ((unhide HV0).below (unhide HW)) ((unhide HV3).below (unhide HW))).mono ?_
  rintro e w5 ⟨a0, n0, cp0, rfl, hr, hb⟩
  clear cHB00 cHB01 cHB02
  replace HW := hide (Below.step (unhide HW) hb)
  replace HB0 := hide (OwnV.step (unhide HB0) hb)
  replace HB4 := hide (OwnV.step (unhide HB4) hb)
  replace HD := hide (OwnV.step (unhide HD) hb)
  have hr := hr
  have HR := hide hr
  have zw5 := hb.size
  clear hb hr
  obtain ⟨S, eS⟩ : ∃ x, x = fStep step rise R Q := ⟨_, rfl⟩
  obtain ⟨K, eK⟩ : ∃ x, x = fRise step rise R Q := ⟨_, rfl⟩
  obtain ⟨M, eM⟩ : ∃ x, x = fRows step rise R Q := ⟨_, rfl⟩
  rw [← eS, ← eK, ← eM] at HS
  rw [← eM] at HR
  rw [← eS, ← eK]
  clear eS eK eM
  have AHH := Below.alloc1 (w5) (.cells #[.int .i64 S, .int .i64 K, .slice a0 n0 cp0] 26)
  replace HW := hide (Below.step (unhide HW) AHH)
  replace HB0 := hide (OwnV.step (unhide HB0) AHH)
  replace HB4 := hide (OwnV.step (unhide HB4) AHH)
  replace HD := hide (OwnV.step (unhide HD) AHH)
  replace HR := hide ((unhide HR).below AHH)
  have HH := hide (ownV_alloc (w5) #[.int .i64 S, .int .i64 K, .slice a0 n0 cp0] 26)
  clear AHH
  have cHH0 := OwnV.cell (unhide HH) (i := 0) rfl
  have cHH1 := OwnV.cell (unhide HH) (i := 1) rfl
  have cHH2 := OwnV.cell (unhide HH) (i := 2) rfl
  have cHD0 := OwnV.cell (unhide HD) (i := 0) rfl
  have cHD1 := OwnV.cell (unhide HD) (i := 1) rfl
  have cHD2 := OwnV.cell (unhide HD) (i := 2) rfl
  go_wp2_with fail
  refine (specAfloat_any S K _ M Wt _ (unhide HR)).mono ?_
  rintro e w6 ⟨rfl, hb⟩
  clear cHH0 cHH1 cHH2 cHD0 cHD1 cHD2
  replace HW := hide (Below.step (unhide HW) hb)
  replace HB0 := hide (OwnV.step (unhide HB0) hb)
  replace HB4 := hide (OwnV.step (unhide HB4) hb)
  replace HD := hide (OwnV.step (unhide HD) hb)
  replace HR := hide ((unhide HR).below hb)
  replace HH := hide (OwnV.step (unhide HH) hb)
  have zw6 := hb.size
  simp only [World.size_alloc] at zw6
  clear hb
  have HQ : Hid (holed S K M L T (x4a, x4b) = if afloat S K M Wt < 0 then 2 else if metaB S K M (afloat S K M Wt) L T = true ∧ lessB (metaV S K M (afloat S K M Wt) L T) (x4a, x4b) = false then 0 else 3) := by show _ = _; rw [holed, ← unhide EL]
  generalize afloat S K M Wt = A at *
  by_cases ha : A < 0
  case pos =>
    rw [if_pos ha] at HQ
    have HK : Hid (stands step rise R L T Q (x4a, x4b) = 2) := (unhide HS).trans (unhide HQ)
    go_wp2
    go_ret
    exact ⟨ret_int (unhide HK).symm, unhide HW⟩
  rw [if_neg ha] at HQ
  have cHH0 := OwnV.cell (unhide HH) (i := 0) rfl
  have cHH1 := OwnV.cell (unhide HH) (i := 1) rfl
  have cHH2 := OwnV.cell (unhide HH) (i := 2) rfl
  go_wp2_with fail
  refine (specMetacentre_any S K _ M A _ L _ T _ (unhide HR) ((unhide HV1).below (unhide HW)) ((unhide HV2).below (unhide HW))).mono ?_
  rintro e w7 ⟨rfl, hb⟩
  clear cHH0 cHH1 cHH2
  clear HR HH HD HB0
  replace HW := hide (Below.step (unhide HW) hb)
  replace HB4 := hide (OwnV.step (unhide HB4) hb)
  have zw7 := hb.size
  clear hb
  have HB : Hid (metaB S K M A L T = true → (-200000000000000000 ≤ (metaV S K M A L T).1 ∧ (metaV S K M A L T).1 ≤ 200000000000000000) ∧ 0 < (metaV S K M A L T).2 ∧ (metaV S K M A L T).2 ≤ 200000000000000) := metaV_bd
  generalize metaB S K M A L T = kb at *
  generalize metaV S K M A L T = X at *
  obtain ⟨N, D⟩ := X
  have AHF := Below.alloc1 (w7) (.cells #[.int .i64 N, .int .i64 D] 44)
  replace HW := hide (Below.step (unhide HW) AHF)
  replace HB4 := hide (OwnV.step (unhide HB4) AHF)
  have HF := hide (ownV_alloc (w7) #[.int .i64 N, .int .i64 D] 44)
  clear AHF
  cases kb
  case false =>
    rw [if_neg (by simp)] at HQ
    have HK : Hid (stands step rise R L T Q (x4a, x4b) = 3) := (unhide HS).trans (unhide HQ)
    go_wp2
    go_ret
    exact ⟨ret_int (unhide HK).symm, unhide HW⟩
  obtain ⟨⟨b1, b2⟩, b3, b4⟩ := unhide HB rfl
  dsimp only at b1 b2 b3 b4
  have cHF0 := OwnV.cell (unhide HF) (i := 0) rfl
  have cHF1 := OwnV.cell (unhide HF) (i := 1) rfl
  have cHB40 := OwnV.cell (unhide HB4) (i := 0) rfl
  have cHB41 := OwnV.cell (unhide HB4) (i := 1) rfl
  go_wp2_with fail
  refine (l2Less_any N D x4a x4b _ b1 b2 b3 b4 e1 e2 e3' e4).mono ?_
  rintro e w8 ⟨rfl, hb⟩
  clear cHF0 cHF1 cHB40 cHB41
  replace HW := hide (Below.step (unhide HW) hb)
  replace HB4 := hide (OwnV.step (unhide HB4) hb)
  replace HF := hide (OwnV.step (unhide HF) hb)
  have zw8 := hb.size
  simp only [World.size_alloc] at zw8
  clear hb b1 b2 b3 b4
  cases kl : lessB (N, D) (x4a, x4b)
  case true =>
    rw [if_neg (by simp [kl])] at HQ
    have HK : Hid (stands step rise R L T Q (x4a, x4b) = 3) := (unhide HS).trans (unhide HQ)
    go_wp2
    go_ret
    exact ⟨ret_int (unhide HK).symm, unhide HW⟩
  rw [if_pos (by simp [kl])] at HQ
  have HK : Hid (stands step rise R L T Q (x4a, x4b) = 0) := (unhide HS).trans (unhide HQ)
  go_wp2
  go_ret
  exact ⟨ret_int (unhide HK).symm, unhide HW⟩

end Go.Proofs.Yticcjdcglfiggaa

/- The specification's Laid. Written by wip/mkly.py. -/
import Derived.Test.YticminoejikdfaaLyCs
import Derived.Test.YticminoejikdfaaLyL
import Derived.Deep.RegionHeld3
import Derived.Deep.DeepCutAuto
namespace Go.Proofs.Yticminoejikdfaa
open Go.RowKit

theorem chP_less {n a d s u : Int} (h : chP n a d s) (h0 : 0 ≤ u) (h1 : u ≤ a) : chP n (a - u) d s := ⟨h.1, by have := h.2.1; omega, h.2.2⟩
theorem below_undrewZ {X wb : World} (hb : Below X.drew.heap.size X.drew wb) : Below X.heap.size X wb := ((Below.refl X.heap.size X).drew).trans hb

set_option maxRecDepth 100000 in
set_option maxHeartbeats 8000000 in
theorem specLaid_any (n a d s : Int) (vp v : Value) (P L : List I2) (w : World) (hp : R2 w vp P) (h : R2 w v L) :
    Calls Try.prog 31 #[vCh n a d s, vp, v] w fun r w' => r = .returned (.tuple #[v3 (layV n a d s P L).1, .bool (layV n a d s P L).2]) ∧ Below w.heap.size w w' := by
  have HVL := hide h
  have HVP := hide hp
  obtain ⟨ao, cap, rfl, hl, hm, -⟩ := h
  obtain ⟨po, pcap, rfl, hpl, hpm, hpc⟩ := hp
  unfold maxLen at hm hpm
  have HC := hide hpc
  clear hpc
  have HO := hide ((ownV_alloc w #[.int .i64 n, .int .i64 a, .int .i64 d, .int .i64 s] 25).step (Below.alloc1 _ (.cells #[.int .i64 0, .int .i64 0, .int .i64 0] 34)))
  have HR := hide (ownV_alloc (w.alloc (.cells #[.int .i64 n, .int .i64 a, .int .i64 d, .int .i64 s] 25)) #[.int .i64 0, .int .i64 0, .int .i64 0] 34)
  rw [World.size_alloc] at HR
  have HW := hide (below_alloc (Below.alloc1 w (.cells #[.int .i64 n, .int .i64 a, .int .i64 d, .int .i64 s] 25)) (.cells #[.int .i64 0, .int .i64 0, .int .i64 0] 34))
  have hrs : w.heap.size ≤ w.heap.size + 1 := Nat.le_add_right _ _
  have HQC := hide fun V => specCharterOk_any n a d s V
  have HQSP := hide fun V (hV : Below w.heap.size w V) => specSpellsOk_any _ P V ((unhide HVP).below hV)
  have HQSL := hide fun V (hV : Below w.heap.size w V) => specSpellsOk_any _ L V ((unhide HVL).below hV)
  unfold vCh at HQC ⊢
  cases hc0 : chB n a d s with
  | false =>
    rw [hc0] at HQC
    have HF := hide (layV_not (n := n) (a := a) (d := d) (s := s) (P := P) (L := L) fun h => chB_not hc0 h.1)
    go_enter Try.func31, Try.ntmps31
    go_wp2_with fail
    refine (unhide HQC _).mono ?_
    rintro e w1 ⟨rfl, hb⟩
    replace HO := hide ((unhide HO).step hb)
    replace HR := hide ((unhide HR).step hb)
    replace HW := hide (Below.step (unhide HW) hb)
    clear hb
    clear HQC
    have r0 := (unhide HR).cell (i := 0) rfl
    have rf0 := (unhide HR).frozen 0
    have r1 := (unhide HR).cell (i := 1) rfl
    have rf1 := (unhide HR).frozen 1
    have r2 := (unhide HR).cell (i := 2) rfl
    have rf2 := (unhide HR).frozen 2
    go_wp2
    have hr3 := own_set3 (unhide HR) (.int .i64 0) (.int .i64 0) (.int .i64 0)
    have k0 := hr3.cell (i := 0) rfl
    have k1 := hr3.cell (i := 1) rfl
    have k2 := hr3.cell (i := 2) rfl
    refine bodyPost_ret (v := .tuple #[.agg #[.int .i64 0, .int .i64 0, .int .i64 0], .bool false]) (by simp [results, Try.results31, go_sem, k0, k1, k2]) rfl ⟨ret_cb (unhide HF), below_set3 (unhide HW) hrs⟩
  | true =>
  rw [hc0] at HQC
  cases hc1 : ((P.length : Int) == 0) with
  | true =>
    have HF := hide (layV_not (n := n) (a := a) (d := d) (s := s) (P := P) (L := L) fun h => by have h1 := h.2.1; simp at hc1; rw [hc1] at h1; simp at h1)
    go_enter Try.func31, Try.ntmps31
    go_wp2_with fail
    refine (unhide HQC _).mono ?_
    rintro e w1 ⟨rfl, hb⟩
    replace HO := hide ((unhide HO).step hb)
    replace HR := hide ((unhide HR).step hb)
    replace HW := hide (Below.step (unhide HW) hb)
    clear hb
    clear HQC
    have r0 := (unhide HR).cell (i := 0) rfl
    have rf0 := (unhide HR).frozen 0
    have r1 := (unhide HR).cell (i := 1) rfl
    have rf1 := (unhide HR).frozen 1
    have r2 := (unhide HR).cell (i := 2) rfl
    have rf2 := (unhide HR).frozen 2
    go_wp2
    have hr3 := own_set3 (unhide HR) (.int .i64 0) (.int .i64 0) (.int .i64 0)
    have k0 := hr3.cell (i := 0) rfl
    have k1 := hr3.cell (i := 1) rfl
    have k2 := hr3.cell (i := 2) rfl
    refine bodyPost_ret (v := .tuple #[.agg #[.int .i64 0, .int .i64 0, .int .i64 0], .bool false]) (by simp [results, Try.results31, go_sem, k0, k1, k2]) rfl ⟨ret_cb (unhide HF), below_set3 (unhide HW) hrs⟩
  | false =>
  cases hc2 : spB P with
  | false =>
    rw [hc2] at HQSP
    have HF := hide (layV_not (n := n) (a := a) (d := d) (s := s) (P := P) (L := L) fun h => spB_not hc2 (h.2.2.1))
    go_enter Try.func31, Try.ntmps31
    go_wp2_with fail
    refine (unhide HQC _).mono ?_
    rintro e w1 ⟨rfl, hb⟩
    replace HO := hide ((unhide HO).step hb)
    replace HR := hide ((unhide HR).step hb)
    replace HW := hide (Below.step (unhide HW) hb)
    clear hb
    clear HQC
    go_wp2_with fail
    refine (unhide HQSP _ (unhide HW)).mono ?_
    rintro e w3 ⟨rfl, hb⟩
    replace HO := hide ((unhide HO).step hb)
    replace HR := hide ((unhide HR).step hb)
    replace HW := hide (Below.step (unhide HW) hb)
    clear hb
    clear HQSP
    have r0 := (unhide HR).cell (i := 0) rfl
    have rf0 := (unhide HR).frozen 0
    have r1 := (unhide HR).cell (i := 1) rfl
    have rf1 := (unhide HR).frozen 1
    have r2 := (unhide HR).cell (i := 2) rfl
    have rf2 := (unhide HR).frozen 2
    go_wp2
    have hr3 := own_set3 (unhide HR) (.int .i64 0) (.int .i64 0) (.int .i64 0)
    have k0 := hr3.cell (i := 0) rfl
    have k1 := hr3.cell (i := 1) rfl
    have k2 := hr3.cell (i := 2) rfl
    refine bodyPost_ret (v := .tuple #[.agg #[.int .i64 0, .int .i64 0, .int .i64 0], .bool false]) (by simp [results, Try.results31, go_sem, k0, k1, k2]) rfl ⟨ret_cb (unhide HF), below_set3 (unhide HW) hrs⟩
  | true =>
  rw [hc2] at HQSP
  cases hc3 : spB L with
  | false =>
    rw [hc3] at HQSL
    have HF := hide (layV_not (n := n) (a := a) (d := d) (s := s) (P := P) (L := L) fun h => spB_not hc3 (h.2.2.2))
    go_enter Try.func31, Try.ntmps31
    go_wp2_with fail
    refine (unhide HQC _).mono ?_
    rintro e w1 ⟨rfl, hb⟩
    replace HO := hide ((unhide HO).step hb)
    replace HR := hide ((unhide HR).step hb)
    replace HW := hide (Below.step (unhide HW) hb)
    clear hb
    clear HQC
    go_wp2_with fail
    refine (unhide HQSP _ (unhide HW)).mono ?_
    rintro e w3 ⟨rfl, hb⟩
    replace HO := hide ((unhide HO).step hb)
    replace HR := hide ((unhide HR).step hb)
    replace HW := hide (Below.step (unhide HW) hb)
    clear hb
    clear HQSP
    go_wp2_with fail
    refine (unhide HQSL _ (unhide HW)).mono ?_
    rintro e w4 ⟨rfl, hb⟩
    replace HO := hide ((unhide HO).step hb)
    replace HR := hide ((unhide HR).step hb)
    replace HW := hide (Below.step (unhide HW) hb)
    clear hb
    clear HQSL
    have r0 := (unhide HR).cell (i := 0) rfl
    have rf0 := (unhide HR).frozen 0
    have r1 := (unhide HR).cell (i := 1) rfl
    have rf1 := (unhide HR).frozen 1
    have r2 := (unhide HR).cell (i := 2) rfl
    have rf2 := (unhide HR).frozen 2
    go_wp2
    have hr3 := own_set3 (unhide HR) (.int .i64 0) (.int .i64 0) (.int .i64 0)
    have k0 := hr3.cell (i := 0) rfl
    have k1 := hr3.cell (i := 1) rfl
    have k2 := hr3.cell (i := 2) rfl
    refine bodyPost_ret (v := .tuple #[.agg #[.int .i64 0, .int .i64 0, .int .i64 0], .bool false]) (by simp [results, Try.results31, go_sem, k0, k1, k2]) rfl ⟨ret_cb (unhide HF), below_set3 (unhide HW) hrs⟩
  | true =>
  rw [hc3] at HQSL
  go_enter Try.func31, Try.ntmps31
  go_wp2_with fail
  refine (unhide HQC _).mono ?_
  rintro e w1 ⟨rfl, hb⟩
  replace HO := hide ((unhide HO).step hb)
  replace HR := hide ((unhide HR).step hb)
  replace HW := hide (Below.step (unhide HW) hb)
  clear hb
  clear HQC
  go_wp2_with fail
  refine (unhide HQSP _ (unhide HW)).mono ?_
  rintro e w3 ⟨rfl, hb⟩
  replace HO := hide ((unhide HO).step hb)
  replace HR := hide ((unhide HR).step hb)
  replace HW := hide (Below.step (unhide HW) hb)
  clear hb
  clear HQSP
  go_wp2_with fail
  refine (unhide HQSL _ (unhide HW)).mono ?_
  rintro e w4 ⟨rfl, hb⟩
  replace HO := hide ((unhide HO).step hb)
  replace HR := hide ((unhide HR).step hb)
  replace HW := hide (Below.step (unhide HW) hb)
  clear hb
  clear HQSL
  have r0 := (unhide HR).cell (i := 0) rfl
  have rf0 := (unhide HR).frozen 0
  have r1 := (unhide HR).cell (i := 1) rfl
  have rf1 := (unhide HR).frozen 1
  have r2 := (unhide HR).cell (i := 2) rfl
  have rf2 := (unhide HR).frozen 2
  have HCH := hide (chB_iff.1 hc0)
  obtain ⟨-, ⟨a2, a3⟩, -⟩ := unhide HCH
  have hP0 : 0 < P.length := by simp at hc1; exact List.length_pos_iff.2 hc1
  have HSP := hide (spB_iff.1 hc2)
  have HSL := hide (spB_iff.1 hc3)
  have hn := (unhide HSP).1
  have HF := hide (layV_yes (n := n) (a := a) (d := d) (s := s) (P := P) (L := L) ⟨unhide HCH, hP0, unhide HSP, unhide HSL⟩)
  have HI := hide fun k hk => layN_inv (A := a) (P := P) (L := L) a2 (unhide HSP) (unhide HSL) k hk
  clear hc0 hc1 hc2 hc3 hP0 r0 r1 r2 rf0 rf1 rf2
  obtain ⟨go, hgo⟩ : ∃ g, g = w4.heap.size := ⟨_, rfl⟩
  have HU : Hid (OwnV (w4.alloc (.cells #[.int .i64 0, .int .i64 0, .int .i64 (-1)] 34)) go [.int .i64 0, .int .i64 0, .int .i64 (-1)]) := by
    show OwnV _ _ _
    rw [hgo]
    exact ownV_alloc w4 #[.int .i64 0, .int .i64 0, .int .i64 (-1)] 34
  have A := Below.alloc1 w4 (.cells #[.int .i64 0, .int .i64 0, .int .i64 (-1)] 34)
  have hgw : w.heap.size + 1 < go := by rw [hgo]; exact (unhide HR).lt
  replace HO := hide ((unhide HO).step A)
  replace HR := hide ((unhide HR).step A)
  replace HW := hide (Below.step (unhide HW) A)
  clear A
  go_wp2
  rw [← hgo]
  clear hgo
  go_loopg [9] P.length (fun g i wr => Hid (Below w.heap.size w wr) ∧ Hid (OwnV wr (w.heap.size + 1) [.int .i64 0, .int .i64 0, .int .i64 0]) ∧ ∃ k : Nat, k ≤ P.length ∧ g = P.length - k ∧ i = .int .i64 k ∧ Hid (OwnV wr w.heap.size (cCh n (a - (layN a P L k).1) d s)) ∧ Hid (OwnV wr go [.int .i64 (layN a P L k).1, .int .i64 (layN a P L k).2.1, .int .i64 (layN a P L k).2.2]))
  case atStart => exact ⟨unhide HW, unhide HR, 0, Nat.zero_le _, rfl, rfl, by have h1 := unhide HO; simp only [layN, Int.sub_zero]; exact h1, unhide HU⟩
  case round =>
    clear HW HR HO HU
    obtain ⟨HW, HR, k, hk, rfl, rfl, HO, HU⟩ := hrel
    by_cases hkn : k < P.length
    · obtain ⟨b1, o, x, y, rfl, hx, hy, EX⟩ := rec2At (unhide HC) hkn
      have g0 := ((unhide HW).cell (lt_of_cell hx)).trans hx
      have g1 := ((unhide HW).cell (lt_of_cell hy)).trans hy
      have hbw : b1 < w.heap.size := lt_of_cell hx
      have hki : (k : Int) < P.length := by omega
      obtain ⟨hx0, hxy, hy1, -⟩ := (unhide HSP).2 k hkn
      unfold fr at hx0 hxy
      unfold tw at hxy hy1
      rw [unhide EX] at hx0 hxy hy1
      dsimp only at hx0 hxy hy1
      have EN : Hid (layN a P L (k + 1) = lay1 a L (x, y) (layN a P L k)) := by show _ = _; rw [layN, unhide EX]
      have HIk := unhide HI k hk
      have hkk : (k : Int) ≤ 100 := by omega
      obtain ⟨q1, q2, q3, eq⟩ : ∃ q1 q2 q3, layN a P L k = (q1, q2, q3) := ⟨_, _, _, rfl⟩
      rw [eq] at EN HO HU HIk
      dsimp only at HO HU
      have hu0 : 0 ≤ q1 := HIk.u0
      have hu1 : q1 ≤ a := HIk.u1
      have ho0 : 0 ≤ q2 := HIk.o0
      have ho1 : q2 ≤ 100000000 * (k : Int) := HIk.o1
      have hl0 : -1 ≤ q3 := HIk.l0
      have hl1 : q3 ≤ 100000000 := HIk.l1
      have hcb := cnt3_bd (unhide HSL) (a := a - q1) (b := x) (d := y) (by omega) hx0 (by omega)
      have HQ := hide fun V (hV : Below w.heap.size w V) => specCounted_any n (a - q1) d s x y _ L V ((unhide HVL).below hV)
      rw [cntV_yes ⟨chP_less (unhide HCH) hu0 hu1, ⟨hx0, by omega, hy1⟩, unhide HSL⟩] at HQ
      unfold lay1 at EN
      dsimp only at EN
      clear hx hy EX HIk eq
      generalize cnt3 (a - q1) x y L = m at *
      obtain ⟨m1, m2, m3⟩ := m
      dsimp only at HQ EN hcb
      obtain ⟨k1, k2, k3, k4, k5, k6, -⟩ := hcb
      unfold vCh v3 at HQ
      generalize wr = X at *
      have c0 := (unhide HO).cell (i := 0) rfl
      have c1 := (unhide HO).cell (i := 1) rfl
      have c2 := (unhide HO).cell (i := 2) rfl
      have c3 := (unhide HO).cell (i := 3) rfl
      have hXs := (unhide HW).size
      have hXg := (unhide HU).lt
      have hXr := (unhide HR).lt
      have hn1 : ¬ X.heap.size = w.heap.size := by omega
      have hn2 : ¬ w.heap.size = X.heap.size := by omega
      have hn3 : ¬ b1 = X.heap.size := by omega
      have hn4 : ¬ X.heap.size = b1 := by omega
      go_wp2_with fail
      go_cut [10, 11] (fun s10 s11 wx => ∃ gx : Nat, s10 = .pointer (some ⟨gx, 0, none⟩) ∧ s11 = .bool true ∧ X.heap.size ≤ gx ∧ Hid (Below X.heap.size X wx) ∧ Hid (OwnV wx gx [.int .i64 m1, .int .i64 m2, .int .i64 m3]))
      case first =>
        go_region_held3 (fun w' => w'.cell? ⟨w.heap.size, 0, none⟩ = some (.int .i64 n) ∧ w'.cell? ⟨w.heap.size, 1, none⟩ = some (.int .i64 (a - q1)) ∧ w'.cell? ⟨w.heap.size, 2, none⟩ = some (.int .i64 d) ∧ w'.cell? ⟨w.heap.size, 3, none⟩ = some (.int .i64 s) ∧ w'.cell? ⟨b1, o + k * 2, none⟩ = some (.int .i64 x) ∧ w'.cell? ⟨b1, o + k * 2 + 1, none⟩ = some (.int .i64 y)) (go_keep) (first | (go_at_call 27; refine (unhide HQ _ (by first | exact unhide HW | exact (unhide HW).drew | exact below_alloc (unhide HW) _ | exact (below_alloc (unhide HW) _).drew | exact below_alloc (unhide HW).drew _)).mono ?_; rintro e wb ⟨rfl, hb⟩; (first | (have HB : Hid (Below X.heap.size X wb) := hb) | (have HB : Hid (Below X.heap.size X wb) := below_undrewZ hb) | (have HB : Hid (Below X.heap.size X wb) := Below.step (Below.alloc1 _ _) hb) | (have HB : Hid (Below X.heap.size X wb) := Below.step (Below.alloc1 _ _) (below_undrewZ hb))); (try (have HNW := hide (OwnV.step (ownV_alloc X _ _) hb))); (try (have HNW := hide (OwnV.step (ownV_alloc X _ _) (below_undrewZ hb)))); (try (have n0 := (unhide HNW).cell (i := 0) rfl; have n1 := (unhide HNW).cell (i := 1) rfl; have n2 := (unhide HNW).cell (i := 2) rfl; have nf := (unhide HNW).frozen)); have HO2 := hide ((unhide HO).step (unhide HB)); have t0 := (unhide HO2).cell (i := 0) rfl; have t1 := (unhide HO2).cell (i := 1) rfl; have t2 := (unhide HO2).cell (i := 2) rfl; have t3 := (unhide HO2).cell (i := 3) rfl; have t4 := ((unhide HB).cell (lt_of_cell g0)).trans g0; have t5 := ((unhide HB).cell (lt_of_cell g1)).trans g1; have hbs := (unhide HB).size; clear hb))
        all_goals
          go_wp2_with fail
          go_meet
          first
            | exact ⟨X.heap.size, rfl, rfl, Nat.le_refl _, hide (below_set3 (unhide HB) (Nat.le_refl _)), hide (own_set3 (unhide HNW) (.int .i64 m1) (.int .i64 m2) (.int .i64 m3))⟩
            | exact ⟨wb.heap.size, rfl, rfl, hbs, hide (Below.step (unhide HB) (Below.alloc1 _ _)), hide (ownV_alloc wb #[.int .i64 m1, .int .i64 m2, .int .i64 m3] 34)⟩
      case rest =>
        clear c0 c1 c2 c3 hn1 hn2 hn3 hn4 HQ
        obtain ⟨gx, rfl, rfl, p1, HB, HX⟩ := hcut
        generalize wc = Y at *
        replace HW := hide (Below.step (unhide HW) (unhide HB))
        replace HR := hide ((unhide HR).step (unhide HB))
        replace HO := hide ((unhide HO).step (unhide HB))
        replace HU := hide ((unhide HU).step (unhide HB))
        clear HB g0 g1
        have e1 : IntKind.i64.wrap (q1 + m1) = q1 + m1 := by rw [IntKind.wrap_i64]; omega
        have e2 : IntKind.i64.wrap (q2 + m2) = q2 + m2 := by rw [IntKind.wrap_i64]; omega
        have e3 : IntKind.i64.wrap (a - q1 - m1) = a - (q1 + m1) := by rw [IntKind.wrap_i64]; omega
        have n1 : ¬ gx = go := by omega
        have n2 : ¬ go = gx := by omega
        have n3 : ¬ gx = w.heap.size := by omega
        have n4 : ¬ w.heap.size = gx := by omega
        have n5 : ¬ go = w.heap.size := by omega
        have n6 : ¬ w.heap.size = go := by omega
        have c1 := (unhide HO).cell (i := 1) rfl
        have cf := (unhide HO).frozen
        have u0 := (unhide HU).cell (i := 0) rfl
        have u1 := (unhide HU).cell (i := 1) rfl
        have u2 := (unhide HU).cell (i := 2) rfl
        have uf := (unhide HU).frozen
        have x0 := (unhide HX).cell (i := 0) rfl
        have x1 := (unhide HX).cell (i := 1) rfl
        have x2 := (unhide HX).cell (i := 2) rfl
        by_cases h3 : q3 < 0
        · have d3 : decide (q3 < 0) = true := by simpa using h3
          have EN2 : Hid (layN a P L (k + 1) = (q1 + m1, q2 + m2, m3)) := by show _ = _; rw [unhide EN, if_pos h3]
          have HW2 := hide (((((unhide HW).setCell (p := ⟨go, 0, none⟩) (by show w.heap.size ≤ go; omega) (.int .i64 (q1 + m1))).setCell (p := ⟨go, 1, none⟩) (by show w.heap.size ≤ go; omega) (.int .i64 (q2 + m2))).setCell (p := ⟨go, 2, none⟩) (by show w.heap.size ≤ go; omega) (.int .i64 m3)).setCell (p := ⟨w.heap.size, 1, none⟩) (by show w.heap.size ≤ w.heap.size; omega) (.int .i64 (a - (q1 + m1))))
          have HR2 := hide (((((unhide HR).other (a := ⟨go, 0, none⟩) (by show w.heap.size + 1 ≠ go; omega) (.int .i64 (q1 + m1))).other (a := ⟨go, 1, none⟩) (by show w.heap.size + 1 ≠ go; omega) (.int .i64 (q2 + m2))).other (a := ⟨go, 2, none⟩) (by show w.heap.size + 1 ≠ go; omega) (.int .i64 m3)).other (a := ⟨w.heap.size, 1, none⟩) (by show w.heap.size + 1 ≠ w.heap.size; omega) (.int .i64 (a - (q1 + m1))))
          have HO2 := hide (((((unhide HO).other (a := ⟨go, 0, none⟩) (by show w.heap.size ≠ go; omega) (.int .i64 (q1 + m1))).other (a := ⟨go, 1, none⟩) (by show w.heap.size ≠ go; omega) (.int .i64 (q2 + m2))).other (a := ⟨go, 2, none⟩) (by show w.heap.size ≠ go; omega) (.int .i64 m3)).set 1 (.int .i64 (a - (q1 + m1))) (by simp))
          have HU2 := hide (((((unhide HU).set 0 (.int .i64 (q1 + m1)) (by simp)).set 1 (.int .i64 (q2 + m2)) (by simp)).set 2 (.int .i64 m3) (by simp)).other (a := ⟨w.heap.size, 1, none⟩) (by show go ≠ w.heap.size; omega) (.int .i64 (a - (q1 + m1))))
          go_wp2
          go_roundg (P.length - (k + 1))
          case measure => omega
          case rel => exact ⟨unhide HW2, unhide HR2, k + 1, by omega, rfl, by go_num, by rw [unhide EN2]; exact unhide HO2, by rw [unhide EN2]; exact unhide HU2⟩
        · have d3 : decide (q3 < 0) = false := by simpa using h3
          have EN2 : Hid (layN a P L (k + 1) = (q1 + m1, q2 + m2, q3)) := by show _ = _; rw [unhide EN, if_neg h3]
          have HW2 := hide ((((unhide HW).setCell (p := ⟨go, 0, none⟩) (by show w.heap.size ≤ go; omega) (.int .i64 (q1 + m1))).setCell (p := ⟨go, 1, none⟩) (by show w.heap.size ≤ go; omega) (.int .i64 (q2 + m2))).setCell (p := ⟨w.heap.size, 1, none⟩) (by show w.heap.size ≤ w.heap.size; omega) (.int .i64 (a - (q1 + m1))))
          have HR2 := hide ((((unhide HR).other (a := ⟨go, 0, none⟩) (by show w.heap.size + 1 ≠ go; omega) (.int .i64 (q1 + m1))).other (a := ⟨go, 1, none⟩) (by show w.heap.size + 1 ≠ go; omega) (.int .i64 (q2 + m2))).other (a := ⟨w.heap.size, 1, none⟩) (by show w.heap.size + 1 ≠ w.heap.size; omega) (.int .i64 (a - (q1 + m1))))
          have HO2 := hide ((((unhide HO).other (a := ⟨go, 0, none⟩) (by show w.heap.size ≠ go; omega) (.int .i64 (q1 + m1))).other (a := ⟨go, 1, none⟩) (by show w.heap.size ≠ go; omega) (.int .i64 (q2 + m2))).set 1 (.int .i64 (a - (q1 + m1))) (by simp))
          have HU2 := hide ((((unhide HU).set 0 (.int .i64 (q1 + m1)) (by simp)).set 1 (.int .i64 (q2 + m2)) (by simp)).other (a := ⟨w.heap.size, 1, none⟩) (by show go ≠ w.heap.size; omega) (.int .i64 (a - (q1 + m1))))
          go_wp2
          go_roundg (P.length - (k + 1))
          case measure => omega
          case rel => exact ⟨unhide HW2, unhide HR2, k + 1, by omega, rfl, by go_num, by rw [unhide EN2]; exact unhide HO2, by rw [unhide EN2]; exact unhide HU2⟩
    · obtain rfl : k = P.length := by omega
      generalize layN a P L P.length = q at *
      obtain ⟨q1, q2, q3⟩ := q
      dsimp only at HU HF
      have u0 := (unhide HU).cell (i := 0) rfl
      have u1 := (unhide HU).cell (i := 1) rfl
      have u2 := (unhide HU).cell (i := 2) rfl
      have n1 : ¬ go = w.heap.size + 1 := by omega
      have n2 : ¬ w.heap.size + 1 = go := by omega
      have r0 := (unhide HR).cell (i := 0) rfl
      have rf0 := (unhide HR).frozen 0
      have r1 := (unhide HR).cell (i := 1) rfl
      have rf1 := (unhide HR).frozen 1
      have r2 := (unhide HR).cell (i := 2) rfl
      have rf2 := (unhide HR).frozen 2
      go_wp2
      have hr3 := own_set3 (unhide HR) (.int .i64 q1) (.int .i64 q2) (.int .i64 q3)
      have k0 := hr3.cell (i := 0) rfl
      have k1 := hr3.cell (i := 1) rfl
      have k2 := hr3.cell (i := 2) rfl
      refine bodyPost_ret (v := .tuple #[.agg #[.int .i64 q1, .int .i64 q2, .int .i64 q3], .bool true]) (by simp [results, Try.results31, go_sem, k0, k1, k2]) rfl ⟨ret_cb (unhide HF), below_set3 (unhide HW) hrs⟩

end Go.Proofs.Yticminoejikdfaa

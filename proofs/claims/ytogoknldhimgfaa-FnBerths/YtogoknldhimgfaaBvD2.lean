/- The stable sort's symMerge, its middle ahead of m. Written by wip/mkly.py. -/
import Derived.Test.YtogoknldhimgfaaBvD1
namespace Go.Proofs.Ytogoknldhimgfaa
open Go.RowKit


set_option maxRecDepth 10000 in
set_option maxHeartbeats 16000000 in
theorem symHigh_any (g gb gr cb n cap a m b : Nat) (r D : List Int) (w : World) (hk : Keys w g gb gr cb r) (h : OwnV w g (ints D)) (hn : D.length = n) (ham : a < m) (hmb : m < b) (hbn : b ≤ n) (hn1 : n ≤ 1000) (hc : n ≤ cap) (hcm : cap ≤ 1048576) (hv : Vals r D) (hM : Mrg r D a m b) (h1 : b ≠ m + 1) (h2 : (a + b) / 2 < m) (hIH : ∀ (a' m' b' : Nat) (E : List Int) (W : World), b' - a' < b - a → Keys W g gb gr cb r → OwnV W g (ints E) → E.length = n → a' < m' → m' < b' → b' ≤ n → Vals r E → Mrg r E a' m' b' → Calls Try.prog 92 #[.slice (some ⟨g, 0, none⟩) n cap, .int .i64 (a' : Int), .int .i64 (m' : Int), .int .i64 (b' : Int), cmpF gb] W (RowAns g W (Mgd r E a' b'))) :
    Calls Try.prog 92 #[.slice (some ⟨g, 0, none⟩) n cap, .int .i64 (a : Int), .int .i64 (m : Int), .int .i64 (b : Int), cmpF gb] w (RowAns g w (Mgd r D a b)) := by
  have HKY := hide hk
  have HO := hide h
  have HN := hide hn
  have HV := hide hv
  have HM := hide hM
  clear hk h hn hv hM
  have HIH := hide hIH
  clear hIH
  obtain ⟨l, el⟩ : ∃ l : Nat, l = m - a := ⟨_, rfl⟩
  have e0 : IntKind.i64.wrap ((m : Int) - (a : Int)) = (l : Int) := by rw [IntKind.wrap_i64]; omega
  have e1 : ((l : Int) == 1) = false := by simp; omega
  obtain ⟨l2, el2⟩ : ∃ l : Nat, l = b - m := ⟨_, rfl⟩
  have e2 : IntKind.i64.wrap ((b : Int) - (m : Int)) = (l2 : Int) := by rw [IntKind.wrap_i64]; omega
  have e3 : ((l2 : Int) == 1) = false := by simp; omega
  have hlen : a + 2 ≤ b := by omega
  clear h1 el el2
  obtain ⟨mid, emid⟩ : ∃ mid : Nat, mid = (a + b) / 2 := ⟨_, rfl⟩
  have wa : IntKind.i64.wrap ((a : Int) + (b : Int)) = ((a + b : Nat) : Int) := by rw [IntKind.wrap_i64]; omega
  have wb : IntKind.u64.wrap (((a + b : Nat) : Int)) = ((a + b : Nat) : Int) := by rw [IntKind.wrap_u64]; omega
  have wc1 : ((a + b : Nat) : Int) >>> (1 : Nat) = (mid : Int) := by rw [Int.shiftRight_eq_div_pow]; omega
  have wc2 : ((a + b : Nat) : Int) / 2 = (mid : Int) := by omega
  have wc3 : (a + b) / 2 = mid := by omega
  have wc4 : ((a : Int) + (b : Int)) / 2 = (mid : Int) := by omega
  have wd : IntKind.i64.wrap (mid : Int) = (mid : Int) := by rw [IntKind.wrap_i64]; omega
  have we : IntKind.u64.wrap (mid : Int) = (mid : Int) := by rw [IntKind.wrap_u64]; omega
  obtain ⟨N, eN⟩ : ∃ N : Nat, N = mid + m := ⟨_, rfl⟩
  have wN : IntKind.i64.wrap ((mid : Int) + (m : Int)) = (N : Int) := by rw [IntKind.wrap_i64]; omega
  obtain ⟨p, ep⟩ : ∃ p : Nat, p = N - 1 := ⟨_, rfl⟩
  have wp : IntKind.i64.wrap ((N : Int) - 1) = (p : Int) := by rw [IntKind.wrap_i64]; omega
  have EMID := hide emid
  have hmid1 : a < mid := by omega
  have hmid2 : mid < b := by omega
  obtain ⟨s0, es⟩ : ∃ s : Nat, s = N - b := ⟨_, rfl⟩
  have ws : IntKind.i64.wrap ((N : Int) - (b : Int)) = (s0 : Int) := by rw [IntKind.wrap_i64]; omega
  have dm : decide ((mid : Int) < (m : Int)) = true := by simp; omega
  have hs1 : a ≤ s0 := by omega
  have hs2 : mid + m ≤ s0 + b := by omega
  have hs3 : s0 ≤ mid := by omega
  have hmm : mid < m := by omega
  have HB0 : Hid (Srch r D a m b mid s0 mid) := ⟨fun c c1 c2 c3 => by omega, fun c c1 c2 c3 => by omega⟩
  clear es
  have hNp : p + 1 = mid + m := by omega
  have hN : N = mid + m := eN
  have HNN := hide hN
  have HPP := hide hNp
  clear h2 emid eN ep hN hNp
  unfold cmpF
  go_enter Try.func92, Try.ntmps92
  go_wp2
  clear wa wb wc1 wc2 wd we wN wp e0 e1 e2 e3 ws
  go_loopg [20, 21] (mid - s0) (fun gg iv jv wr => ∃ (i j : Nat), gg = j - i ∧ iv = .int .i64 (i : Int) ∧ jv = .int .i64 (j : Int) ∧ s0 ≤ i ∧ i ≤ j ∧ j ≤ mid ∧ Hid (OwnV wr g (ints D)) ∧ Hid (Srch r D a m b mid i j) ∧ Hid (Kept (fun b => b = g) w wr))
  case atStart => exact ⟨s0, mid, rfl, rfl, rfl, Nat.le_refl _, by omega, Nat.le_refl _, HO, HB0, Kept.refl _ _⟩
  case round =>
    clear HO HB0
    obtain ⟨i, j, rfl, rfl, rfl, hi1, hij, hj1, HO, HB, HK⟩ := hrel
    by_cases hlt : i < j
    · have hltI : (i : Int) < j := by omega
      clear wc3 wc4
      obtain ⟨c, ec⟩ : ∃ c : Nat, c = (i + j) / 2 := ⟨_, rfl⟩
      have wa : IntKind.i64.wrap ((i : Int) + (j : Int)) = ((i + j : Nat) : Int) := by rw [IntKind.wrap_i64]; omega
      have wb : IntKind.u64.wrap (((i + j : Nat) : Int)) = ((i + j : Nat) : Int) := by rw [IntKind.wrap_u64]; omega
      have wc1 : ((i + j : Nat) : Int) >>> (1 : Nat) = (c : Int) := by rw [Int.shiftRight_eq_div_pow]; omega
      have wc2 : ((i + j : Nat) : Int) / 2 = (c : Int) := by omega
      have wc3 : (i + j) / 2 = c := by omega
      have wc4 : ((i : Int) + (j : Int)) / 2 = (c : Int) := by omega
      have wd : IntKind.i64.wrap (c : Int) = (c : Int) := by rw [IntKind.wrap_i64]; omega
      have we : IntKind.u64.wrap (c : Int) = (c : Int) := by rw [IntKind.wrap_u64]; omega
      have hc1 : i ≤ c := by omega
      have hc2 : c < j := by omega
      obtain ⟨o, eo⟩ : ∃ o : Nat, o = mid + m - 1 - c := ⟨_, rfl⟩
      have wo : IntKind.i64.wrap ((p : Int) - (c : Int)) = (o : Int) := by have := unhide HPP; rw [IntKind.wrap_i64]; omega
      have hoI : (o : Int) < n := by omega
      have hcI : (c : Int) < n := by omega
      have hon : o < n := by omega
      have hcn : c < n := by omega
      have w9 : IntKind.i64.wrap ((c : Int) + 1) = ((c + 1 : Nat) : Int) := by rw [IntKind.wrap_i64]; omega
      have hcm0 : c < m := by omega
      have hcm1 : c < mid := by omega
      have HUP : Hid (¬ ky r (ix D c) < ky r (ix D o) → Srch r D a m b mid (c + 1) j) := fun h => (unhide HB).up (unhide HM) (unhide EMID) hcm0 hcm1 (by rw [← eo]; exact h)
      have HDN : Hid (ky r (ix D c) < ky r (ix D o) → Srch r D a m b mid i c) := fun h => (unhide HB).down (unhide HM) (unhide EMID) (by omega) (by omega) (by rw [← eo]; exact h)
      have cc0 := (unhide HO).cell (ints_atA (M := D) (p := c) (by rw [unhide HN]; exact hcn))
      have cp0 := (unhide HO).cell (ints_atA (M := D) (p := o) (by rw [unhide HN]; exact hon))
      have cc := fun x' : Gr wr => gr_cell cc0 x'
      have cp := fun x' : Gr wr => gr_cell cp0 x'
      have HC := cmpF_gr ((unhide HKY).kept (unhide HK)) ((unhide HV).at (k := o) (by rw [unhide HN]; exact hon)) ((unhide HV).at (k := c) (by rw [unhide HN]; exact hcn))
      have hz := cmpI_neg (x := ky r (ix D c)) (y := ky r (ix D o))
      clear ec eo cc0 cp0 HB
      by_cases hc0 : ky r (ix D c) < ky r (ix D o)
      · have dz : decide (cmpI (ky r (ix D c)) (ky r (ix D o)) < 0) = true := by simpa using hz.2 hc0
        have HB2 := hide (unhide HDN hc0)
        clear hz hc0 HUP HDN
        generalize cmpI (ky r (ix D c)) (ky r (ix D o)) = z at *
        generalize ix D c = vc at *
        generalize ix D o = vo at *
        have gsome := gr_some wr
        go_wp2_with fail
        refine wp_region_grown (by kernel_rfl) (by kernel_rfl) ?_
        repeat (go_big_quiet_step (fail))
        go_big_quiet_want
        go_big_quiet_op
        go_big_quiet_call (exact calls_grown (unhide HC _))
        repeat (go_big_quiet_step (fail))
        refine wpQuiet_nil ?_
        intro w1 hw1
        obtain ⟨z', hz⟩ := hw1
        have hb : Below wr.heap.size wr w1 := hz ▸ z'.ok
        clear hz z' gsome
        have HO2 := hide ((unhide HO).step hb)
        have HK2 := hide ((unhide HK).trans (kept_of_below hb))
        clear hb HC cc cp HO HK
        go_wp2
        go_roundg (c - i)
        case measure => omega
        case rel => exact ⟨i, c, rfl, rfl, rfl, hi1, by omega, by omega, HO2, HB2, HK2⟩
      · have dz : decide (cmpI (ky r (ix D c)) (ky r (ix D o)) < 0) = false := by simpa using fun h => hc0 (hz.1 h)
        have HB2 := hide (unhide HUP hc0)
        clear hz hc0 HUP HDN
        generalize cmpI (ky r (ix D c)) (ky r (ix D o)) = z at *
        generalize ix D c = vc at *
        generalize ix D o = vo at *
        have gsome := gr_some wr
        go_wp2_with fail
        refine wp_region_grown (by kernel_rfl) (by kernel_rfl) ?_
        repeat (go_big_quiet_step (fail))
        go_big_quiet_want
        go_big_quiet_op
        go_big_quiet_call (exact calls_grown (unhide HC _))
        repeat (go_big_quiet_step (fail))
        refine wpQuiet_nil ?_
        intro w1 hw1
        obtain ⟨z', hz⟩ := hw1
        have hb : Below wr.heap.size wr w1 := hz ▸ z'.ok
        clear hz z' gsome
        have HO2 := hide ((unhide HO).step hb)
        have HK2 := hide ((unhide HK).trans (kept_of_below hb))
        clear hb HC cc cp HO HK
        go_wp2
        go_roundg (j - (c + 1))
        case measure => omega
        case rel => exact ⟨c + 1, j, rfl, rfl, rfl, by omega, by omega, hj1, HO2, HB2, HK2⟩
    · obtain rfl : i = j := by omega
      have hltI : ¬ (i : Int) < i := by omega
      obtain ⟨e, ee⟩ : ∃ e : Nat, e = mid + m - i := ⟨_, rfl⟩
      have wE : IntKind.i64.wrap ((N : Int) - (i : Int)) = (e : Int) := by have := unhide HNN; rw [IntKind.wrap_i64]; omega
      have HCUT := hide ((unhide HB).cut (unhide EMID) ham hmb (by omega) (by omega) (by omega) (by omega))
      have HE := hide ee
      have he1 : m ≤ e := by omega
      have he2 : e ≤ b := by omega
      have he3 : mid ≤ e := by omega
      have hie : i + e = mid + m := by omega
      have HIE := hide hie
      have ha1 : a ≤ i := by omega
      clear hlt HB ee wc3 wc4
      generalize wr = wo at *
      by_cases hro : i < m ∧ i < mid
      · obtain ⟨hro1, hro2⟩ := hro
        by_cases hle : a < i
        · by_cases hri : e < b
          · skip
            have d1 : decide ((i : Int) < (m : Int)) = true := by simp; omega
            have qd1 : ((i : Int) < (m : Int)) := by omega
            have d2 : decide ((m : Int) < (e : Int)) = true := by simp; omega
            have qd2 : ((m : Int) < (e : Int)) := by omega
            clear hie
            go_wp2_with fail
            refine (rotate_any g n cap i m e _ D _ (unhide HO) (unhide HN) (by omega) (by omega) (by omega) hn1 hc hcm).mono ?_
            rintro e5 w5 ⟨rfl, ⟨E1, ho, hs, hx⟩, hkk⟩
            have hie := unhide HIE
            replace HO := hide ho
            replace HK := hide ((unhide HK).trans hkk)
            have HS1 : Hid (Seg a b D E1) := hs.mono (by omega) (by omega)
            have HH : Hid (Half r E1 a b mid i e) := by have h9 := (unhide HCUT).half (D1 := E1) (unhide HM) (by rw [← unhide HE]; exact hx); rw [← unhide HE] at h9; exact h9
            clear ho hs hx hkk
            have HL1 : Hid (E1.length = n) := (unhide HS1).len.trans (unhide HN)
            have HV1 := hide ((unhide HV).seg (unhide HS1))
            have d3 : decide ((a : Int) < (i : Int)) = true := by simp; omega
            have d4 : decide ((i : Int) < (mid : Int)) = true := by simp; omega
            have qd3 : (a : Int) < (i : Int) := by omega
            have qd4 : (i : Int) < (mid : Int) := by omega
            have HML : Hid (Mrg r E1 a i mid) := ⟨by rw [unhide HL1]; omega, (unhide HH).l1, (unhide HH).l2, (unhide HH).lc⟩
            have HQ := hide (unhide HIH a i mid E1 _ (by omega) ((unhide HKY).kept (unhide HK)) (unhide HO) (unhide HL1) (by omega) (by omega) (by omega) (unhide HV1) (unhide HML))
            unfold cmpF at HQ
            clear hie
            go_wp2_with fail
            refine (unhide HQ).mono ?_
            rintro e6 w6 ⟨rfl, ⟨E2, ho, hg⟩, hkk⟩
            have hie := unhide HIE
            replace HO := hide ho
            replace HK := hide ((unhide HK).trans hkk)
            have HG2 := hide hg
            clear ho hg hkk HQ
            have d5 : decide ((mid : Int) < (e : Int)) = true := by simp; omega
            have d6 : decide ((e : Int) < (b : Int)) = true := by simp; omega
            have qd5 : (mid : Int) < (e : Int) := by omega
            have qd6 : (e : Int) < (b : Int) := by omega
            have HMR : Hid (Mrg r E2 mid e b) := half_rightM (unhide HH) (unhide HG2).1 (by rw [unhide HL1]; omega) he3
            have HL2 : Hid (E2.length = n) := (unhide HG2).1.len.trans (unhide HL1)
            have HV2 := hide ((unhide HV1).seg (unhide HG2).1)
            have HQ := hide (unhide HIH mid e b E2 _ (by omega) ((unhide HKY).kept (unhide HK)) (unhide HO) (unhide HL2) (by omega) (by omega) (by omega) (unhide HV2) (unhide HMR))
            unfold cmpF at HQ
            clear hie
            go_wp2_with fail
            refine (unhide HQ).mono ?_
            rintro e7 w7 ⟨rfl, ⟨E3, ho, hg⟩, hkk⟩
            have hie := unhide HIE
            replace HO := hide ho
            replace HK := hide ((unhide HK).trans hkk)
            have HG3 := hide hg
            clear ho hg hkk HQ
            have HR := hide (half_done (unhide HS1) (unhide HH) ⟨by omega, by omega⟩ (unhide HG2) (unhide HG3))
            clear hie
            go_wp2
            go_end0
            exact rowAns_mk (unhide HO) (unhide HR) (unhide HK)
          · skip
            have d1 : decide ((i : Int) < (m : Int)) = true := by simp; omega
            have qd1 : ((i : Int) < (m : Int)) := by omega
            have d2 : decide ((m : Int) < (e : Int)) = true := by simp; omega
            have qd2 : ((m : Int) < (e : Int)) := by omega
            clear hie
            go_wp2_with fail
            refine (rotate_any g n cap i m e _ D _ (unhide HO) (unhide HN) (by omega) (by omega) (by omega) hn1 hc hcm).mono ?_
            rintro e5 w5 ⟨rfl, ⟨E1, ho, hs, hx⟩, hkk⟩
            have hie := unhide HIE
            replace HO := hide ho
            replace HK := hide ((unhide HK).trans hkk)
            have HS1 : Hid (Seg a b D E1) := hs.mono (by omega) (by omega)
            have HH : Hid (Half r E1 a b mid i e) := by have h9 := (unhide HCUT).half (D1 := E1) (unhide HM) (by rw [← unhide HE]; exact hx); rw [← unhide HE] at h9; exact h9
            clear ho hs hx hkk
            have HL1 : Hid (E1.length = n) := (unhide HS1).len.trans (unhide HN)
            have HV1 := hide ((unhide HV).seg (unhide HS1))
            have d3 : decide ((a : Int) < (i : Int)) = true := by simp; omega
            have d4 : decide ((i : Int) < (mid : Int)) = true := by simp; omega
            have qd3 : (a : Int) < (i : Int) := by omega
            have qd4 : (i : Int) < (mid : Int) := by omega
            have HML : Hid (Mrg r E1 a i mid) := ⟨by rw [unhide HL1]; omega, (unhide HH).l1, (unhide HH).l2, (unhide HH).lc⟩
            have HQ := hide (unhide HIH a i mid E1 _ (by omega) ((unhide HKY).kept (unhide HK)) (unhide HO) (unhide HL1) (by omega) (by omega) (by omega) (unhide HV1) (unhide HML))
            unfold cmpF at HQ
            clear hie
            go_wp2_with fail
            refine (unhide HQ).mono ?_
            rintro e6 w6 ⟨rfl, ⟨E2, ho, hg⟩, hkk⟩
            have hie := unhide HIE
            replace HO := hide ho
            replace HK := hide ((unhide HK).trans hkk)
            have HG2 := hide hg
            clear ho hg hkk HQ
            have HG3 : Hid (Mgd r E2 mid b E2) := ⟨Seg.refl _ _ _, half_rightS (unhide HH) (unhide HG2).1 (by omega)⟩
            have d5 : decide ((mid : Int) < (e : Int)) = true := by simp; omega
            have qd5 : ((mid : Int) < (e : Int)) := by omega
            have d6 : decide ((e : Int) < (b : Int)) = false := by simp; omega
            have qd6 : ¬ ((e : Int) < (b : Int)) := by omega
            have HR := hide (half_done (unhide HS1) (unhide HH) ⟨by omega, by omega⟩ (unhide HG2) (unhide HG3))
            clear hie
            go_wp2
            go_end0
            exact rowAns_mk (unhide HO) (unhide HR) (unhide HK)
        · by_cases hri : e < b
          · skip
            have d1 : decide ((i : Int) < (m : Int)) = true := by simp; omega
            have qd1 : ((i : Int) < (m : Int)) := by omega
            have d2 : decide ((m : Int) < (e : Int)) = true := by simp; omega
            have qd2 : ((m : Int) < (e : Int)) := by omega
            clear hie
            go_wp2_with fail
            refine (rotate_any g n cap i m e _ D _ (unhide HO) (unhide HN) (by omega) (by omega) (by omega) hn1 hc hcm).mono ?_
            rintro e5 w5 ⟨rfl, ⟨E1, ho, hs, hx⟩, hkk⟩
            have hie := unhide HIE
            replace HO := hide ho
            replace HK := hide ((unhide HK).trans hkk)
            have HS1 : Hid (Seg a b D E1) := hs.mono (by omega) (by omega)
            have HH : Hid (Half r E1 a b mid i e) := by have h9 := (unhide HCUT).half (D1 := E1) (unhide HM) (by rw [← unhide HE]; exact hx); rw [← unhide HE] at h9; exact h9
            clear ho hs hx hkk
            have HL1 : Hid (E1.length = n) := (unhide HS1).len.trans (unhide HN)
            have HV1 := hide ((unhide HV).seg (unhide HS1))
            have HG2 : Hid (Mgd r E1 a mid E1) := ⟨Seg.refl _ _ _, half_left (unhide HH) (by omega)⟩
            obtain ⟨E2, eE2⟩ : ∃ E, E = E1 := ⟨_, rfl⟩
            have HG2' : Hid (Mgd r E1 a mid E2) := by rw [eE2]; exact unhide HG2
            clear HG2
            have HG2 := HG2'
            clear HG2'
            rw [← eE2] at HO
            clear eE2
            have d3 : decide ((a : Int) < (i : Int)) = false := by simp; omega
            have qd3 : ¬ ((a : Int) < (i : Int)) := by omega
            have d5 : decide ((mid : Int) < (e : Int)) = true := by simp; omega
            have d6 : decide ((e : Int) < (b : Int)) = true := by simp; omega
            have qd5 : (mid : Int) < (e : Int) := by omega
            have qd6 : (e : Int) < (b : Int) := by omega
            have HMR : Hid (Mrg r E2 mid e b) := half_rightM (unhide HH) (unhide HG2).1 (by rw [unhide HL1]; omega) he3
            have HL2 : Hid (E2.length = n) := (unhide HG2).1.len.trans (unhide HL1)
            have HV2 := hide ((unhide HV1).seg (unhide HG2).1)
            have HQ := hide (unhide HIH mid e b E2 _ (by omega) ((unhide HKY).kept (unhide HK)) (unhide HO) (unhide HL2) (by omega) (by omega) (by omega) (unhide HV2) (unhide HMR))
            unfold cmpF at HQ
            clear hie
            go_wp2_with fail
            refine (unhide HQ).mono ?_
            rintro e7 w7 ⟨rfl, ⟨E3, ho, hg⟩, hkk⟩
            have hie := unhide HIE
            replace HO := hide ho
            replace HK := hide ((unhide HK).trans hkk)
            have HG3 := hide hg
            clear ho hg hkk HQ
            have HR := hide (half_done (unhide HS1) (unhide HH) ⟨by omega, by omega⟩ (unhide HG2) (unhide HG3))
            clear hie
            go_wp2
            go_end0
            exact rowAns_mk (unhide HO) (unhide HR) (unhide HK)
          · skip
            have d1 : decide ((i : Int) < (m : Int)) = true := by simp; omega
            have qd1 : ((i : Int) < (m : Int)) := by omega
            have d2 : decide ((m : Int) < (e : Int)) = true := by simp; omega
            have qd2 : ((m : Int) < (e : Int)) := by omega
            clear hie
            go_wp2_with fail
            refine (rotate_any g n cap i m e _ D _ (unhide HO) (unhide HN) (by omega) (by omega) (by omega) hn1 hc hcm).mono ?_
            rintro e5 w5 ⟨rfl, ⟨E1, ho, hs, hx⟩, hkk⟩
            have hie := unhide HIE
            replace HO := hide ho
            replace HK := hide ((unhide HK).trans hkk)
            have HS1 : Hid (Seg a b D E1) := hs.mono (by omega) (by omega)
            have HH : Hid (Half r E1 a b mid i e) := by have h9 := (unhide HCUT).half (D1 := E1) (unhide HM) (by rw [← unhide HE]; exact hx); rw [← unhide HE] at h9; exact h9
            clear ho hs hx hkk
            have HL1 : Hid (E1.length = n) := (unhide HS1).len.trans (unhide HN)
            have HV1 := hide ((unhide HV).seg (unhide HS1))
            have HG2 : Hid (Mgd r E1 a mid E1) := ⟨Seg.refl _ _ _, half_left (unhide HH) (by omega)⟩
            obtain ⟨E2, eE2⟩ : ∃ E, E = E1 := ⟨_, rfl⟩
            have HG2' : Hid (Mgd r E1 a mid E2) := by rw [eE2]; exact unhide HG2
            clear HG2
            have HG2 := HG2'
            clear HG2'
            rw [← eE2] at HO
            clear eE2
            have d3 : decide ((a : Int) < (i : Int)) = false := by simp; omega
            have qd3 : ¬ ((a : Int) < (i : Int)) := by omega
            have HG3 : Hid (Mgd r E2 mid b E2) := ⟨Seg.refl _ _ _, half_rightS (unhide HH) (unhide HG2).1 (by omega)⟩
            have d5 : decide ((mid : Int) < (e : Int)) = true := by simp; omega
            have qd5 : ((mid : Int) < (e : Int)) := by omega
            have d6 : decide ((e : Int) < (b : Int)) = false := by simp; omega
            have qd6 : ¬ ((e : Int) < (b : Int)) := by omega
            have HR := hide (half_done (unhide HS1) (unhide HH) ⟨by omega, by omega⟩ (unhide HG2) (unhide HG3))
            clear hie
            go_wp2
            go_end0
            exact rowAns_mk (unhide HO) (unhide HR) (unhide HK)
      · have hie2 : i = mid := by omega
        have hie3 : mid ≤ i := by omega
        clear hie2
        have d1 : decide ((i : Int) < (m : Int)) = true := by simp; omega
        have qd1 : ((i : Int) < (m : Int)) := by omega
        have d2 : decide ((m : Int) < (e : Int)) = false := by simp; omega
        have qd2 : ¬ ((m : Int) < (e : Int)) := by omega
        obtain ⟨E1, eE1⟩ : ∃ E, E = D := ⟨_, rfl⟩
        have HS1 : Hid (Seg a b D E1) := by rw [eE1]; exact Seg.refl _ _ _
        have HH : Hid (Half r E1 a b mid i e) := by
          have h9 := (unhide HCUT).half (D1 := E1) (unhide HM) (fun k => by rw [eE1, rot_none (by omega) (by omega) (by omega)])
          rw [← unhide HE] at h9; exact h9
        rw [← eE1] at HO
        clear eE1
        have HL1 : Hid (E1.length = n) := (unhide HS1).len.trans (unhide HN)
        have HV1 := hide ((unhide HV).seg (unhide HS1))
        have HG2 : Hid (Mgd r E1 a mid E1) := ⟨Seg.refl _ _ _, half_left (unhide HH) (by omega)⟩
        obtain ⟨E2, eE2⟩ : ∃ E, E = E1 := ⟨_, rfl⟩
        have HG2' : Hid (Mgd r E1 a mid E2) := by rw [eE2]; exact unhide HG2
        clear HG2
        have HG2 := HG2'
        clear HG2'
        rw [← eE2] at HO
        clear eE2
        have d3 : decide ((a : Int) < (i : Int)) = true := by simp; omega
        have qd3 : ((a : Int) < (i : Int)) := by omega
        have d4 : decide ((i : Int) < (mid : Int)) = false := by simp; omega
        have qd4 : ¬ ((i : Int) < (mid : Int)) := by omega
        have d5 : decide ((mid : Int) < (e : Int)) = true := by simp; omega
        have d6 : decide ((e : Int) < (b : Int)) = true := by simp; omega
        have qd5 : (mid : Int) < (e : Int) := by omega
        have qd6 : (e : Int) < (b : Int) := by omega
        have HMR : Hid (Mrg r E2 mid e b) := half_rightM (unhide HH) (unhide HG2).1 (by rw [unhide HL1]; omega) he3
        have HL2 : Hid (E2.length = n) := (unhide HG2).1.len.trans (unhide HL1)
        have HV2 := hide ((unhide HV1).seg (unhide HG2).1)
        have HQ := hide (unhide HIH mid e b E2 _ (by omega) ((unhide HKY).kept (unhide HK)) (unhide HO) (unhide HL2) (by omega) (by omega) (by omega) (unhide HV2) (unhide HMR))
        unfold cmpF at HQ
        clear hie
        go_wp2_with fail
        refine (unhide HQ).mono ?_
        rintro e7 w7 ⟨rfl, ⟨E3, ho, hg⟩, hkk⟩
        have hie := unhide HIE
        replace HO := hide ho
        replace HK := hide ((unhide HK).trans hkk)
        have HG3 := hide hg
        clear ho hg hkk HQ
        have HR := hide (half_done (unhide HS1) (unhide HH) ⟨by omega, by omega⟩ (unhide HG2) (unhide HG3))
        clear hie
        go_wp2
        go_end0
        exact rowAns_mk (unhide HO) (unhide HR) (unhide HK)

end Go.Proofs.Ytogoknldhimgfaa

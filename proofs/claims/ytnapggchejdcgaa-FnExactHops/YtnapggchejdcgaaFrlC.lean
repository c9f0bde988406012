/- Carts in numbers; contracts of both CartsOk. Written by wip/mkfrlc.py. -/
import Derived.Test.YtnapggchejdcgaaFrlB
import Derived.Test.YtnapggchejdcgaaTwA
import Derived.Deep.QuietTactic
import Derived.BigQuiet
import Derived.Deep.DeepCutAuto
import Derived.Deep.Cut
import Derived.BigRegion
namespace Go.Proofs.Ytnapggchejdcgaa
open Go.RowKit

def cOk (s : Flr) (c : CartT) : Bool := onF s c.1 && (decide (c.2 = -1) || onF s c.2)
def ctB (s : Flr) (C : List CartT) : Bool := flB s && decide (C.length ≤ 12) && C.all (cOk s) && decide (C.map Prod.fst).Nodup
/-- What CartsOk says. -/
structure CtN (s : Flr) (C : List CartT) : Prop where
  fl : FlN s
  len : C.length ≤ 12
  at0 : ∀ i, i < C.length → 0 ≤ (C.getD i default).1 ∧ (C.getD i default).1 < s.W.length
  goal : ∀ i, i < C.length → -1 ≤ (C.getD i default).2 ∧ (C.getD i default).2 < s.W.length
  one : ∀ i k, k < i → i < C.length → (C.getD k default).1 ≠ (C.getD i default).1
theorem nodup_at {C : List CartT} : (C.map Prod.fst).Nodup ↔ ∀ i k, k < i → i < C.length → (C.getD k default).1 ≠ (C.getD i default).1 := by
  unfold List.Nodup
  rw [List.pairwise_iff_getElem]
  constructor
  · intro h i k hk hi
    have := h k i (by simpa using (by omega : k < C.length)) (by simpa using hi) hk
    rw [getD_lt (show k < C.length by omega), getD_lt hi]
    simpa using this
  · intro h k i hk hi hki
    rw [List.length_map] at hk hi
    have := h i k hki hi
    rw [getD_lt hk, getD_lt hi] at this
    simpa using this
theorem cOk_in {s : Flr} {c : CartT} (hn : FlN s) : cOk s c = (inB c.1 0 ((s.W.length : Int) - 1) && inB c.2 (-1) ((s.W.length : Int) - 1)) := by
  have hp := hn.pos
  rw [Bool.eq_iff_iff]
  simp only [cOk, onF, inB, Bool.and_eq_true, Bool.or_eq_true, decide_eq_true_eq]
  omega
theorem ctB_n {s : Flr} {C : List CartT} (h : ctB s C = true) : CtN s C := by
  unfold ctB at h
  simp only [Bool.and_eq_true, decide_eq_true_eq] at h
  obtain ⟨⟨⟨h1, h2⟩, h3⟩, h4⟩ := h
  have hn := flB_n h1
  have hc : ∀ i, i < C.length → (0 ≤ (C.getD i default).1 ∧ (C.getD i default).1 < s.W.length) ∧ (-1 ≤ (C.getD i default).2 ∧ (C.getD i default).2 < s.W.length) := fun i hi => by
    have := List.all_eq_true.1 h3 (C.getD i default) (by rw [getD_lt hi]; exact List.getElem_mem _)
    rw [cOk_in hn, Bool.and_eq_true] at this
    have h5 := inB_true this.1
    have h6 := inB_true this.2
    omega
  exact ⟨hn, h2, fun i hi => (hc i hi).1, fun i hi => (hc i hi).2, nodup_at.1 h4⟩
theorem ctB_mk {s : Flr} {C : List CartT} (h1 : flB s = true) (h2 : C.length ≤ 12) (h3 : C.all (cOk s) = true) (h4 : ∀ i k, k < i → i < C.length → (C.getD k default).1 ≠ (C.getD i default).1) : ctB s C = true := by
  unfold ctB
  rw [h1, decide_eq_true h2, h3, decide_eq_true (nodup_at.2 h4)]
  rfl
theorem ctB_bad {s : Flr} {C : List CartT} {i : Nat} (hi : i < C.length) (h : cOk s (C.getD i default) = false) : ctB s C = false := by
  unfold ctB
  rw [all_false hi h]
  simp
theorem ctB_two {s : Flr} {C : List CartT} {i k : Nat} (hk : k < i) (hi : i < C.length) (h : (C.getD k default).1 = (C.getD i default).1) : ctB s C = false := by
  unfold ctB
  rw [decide_eq_false (p := (C.map Prod.fst).Nodup) fun h' => nodup_at.1 h' i k hk hi h]
  simp
theorem ctB_fl {s : Flr} {C : List CartT} (h : flB s = false) : ctB s C = false := by unfold ctB; rw [h]; simp
theorem ctB_len {s : Flr} {C : List CartT} (h : ¬ C.length ≤ 12) : ctB s C = false := by unfold ctB; rw [decide_eq_false h]; simp

/-- The first k of a list, 0 behind. -/
def fillZ (xs : List Int) (k : Nat) : List Int := xs.take k ++ List.replicate (xs.length - k) 0
theorem fillZ_zero (xs : List Int) : fillZ xs 0 = List.replicate xs.length 0 := by simp [fillZ]
theorem fillZ_all (xs : List Int) : fillZ xs xs.length = xs := by simp [fillZ]
theorem fillZ_len {xs : List Int} {k : Nat} (h : k ≤ xs.length) : (fillZ xs k).length = xs.length := by simp [fillZ]; omega
theorem fillZ_set {xs : List Int} {k : Nat} (h : k < xs.length) : (fillZ xs k).set k (xs.getD k 0) = fillZ xs (k + 1) := by
  unfold fillZ
  have hl : (xs.take k).length = k := by simp; omega
  rw [List.set_append_right _ _ (by rw [hl]; exact Nat.le_refl _), hl, Nat.sub_self, show xs.length - k = (xs.length - (k + 1)) + 1 by omega, List.replicate_succ, List.set_cons_zero, List.take_succ_eq_append_getElem h, getD_lt h, List.append_assoc]
  rfl
theorem made_ints (n : Nat) : (madeCells #[Value.int .i64 0] n).toList = ints (List.replicate n 0) := by
  apply List.ext_getElem
  · simp [madeCells, ints]
  · intro i h1 h2
    simp [madeCells, ints, Nat.mod_one]

set_option maxRecDepth 10000 in
set_option maxHeartbeats 8000000 in
theorem implCartsOk_any (s : Flr) (dao : Option Addr) (dn dc : Nat) (cv : Value) (C : List CartT) (w : World) (hD : IntsIn w (.slice dao dn dc) s.W) (hC : RCart w cv C) :
    Calls Try.prog 15 #[vFloor s.wd s.hg (.slice dao dn dc), cv] w fun e w' => e = .returned (.bool (ctB s C)) ∧ Below w.heap.size w w' := by
  have HOK := hide fun V (hV : Below w.heap.size w V) => implFloorOk_any s dao dn dc V (hD.below hV)
  have ED := hide (rfl : s.W.length = s.W.length)
  obtain ⟨dao', dc', eD, hdl, hdm, -⟩ := hD
  simp only [Value.slice.injEq] at eD
  obtain ⟨rfl, rfl, rfl⟩ := eD
  obtain ⟨ao, cap, rfl, hcl, hcm, hcc⟩ := hC
  unfold maxLen at hdm hcm
  have HC := hide hcc
  have HNB := hide fun i hi h => ctB_bad (s := s) (C := C) (i := i) hi h
  have HNF := hide fun h => ctB_fl (s := s) (C := C) h
  have HNL := hide fun h => ctB_len (s := s) (C := C) h
  have HNM := hide fun h1 h2 h3 h4 => ctB_mk (s := s) (C := C) h1 h2 h3 h4
  have HOF := hide fun p V h => isOnFloor_any s.wd s.hg dao s.W dc p V h
  have A := Below.alloc1 w (.cells #[.int .i64 s.wd, .int .i64 s.hg, .slice dao s.W.length dc] 26)
  have HX := hide (ownV_alloc w #[.int .i64 s.wd, .int .i64 s.hg, .slice dao s.W.length dc] 26)
  have HOK1 := hide (unhide HOK _ A)
  have HW := hide A
  have HMK := hide (run_make_row' (P := Try.prog) 24 3 (.int .i64 0) 8 Try.underlying24 Try.info3 rfl .i64 .i64)
  clear hcc A HOK
  obtain ⟨r, er⟩ : ∃ r, r = ctB s C := ⟨_, rfl⟩
  rw [← er]
  rw [← er] at HNF HNL HNM
  have HNB' : Hid (∀ i, i < C.length → cOk s (C.getD i default) = false → r = false) := fun i hi h => by rw [er]; exact unhide HNB i hi h
  have HTW : Hid (C.all (cOk s) = true → flB s = true → C.length ≤ 12 → r = decide (C.map Prod.fst).Nodup) := fun h1 h2 h3 => by rw [er]; unfold ctB; rw [h1, h2, decide_eq_true h3]; rfl
  clear er HNB HNM
  unfold vFloor at *
  obtain ⟨g0, eg0⟩ : ∃ z, z = w.heap.size := ⟨_, rfl⟩
  rw [← eg0] at HX
  have hg0 : w.heap.size ≤ g0 := by omega
  go_enter Try.func15, Try.ntmps15
  go_wp2_with fail
  rw [← eg0]
  clear eg0
  refine (unhide HOK1).mono ?_
  rintro e w1 ⟨rfl, hb⟩
  replace HX := hide ((unhide HX).step hb)
  replace HW := hide (Below.step (unhide HW) hb)
  clear hb HOK1
  cases hfl : flB s with
  | false =>
    have e1 := unhide HNF hfl
    subst e1
    go_wp2
    go_ret
    exact ⟨rfl, unhide HW⟩
  | true =>
  have HFN := hide (flB_n hfl)
  have hn100 : s.W.length ≤ 100 := (flB_n hfl).le
  by_cases h12 : C.length ≤ 12
  case neg =>
    have e1 := unhide HNL h12
    subst e1
    have hgt : (12 : Int) < C.length := by omega
    go_wp2
    go_ret
    exact ⟨rfl, unhide HW⟩
  have hgt : (C.length : Int) ≤ 12 := by omega
  have hmk := unhide HMK C.length (by omega) (by omega)
  have HTW2 := hide fun h => unhide HTW h hfl h12
  clear HMK HNF HNL HTW hfl
  obtain ⟨P, eP⟩ : ∃ z, z = C.map Prod.fst := ⟨_, rfl⟩
  have hPl : P.length = C.length := by rw [eP, List.length_map]
  have hA := Below.alloc1 w1 (.cells (madeCells #[.int .i64 0] C.length) 3)
  have HP := hide (ownV_alloc w1 (madeCells #[.int .i64 0] C.length) 3)
  have HX2 := hide ((unhide HX).step hA)
  have HW2 := hide (Below.step (unhide HW) hA)
  clear hA
  go_upto_region 4 with (fail)
  obtain ⟨gp, egp⟩ : ∃ z, z = w1.heap.size := ⟨_, rfl⟩
  obtain ⟨W2, eW2⟩ : ∃ z, z = w1.alloc (.cells (madeCells #[.int .i64 0] C.length) 3) := ⟨_, rfl⟩
  rw [← eW2] at HP HX2 HW2 ⊢
  rw [← egp] at HP ⊢
  have hgp : g0 < gp := by rw [egp]; exact (unhide HX).lt
  rw [made_ints, ← hPl, ← fillZ_zero] at HP
  clear egp eW2 hmk HX HW
  have HEP := hide eP
  have HPL := hide hPl
  clear eP hPl
  go_wp2
  go_loopg [21] C.length (fun g i wr => ∃ k : Nat, k ≤ C.length ∧ g = C.length - k ∧ i = .int .i64 k ∧ Hid (OwnV wr gp (ints (fillZ P k))) ∧ Hid (OwnV wr g0 [.int .i64 s.wd, .int .i64 s.hg, .slice dao s.W.length dc]) ∧ Hid (Below w.heap.size w wr) ∧ Hid (∀ r, r < k → cOk s (C.getD r default) = true))
  case atStart => exact ⟨0, Nat.zero_le _, rfl, rfl, HP, HX2, HW2, fun r hr => by omega⟩
  case round =>
    obtain ⟨k, hk, rfl, rfl, HO, HX, HW, HD⟩ := hrel
    clear HP HX2 HW2
    by_cases hkn : k < C.length
    · obtain ⟨b, o, x0, x1, rfl, hc0, hc1, EX⟩ := recCartAt (unhide HC) hkn
      have q0 := wcell3 hc0 (unhide HW)
      have q1 := wcell3 hc1 (unhide HW)
      have hki : (k : Int) < C.length := by omega
      have HPX : Hid (P.getD k 0 = x0) := by
        show _ = _
        rw [unhide HEP, getD_lt (by rw [List.length_map]; exact hkn), List.getElem_map]
        have := unhide EX
        rw [getD_lt hkn] at this
        rw [this]
      have HNO : Hid (cOk s (x0, x1) = false → r = false) := fun h => unhide HNB' k hkn (by rw [unhide EX]; exact h)
      have HYES : Hid (cOk s (x0, x1) = true → ∀ r, r < k + 1 → cOk s (C.getD r default) = true) := fun h r hr => by
        by_cases e : r = k
        · rw [e, unhide EX]; exact h
        · exact (unhide HD) r (by omega)
      have hA := Below.alloc1 wr (.cells #[.int .i64 x0, .int .i64 x1] 37)
      have HB := hide (ownV_alloc wr #[.int .i64 x0, .int .i64 x1] 37)
      replace HO := hide ((unhide HO).step hA)
      replace HX := hide ((unhide HX).step hA)
      replace HW := hide (Below.step (unhide HW) hA)
      clear hc0 hc1 hA HD EX
      go_upto_region 7 with (fail)
      obtain ⟨gb, egb⟩ : ∃ z, z = wr.heap.size := ⟨_, rfl⟩
      obtain ⟨W3, eW3⟩ : ∃ z, z = wr.alloc (.cells #[.int .i64 x0, .int .i64 x1] 37) := ⟨_, rfl⟩
      rw [← eW3] at HB HO HX HW ⊢
      rw [← egb] at HB ⊢
      clear egb eW3 q0 q1
      have c0 := (unhide HX).cell (i := 0) rfl
      have c1 := (unhide HX).cell (i := 1) rfl
      have c2 := (unhide HX).cell (i := 2) rfl
      have b0 := (unhide HB).cell (i := 0) rfl
      have b1 := (unhide HB).cell (i := 1) rfl
      cases h1 : onF s x0 with
      | false =>
        have HQ := hide (unhide HOF x0 W3 (by omega))
        unfold onF at h1
        rw [h1] at HQ
        have e1 := unhide HNO (by unfold cOk onF; rw [h1]; rfl)
        subst e1
        clear HOF HNO HYES h1
        go_wp2_with fail
        refine (unhide HQ).mono ?_
        rintro e w4 ⟨rfl, hb⟩
        replace HW := hide (Below.step (unhide HW) hb)
        clear hb c0 c1 c2 b0 b1
        go_wp2
        go_ret
        exact ⟨rfl, unhide HW⟩
      | true =>
      have HQ := hide (unhide HOF x0 W3 (by omega))
      have h1' := h1
      unfold onF at h1'
      rw [h1'] at HQ
      have HOF2 := hide fun V => unhide HOF x1 V (by omega)
      have hnq : (x0 : Int) = x0 := rfl
      clear hnq
      by_cases hg1 : x1 = -1
      · have d1 : (x1 != -1) = false := by simp; exact hg1
        have HY := hide (unhide HYES (by unfold cOk; rw [h1, decide_eq_true hg1]; rfl))
        clear HOF HNO HYES h1 h1' hg1 HOF2
        go_wp2_with fail
        refine (unhide HQ).mono ?_
        rintro e w4 ⟨rfl, hb⟩
        replace HO := hide ((unhide HO).step hb)
        replace HX := hide ((unhide HX).step hb)
        replace HB := hide ((unhide HB).step hb)
        replace HW := hide (Below.step (unhide HW) hb)
        clear hb c0 c1 c2 b0 b1 HQ
        have b0 := (unhide HB).cell (i := 0) rfl
        have b1 := (unhide HB).cell (i := 1) rfl
        have hO := unhide HO
        have hlz : k < (fillZ P k).length := by rw [fillZ_len (by rw [unhide HPL]; omega), unhide HPL]; exact hkn
        have u0 := hO.cell (ints_get (fillZ P k) (i := k) hlz)
        have uf := hO.frozen k
        have HN := hO.set k (.int .i64 x0) (by rw [ints_length]; exact hlz)
        rw [ints_set, ← unhide HPX, fillZ_set (by rw [unhide HPL]; exact hkn)] at HN
        have HNO := hide HN
        have HWN := hide ((unhide HW).setCell (p := ⟨gp, k, none⟩) (by show w.heap.size ≤ gp; omega) (.int .i64 (P.getD k 0)))
        have HXN := hide ((unhide HX).other (a := ⟨gp, k, none⟩) (by show g0 ≠ gp; omega) (.int .i64 (P.getD k 0)))
        rw [unhide HPX] at HNO HWN HXN
        generalize (fillZ P k).getD k 0 = z at u0
        clear hO HN hlz HB
        go_wp2
        go_roundg (C.length - (k + 1))
        case measure => omega
        case rel => exact ⟨k + 1, by omega, rfl, by go_num, HNO, HXN, HWN, HY⟩
      have d1 : (x1 != -1) = true := by simp; exact hg1
      cases h2 : onF s x1 with
      | false =>
        have e1 := unhide HNO (by unfold cOk; rw [h2, decide_eq_false hg1]; simp)
        subst e1
        unfold onF at h2
        rw [h2] at HOF2
        clear HOF HNO HYES h1 h1' hg1 h2
        go_wp2_with fail
        refine (unhide HQ).mono ?_
        rintro e w4 ⟨rfl, hb⟩
        replace HX := hide ((unhide HX).step hb)
        replace HB := hide ((unhide HB).step hb)
        replace HW := hide (Below.step (unhide HW) hb)
        clear hb c0 c1 c2 b0 b1 HQ
        have c0 := (unhide HX).cell (i := 0) rfl
        have c1 := (unhide HX).cell (i := 1) rfl
        have c2 := (unhide HX).cell (i := 2) rfl
        have b1 := (unhide HB).cell (i := 1) rfl
        go_wp2_with fail
        refine (unhide HOF2 _).mono ?_
        rintro e w5 ⟨rfl, hb⟩
        replace HW := hide (Below.step (unhide HW) hb)
        clear hb c0 c1 c2 b1 HOF2
        go_wp2
        go_ret
        exact ⟨rfl, unhide HW⟩
      | true =>
        have HY := hide (unhide HYES (by unfold cOk; rw [h1, h2]; simp))
        unfold onF at h2
        rw [h2] at HOF2
        clear HOF HNO HYES h1 h1' hg1 h2
        go_wp2_with fail
        refine (unhide HQ).mono ?_
        rintro e w4 ⟨rfl, hb⟩
        replace HO := hide ((unhide HO).step hb)
        replace HX := hide ((unhide HX).step hb)
        replace HB := hide ((unhide HB).step hb)
        replace HW := hide (Below.step (unhide HW) hb)
        clear hb c0 c1 c2 b0 b1 HQ
        have c0 := (unhide HX).cell (i := 0) rfl
        have c1 := (unhide HX).cell (i := 1) rfl
        have c2 := (unhide HX).cell (i := 2) rfl
        have b1 := (unhide HB).cell (i := 1) rfl
        go_wp2_with fail
        refine (unhide HOF2 _).mono ?_
        rintro e w5 ⟨rfl, hb⟩
        replace HO := hide ((unhide HO).step hb)
        replace HX := hide ((unhide HX).step hb)
        replace HB := hide ((unhide HB).step hb)
        replace HW := hide (Below.step (unhide HW) hb)
        clear hb c0 c1 c2 b1 HOF2
        have b0 := (unhide HB).cell (i := 0) rfl
        have hO := unhide HO
        have hlz : k < (fillZ P k).length := by rw [fillZ_len (by rw [unhide HPL]; omega), unhide HPL]; exact hkn
        have u0 := hO.cell (ints_get (fillZ P k) (i := k) hlz)
        have uf := hO.frozen k
        have HN := hO.set k (.int .i64 x0) (by rw [ints_length]; exact hlz)
        rw [ints_set, ← unhide HPX, fillZ_set (by rw [unhide HPL]; exact hkn)] at HN
        have HNO := hide HN
        have HWN := hide ((unhide HW).setCell (p := ⟨gp, k, none⟩) (by show w.heap.size ≤ gp; omega) (.int .i64 (P.getD k 0)))
        have HXN := hide ((unhide HX).other (a := ⟨gp, k, none⟩) (by show g0 ≠ gp; omega) (.int .i64 (P.getD k 0)))
        rw [unhide HPX] at HNO HWN HXN
        generalize (fillZ P k).getD k 0 = z at u0
        clear hO HN hlz HB
        go_wp2
        go_roundg (C.length - (k + 1))
        case measure => omega
        case rel => exact ⟨k + 1, by omega, rfl, by go_num, HNO, HXN, HWN, HY⟩
    · have hki : ¬ (k : Int) < C.length := by omega
      have hkk : k = P.length := by rw [unhide HPL]; omega
      have HY := hide (unhide HTW2 (all_true (d := default) fun i hi => unhide HD i (by omega)))
      rw [hkk, fillZ_all] at HO
      have hPl := unhide HPL
      have HT := hide (hasTwice_any (some ⟨gp, 0, none⟩) P.length P.length P wr ((unhide HO).intsIn (Nat.le_refl _) (by unfold maxLen; omega)) (by omega))
      rw [hPl] at HT
      have ER : Hid (r = decide P.Nodup) := by show _ = _; rw [unhide HY, unhide HEP]
      clear HD HY hkk hPl
      generalize decide P.Nodup = q at HT ER
      have er : r = q := unhide ER
      subst er
      clear ER
      go_wp2_with fail
      refine (unhide HT).mono ?_
      rintro e w3 ⟨rfl, hb⟩
      replace HW := hide (Below.step (unhide HW) hb)
      clear hb HT
      cases r
      all_goals
        go_wp2
        go_ret
        exact ⟨rfl, unhide HW⟩

set_option maxRecDepth 100000 in
set_option maxHeartbeats 16000000 in
theorem specCartsOk_any (s : Flr) (dao : Option Addr) (dn dc : Nat) (cv : Value) (C : List CartT) (w : World) (hD : IntsIn w (.slice dao dn dc) s.W) (hC : RCart w cv C) :
    Calls Try.prog 29 #[vFloor s.wd s.hg (.slice dao dn dc), cv] w fun e w' => e = .returned (.bool (ctB s C)) ∧ Below w.heap.size w w' := by
  have HOK := hide fun V (hV : Below w.heap.size w V) => specFloorOk_any s dao dn dc V (hD.below hV)
  obtain ⟨dao', dc', eD, hdl, hdm, -⟩ := hD
  simp only [Value.slice.injEq] at eD
  obtain ⟨rfl, rfl, rfl⟩ := eD
  obtain ⟨ao, cap, rfl, hcl, hcm, hcc⟩ := hC
  unfold maxLen at hdm hcm
  have HC := hide hcc
  have A := Below.alloc1 w (.cells #[.int .i64 s.wd, .int .i64 s.hg, .slice dao s.W.length dc] 26)
  have HX := hide (ownV_alloc w #[.int .i64 s.wd, .int .i64 s.hg, .slice dao s.W.length dc] 26)
  have HOK1 := hide (unhide HOK _ A)
  have HW := hide A
  clear hcc A HOK
  obtain ⟨r, er⟩ : ∃ r, r = ctB s C := ⟨_, rfl⟩
  rw [← er]
  have HNF : Hid (flB s = false → r = false) := fun h => by rw [er]; exact ctB_fl h
  have HNL : Hid (¬ C.length ≤ 12 → r = false) := fun h => by rw [er]; exact ctB_len h
  have HNB : Hid (∀ i, i < C.length → cOk s (C.getD i default) = false → r = false) := fun i hi h => by rw [er]; exact ctB_bad hi h
  have HNT : Hid (∀ i k, k < i → i < C.length → (C.getD k default).1 = (C.getD i default).1 → r = false) := fun i k hk hi h => by rw [er]; exact ctB_two hk hi h
  have HTW : Hid (flB s = true → C.length ≤ 12 → C.all (cOk s) = true → (∀ i k, k < i → i < C.length → (C.getD k default).1 ≠ (C.getD i default).1) → r = true) := fun h1 h2 h3 h4 => by rw [er]; exact ctB_mk h1 h2 h3 h4
  clear er
  unfold vFloor at *
  obtain ⟨g0, eg0⟩ : ∃ z, z = w.heap.size := ⟨_, rfl⟩
  rw [← eg0] at HX
  have hg0 : w.heap.size ≤ g0 := by omega
  go_enter Try.func29, Try.ntmps29
  go_wp2_with fail
  rw [← eg0]
  clear eg0
  refine (unhide HOK1).mono ?_
  rintro e w1 ⟨rfl, hb⟩
  replace HX := hide ((unhide HX).step hb)
  replace HW := hide (Below.step (unhide HW) hb)
  clear hb HOK1
  cases hfl : flB s with
  | false =>
    have e1 := unhide HNF hfl
    subst e1
    go_wp2
    go_ret
    exact ⟨rfl, unhide HW⟩
  | true =>
  have HFN := hide (flB_n hfl)
  have hn100 : s.W.length ≤ 100 := (flB_n hfl).le
  by_cases h12 : C.length ≤ 12
  case neg =>
    have e1 := unhide HNL h12
    subst e1
    have hgt : (12 : Int) < C.length := by omega
    go_wp2
    go_ret
    exact ⟨rfl, unhide HW⟩
  have hgt : (C.length : Int) ≤ 12 := by omega
  have HYY := hide fun h3 h4 => unhide HTW hfl h12 h3 h4
  have qm : IntKind.i64.wrap ((s.W.length : Int) - 1) = (s.W.length : Int) - 1 := by rw [IntKind.wrap_i64]; omega
  clear HNF HNL HTW hfl
  go_wp2
  go_loopg [5] C.length (fun g i wr => ∃ k : Nat, k ≤ C.length ∧ g = C.length - k ∧ i = .int .i64 k ∧ Hid (OwnV wr g0 [.int .i64 s.wd, .int .i64 s.hg, .slice dao s.W.length dc]) ∧ Hid (Below w.heap.size w wr) ∧ Hid (∀ r, r < k → cOk s (C.getD r default) = true) ∧ Hid (∀ i j, j < i → i < k → (C.getD j default).1 ≠ (C.getD i default).1))
  case atStart => exact ⟨0, Nat.zero_le _, rfl, rfl, HX, HW, fun r hr => by omega, fun i j _ hi => by omega⟩
  case round =>
    clear HX HW
    obtain ⟨k, hk, rfl, rfl, HX, HW, HD, HT⟩ := hrel
    by_cases hkn : k < C.length
    · obtain ⟨b, o, x0, x1, rfl, hc0, hc1, EX⟩ := recCartAt (unhide HC) hkn
      have q0 := wcell3 hc0 (unhide HW)
      have q1 := wcell3 hc1 (unhide HW)
      have hki : (k : Int) < C.length := by omega
      have HNO : Hid (cOk s (x0, x1) = false → r = false) := fun h => unhide HNB k hkn (by rw [unhide EX]; exact h)
      have HYES : Hid (cOk s (x0, x1) = true → ∀ r, r < k + 1 → cOk s (C.getD r default) = true) := fun h r hr => by
        by_cases e : r = k
        · rw [e, unhide EX]; exact h
        · exact (unhide HD) r (by omega)
      have HCI := hide (cOk_in (s := s) (c := (x0, x1)) (unhide HFN))
      have HNE : Hid (∀ j, j < k → (C.getD j default).1 = x0 → r = false) := fun j hj h => unhide HNT k j hj hkn (by rw [h, unhide EX])
      have HKX : Hid ((C.getD k default).1 = x0) := by show _ = _; rw [unhide EX]
      have Q1 := hide fun V => l1In_any x0 0 ((s.W.length : Int) - 1) V
      have Q2 := hide fun V => l1In_any x1 (-1) ((s.W.length : Int) - 1) V
      have c2 := (unhide HX).cell (i := 2) rfl
      dsimp only at HCI
      clear HD
      go_upto_region 6 with (fail)
      cases h1 : inB x0 0 ((s.W.length : Int) - 1) with
      | false =>
        rw [h1] at Q1
        have e1 := unhide HNO (by rw [unhide HCI, h1]; rfl)
        subst e1
        clear HNO HYES h1 HYY HNT HNB
        refine wp_region_quiet_lit (by kernel_rfl) (by kernel_rfl) ?_
        repeat (go_big_quiet_step (fail))
        go_big_quiet_want
        go_big_quiet_op
        go_big_quiet_call (exact Calls.quiet_of_same (unhide Q1 _))
        repeat (go_big_quiet_step (fail))
        refine wpQuiet_nil ?_
        intro _ hw'
        obtain ⟨nq, hw''⟩ := hw'
        subst hw''
        replace HW := hide (below_drewN (unhide HW) nq)
        clear q0 q1 c2
        go_wp2
        go_ret
        exact ⟨rfl, unhide HW⟩
      | true =>
      rw [h1] at Q1
      cases h2 : inB x1 (-1) ((s.W.length : Int) - 1) with
      | false =>
        rw [h2] at Q2
        have e1 := unhide HNO (by rw [unhide HCI, h2]; simp)
        subst e1
        clear HNO HYES h1 h2 HYY HNT HNB
        refine wp_region_quiet_lit (by kernel_rfl) (by kernel_rfl) ?_
        repeat (go_big_quiet_step (fail))
        go_big_quiet_want
        go_big_quiet_op
        go_big_quiet_call (exact Calls.quiet_of_same (unhide Q1 _))
        repeat (go_big_quiet_step (fail))
        go_big_quiet_want
        go_big_quiet_op
        go_big_quiet_call (exact Calls.quiet_of_same (unhide Q2 _))
        repeat (go_big_quiet_step (fail))
        refine wpQuiet_nil ?_
        intro _ hw'
        obtain ⟨nq, hw''⟩ := hw'
        subst hw''
        replace HW := hide (below_drewN (unhide HW) nq)
        clear q0 q1 c2
        go_wp2
        go_ret
        exact ⟨rfl, unhide HW⟩
      | true =>
        rw [h2] at Q2
        have HD2 := hide (unhide HYES (by rw [unhide HCI, h1, h2]; rfl))
        clear HNO HYES h1 h2 HCI
        refine wp_region_quiet_lit (by kernel_rfl) (by kernel_rfl) ?_
        repeat (go_big_quiet_step (fail))
        go_big_quiet_want
        go_big_quiet_op
        go_big_quiet_call (exact Calls.quiet_of_same (unhide Q1 _))
        repeat (go_big_quiet_step (fail))
        go_big_quiet_want
        go_big_quiet_op
        go_big_quiet_call (exact Calls.quiet_of_same (unhide Q2 _))
        repeat (go_big_quiet_step (fail))
        refine wpQuiet_nil ?_
        intro _ hw'
        obtain ⟨nq, hw''⟩ := hw'
        subst hw''
        replace HW := hide (below_drewN (unhide HW) nq)
        clear c2 q0 q1 Q1 Q2
        replace HX := hide ((unhide HX).step (below_drewN (Below.refl _ _) nq))
        have hc0 := wcell3 hc0 (unhide HW)
        have HC0 := hide hc0
        obtain ⟨W4, eW4⟩ : ∃ z, z = wr.drewN nq := ⟨_, rfl⟩
        rw [← eW4] at HX HW hc0 HC0 ⊢
        clear eW4
        clear hc0 hc1
        go_wp2
        go_loopg [6] k (fun g j wr2 => ∃ m : Nat, m ≤ k ∧ g = k - m ∧ j = .int .i64 m ∧ Hid (Below W4.heap.size W4 wr2) ∧ Hid (∀ j, j < m → (C.getD j default).1 ≠ x0))
        case atStart => exact ⟨0, Nat.zero_le _, rfl, rfl, Below.refl _ _, fun j hj => by omega⟩
        case round =>
          obtain ⟨m, hm, rfl, rfl, HV, HNN⟩ := hrel
          have g0k := wcell3 (unhide HC0) (unhide HV)
          by_cases hmk : m < k
          · obtain ⟨b2, o2, y0, y1, e2, hd0, hd1, EY⟩ := recCartAt (unhide HC) (show m < C.length by omega)
            simp only [Option.some.injEq, Addr.mk.injEq, and_true] at e2
            obtain ⟨rfl, rfl⟩ := e2
            have p0 := wcell3 (wcell3 hd0 (unhide HW)) (unhide HV)
            have hmi : (m : Int) < k := by omega
            have hmC : (m : Int) < C.length := by omega
            have hmn : m < C.length := by omega
            clear hd0 hd1
            by_cases hxy : y0 = x0
            · have dx : (y0 == x0) = true := by simpa using hxy
              have e1 := unhide HNE m hmk (by rw [unhide EY]; exact hxy)
              subst e1
              clear hxy HYY HNT HNB HNE HNN EY
              go_wp2
              go_quiet (fail)
              replace HW := hide (Below.step (unhide HW) (unhide HV))
              replace HW := hide (below_drewN (unhide HW) nq)
              go_wp2
              go_ret
              exact ⟨rfl, unhide HW⟩
            · have dx : (y0 == x0) = false := by simpa using hxy
              have HN2 : Hid (∀ j, j < m + 1 → (C.getD j default).1 ≠ x0) := fun j hj => by
                by_cases e : j = m
                · rw [e, unhide EY]; exact hxy
                · exact unhide HNN j (by omega)
              clear hxy HNN EY
              go_wp2
              go_quiet (fail)
              replace HV := hide (below_drewN (unhide HV) nq)
              go_wp2
              go_roundg (k - (m + 1))
              case measure => omega
              case rel => exact ⟨m + 1, by omega, rfl, by go_num, HV, HN2⟩
          · have hmi : ¬ (m : Int) < k := by omega
            have hmk' : m = k := by omega
            have HT2 : Hid (∀ i j, j < i → i < k + 1 → (C.getD j default).1 ≠ (C.getD i default).1) := fun i j hj hi => by
              by_cases e : i = k
              · rw [e, unhide HKX]; exact unhide HNN j (by omega)
              · exact unhide HT i j hj (by omega)
            replace HW := hide (Below.step (unhide HW) (unhide HV))
            replace HX := hide ((unhide HX).step (unhide HV))
            clear HNN hmk'
            go_wp2
            go_roundg (C.length - (k + 1))
            case measure => omega
            case rel => exact ⟨k + 1, by omega, rfl, by go_num, HX, HW, HD2, HT2⟩
    · have hki : ¬ (k : Int) < C.length := by omega
      have e1 := unhide HYY (all_true (d := default) fun i hi => unhide HD i (by omega)) (fun i j hj hi => unhide HT i j hj (by omega))
      subst e1
      clear HYY HD HT HNB HNT
      go_wp2
      go_ret
      exact ⟨rfl, unhide HW⟩

end Go.Proofs.Ytnapggchejdcgaa

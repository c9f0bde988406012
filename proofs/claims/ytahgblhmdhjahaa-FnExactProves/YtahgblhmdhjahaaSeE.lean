/- Proofs of costs in numbers; contract of the specification's Proves. Written by wip/mkprov.py. -/
import Derived.Test.YtahgblhmdhjahaaSeD
namespace Go.Proofs.Ytahgblhmdhjahaa
open Go.RowKit

def bearB (s : Se) (M : List Int) (p q : Nat) : Bool := decide (s.D.getD q 0 = 0) || (!nextB s.wd (p : Int) (q : Int) || (decide (0 ≤ M.getD q 0) && decide (M.getD q 0 - s.D.getD q 0 ≤ M.getD p 0)))
def comeB (s : Se) (M : List Int) (p q : Nat) : Bool := !decide (s.D.getD q 0 = 0) && (nextB s.wd (p : Int) (q : Int) && decide (M.getD q 0 = M.getD p 0 - s.D.getD p 0))
def reachB (s : Se) (x : Int) (M : List Int) (p k : Nat) : Bool := decide ((p : Int) = x) || (List.range k).any (comeB s M p)
def placeP (s : Se) (x : Int) (M : List Int) (p : Nat) : Bool := decide (-1 ≤ M.getD p 0) && ((!decide (s.D.getD p 0 = 0) || decide (M.getD p 0 = -1)) && (decide (M.getD p 0 < 0) || ((List.range s.D.length).all (bearB s M p) && reachB s x M p s.D.length)))
def prov0B (s : Se) (x : Int) (M : List Int) : Bool := seaB s && (onB s x && (!decide (costAt s x = 0) && (decide (M.length = s.D.length) && decide (M.getD x.toNat 0 = 0))))
def provesB (s : Se) (x : Int) (M : List Int) : Bool := prov0B s x M && (List.range s.D.length).all (placeP s x M)
theorem reachB_succ (s : Se) (x : Int) (M : List Int) (p k : Nat) : reachB s x M p (k + 1) = (reachB s x M p k || comeB s M p k) := by
  unfold reachB
  rw [List.range_succ, List.any_append]
  simp [Bool.or_assoc]
theorem provesB_place {s : Se} {x : Int} {M : List Int} {k : Nat} (hk : k < s.D.length) (h : placeP s x M k = false) : provesB s x M = false := by
  unfold provesB
  rw [all_false (xs := List.range s.D.length) (d := 0) (i := k) (by simpa using hk) (by simpa [List.getD, hk] using h), Bool.and_false]
theorem provesB_all {s : Se} {x : Int} {M : List Int} (h0 : prov0B s x M = true) (h : ∀ r, r < s.D.length → placeP s x M r = true) : provesB s x M = true := by
  unfold provesB
  rw [h0, all_true (xs := List.range s.D.length) (d := 0) (fun r hr => by
    have hr' : r < s.D.length := by simpa using hr
    simpa [List.getD, hr'] using h r hr')]
  rfl
theorem placeP_bear {s : Se} {x : Int} {M : List Int} {p q : Nat} (hq : q < s.D.length) (h0 : ¬ M.getD p 0 < 0) (h : bearB s M p q = false) : placeP s x M p = false := by
  unfold placeP
  rw [all_false (xs := List.range s.D.length) (d := 0) (i := q) (by simpa using hq) (by simpa [List.getD, hq] using h), decide_eq_false h0]
  simp
theorem placeP_yes {s : Se} {x : Int} {M : List Int} {p : Nat} (h0 : 0 ≤ M.getD p 0) (hd : s.D.getD p 0 ≠ 0) (hb : ∀ r, r < s.D.length → bearB s M p r = true) (hr : reachB s x M p s.D.length = true) : placeP s x M p = true := by
  unfold placeP
  rw [hr, all_true (xs := List.range s.D.length) (d := 0) (fun r hr => by
    have hr' : r < s.D.length := by simpa using hr
    simpa [List.getD, hr'] using hb r hr'), decide_eq_true (show -1 ≤ M.getD p 0 by omega), decide_eq_false hd]
  simp
theorem placeP_no {s : Se} {x : Int} {M : List Int} {p : Nat} (h0 : ¬ M.getD p 0 < 0) (hr : reachB s x M p s.D.length = false) : placeP s x M p = false := by
  unfold placeP
  rw [hr, decide_eq_false h0]
  simp
theorem placeP_none {s : Se} {x : Int} {M : List Int} {p : Nat} (h : M.getD p 0 = -1) : placeP s x M p = true := by
  unfold placeP
  rw [h]
  simp
theorem placeP_low {s : Se} {x : Int} {M : List Int} {p : Nat} (h : M.getD p 0 < -1) : placeP s x M p = false := by
  unfold placeP
  rw [decide_eq_false (show ¬ -1 ≤ M.getD p 0 by omega)]
  rfl
theorem placeP_land {s : Se} {x : Int} {M : List Int} {p : Nat} (hd : s.D.getD p 0 = 0) (h : M.getD p 0 ≠ -1) : placeP s x M p = false := by
  unfold placeP
  rw [decide_eq_true hd, decide_eq_false h]
  simp
theorem prov0_n {s : Se} {x : Int} {M : List Int} (h : prov0B s x M = true) : SeaN s ∧ (∃ xi : Nat, x = (xi : Int) ∧ xi < s.D.length ∧ M.getD xi 0 = 0) ∧ M.length = s.D.length := by
  unfold prov0B at h
  simp only [Bool.and_eq_true, decide_eq_true_eq] at h
  obtain ⟨h1, h2, -, h4, h5⟩ := h
  unfold onB at h2
  obtain ⟨a, b⟩ := inB_true h2
  exact ⟨seaB_n h1, ⟨x.toNat, by omega, by omega, h5⟩, h4⟩

set_option maxRecDepth 10000 in
set_option maxHeartbeats 32000000 in
theorem specProves_any (s : Se) (dao : Option Addr) (dn dc : Nat) (fao : Option Addr) (fn fc : Nat) (x : Int) (v : Value) (M : List Int) (w : World) (hD : IntsIn w (.slice dao dn dc) s.D) (hF : RClosed w (.slice fao fn fc) s.F) (hM : IntsIn w v M) (hB : ∀ i, i < M.length → -9223372036854775808 ≤ M.getD i 0 ∧ M.getD i 0 ≤ 9223372036854775807) :
    Calls Try.prog 34 #[vSea s.wd s.hg (.slice dao dn dc) (.slice fao fn fc), .int .i64 x, v] w fun e w' => e = .returned (.bool (provesB s x M)) ∧ Below w.heap.size w w' := by
  have A := Below.alloc1 w (.cells #[.int .i64 s.wd, .int .i64 s.hg, .slice dao dn dc, .slice fao fn fc] 27)
  have O := ownV_alloc w #[.int .i64 s.wd, .int .i64 s.hg, .slice dao dn dc, .slice fao fn fc] 27
  have HOK := hide (specSeaOk_any s dao dn dc fao fn fc _ (hD.below A) (hF.below A))
  obtain ⟨dao', dc', eD, hdl, hdm, hdc⟩ := hD
  obtain ⟨mao, mc, rfl, hml, hmm, hmc⟩ := hM
  simp only [Value.slice.injEq] at eD
  obtain ⟨rfl, rfl, rfl⟩ := eD
  unfold maxLen at hmm
  have HDC := hide hdc
  have HMC := hide hmc
  have HMB := hide hB
  have HW := hide A
  have HO := hide O
  clear A O hdc hF hmc hB
  unfold vSea at HOK ⊢
  cases h1 : seaB s with
  | false =>
    have HN : Hid (provesB s x M = false) := by show _ = _; unfold provesB prov0B; rw [h1]; rfl
    rw [h1] at HOK
    go_enter Try.func34, Try.ntmps34
    go_wp2_with (go_at_call 23; refine (unhide HOK).mono ?_; rintro e w1 ⟨rfl, hb⟩; replace HW := hide (Below.step (unhide HW) hb); clear hb)
    go_ret
    exact ⟨ret_bool (unhide HN).symm, unhide HW⟩
  | true =>
  rw [h1] at HOK
  have hn := seaB_n h1
  have HPL := hide fun V => l7Place_any s x (.slice dao s.D.length dc) (.slice fao fn fc) V hn
  unfold vSea at HPL
  cases h2 : onB s x with
  | false =>
    have HN : Hid (provesB s x M = false) := by show _ = _; unfold provesB prov0B; rw [h2]; simp
    rw [h2] at HPL
    go_enter Try.func34, Try.ntmps34
    go_wp2_with (first | (go_at_call 23; refine (unhide HOK).mono ?_; rintro e w1 ⟨rfl, hb⟩; replace HW := hide (Below.step (unhide HW) hb); replace HO := hide (OwnV.step (unhide HO) hb); have b0 := (unhide HO).cell (i := 0) rfl; have b1 := (unhide HO).cell (i := 1) rfl; have b2 := (unhide HO).cell (i := 2) rfl; have b3 := (unhide HO).cell (i := 3) rfl; clear hb) | (go_at_call 63; refine (unhide HPL _).mono ?_; rintro e w2 ⟨rfl, hb⟩; replace HW := hide (Below.step (unhide HW) hb); replace HO := hide (OwnV.step (unhide HO) hb); have f0 := (unhide HO).cell (i := 0) rfl; have f1 := (unhide HO).cell (i := 1) rfl; have f2 := (unhide HO).cell (i := 2) rfl; have f3 := (unhide HO).cell (i := 3) rfl; clear hb))
    go_ret
    exact ⟨ret_bool (unhide HN).symm, unhide HW⟩
  | true =>
  rw [h2] at HPL
  obtain ⟨xi, rfl, hxi⟩ : ∃ q : Nat, x = (q : Int) ∧ q < s.D.length := by
    unfold onB at h2
    obtain ⟨a, b⟩ := inB_true h2
    exact ⟨x.toNat, by omega, by omega⟩
  obtain ⟨bd, od, rfl, hcd⟩ := unhide HDC xi hxi
  have e1 := ((unhide HW).cell (lt_of_cell hcd)).trans hcd
  have hxiI : (xi : Int) < s.D.length := by omega
  obtain ⟨dx, edx⟩ : ∃ c, s.D.getD xi 0 = c := ⟨_, rfl⟩
  have EDX : Hid (costAt s (xi : Int) = dx) := edx
  rw [edx] at e1
  clear hcd edx
  by_cases h3 : dx = 0
  case pos =>
    have HN : Hid (provesB s (xi : Int) M = false) := by show _ = _; unfold provesB prov0B; rw [unhide EDX, decide_eq_true h3]; simp
    have d3 : (dx == 0) = true := by simp; exact h3
    subst h3
    go_enter Try.func34, Try.ntmps34
    go_wp2_with (first | (go_at_call 23; refine (unhide HOK).mono ?_; rintro e w1 ⟨rfl, hb⟩; replace HW := hide (Below.step (unhide HW) hb); replace HO := hide (OwnV.step (unhide HO) hb); have b0 := (unhide HO).cell (i := 0) rfl; have b1 := (unhide HO).cell (i := 1) rfl; have b2 := (unhide HO).cell (i := 2) rfl; have b3 := (unhide HO).cell (i := 3) rfl; have cd := (hb.cell (lt_of_cell e1)).trans e1; clear hb) | (go_at_call 63; refine (unhide HPL _).mono ?_; rintro e w2 ⟨rfl, hb⟩; replace HW := hide (Below.step (unhide HW) hb); replace HO := hide (OwnV.step (unhide HO) hb); have f0 := (unhide HO).cell (i := 0) rfl; have f1 := (unhide HO).cell (i := 1) rfl; have f2 := (unhide HO).cell (i := 2) rfl; have f3 := (unhide HO).cell (i := 3) rfl; have cd' := (hb.cell (lt_of_cell cd)).trans cd; clear hb))
    go_ret
    exact ⟨ret_bool (unhide HN).symm, unhide HW⟩
  have d3 : (dx == 0) = false := by simp; exact h3
  by_cases h4 : M.length = s.D.length
  case neg =>
    have HN : Hid (provesB s (xi : Int) M = false) := by show _ = _; unfold provesB prov0B; rw [decide_eq_false h4]; simp
    have d4 : ((M.length : Int) != (s.D.length : Int)) = true := by simp; omega
    have d4' : ((M.length : Int) == (s.D.length : Int)) = false := by simp; omega
    have d4'' : (M.length == s.D.length) = false := by simp; omega
    go_enter Try.func34, Try.ntmps34
    go_wp2_with (first | (go_at_call 23; refine (unhide HOK).mono ?_; rintro e w1 ⟨rfl, hb⟩; replace HW := hide (Below.step (unhide HW) hb); replace HO := hide (OwnV.step (unhide HO) hb); have b0 := (unhide HO).cell (i := 0) rfl; have b1 := (unhide HO).cell (i := 1) rfl; have b2 := (unhide HO).cell (i := 2) rfl; have b3 := (unhide HO).cell (i := 3) rfl; have cd := (hb.cell (lt_of_cell e1)).trans e1; clear hb) | (go_at_call 63; refine (unhide HPL _).mono ?_; rintro e w2 ⟨rfl, hb⟩; replace HW := hide (Below.step (unhide HW) hb); replace HO := hide (OwnV.step (unhide HO) hb); have f0 := (unhide HO).cell (i := 0) rfl; have f1 := (unhide HO).cell (i := 1) rfl; have f2 := (unhide HO).cell (i := 2) rfl; have f3 := (unhide HO).cell (i := 3) rfl; have cd' := (hb.cell (lt_of_cell cd)).trans cd; clear hb))
    go_ret
    exact ⟨ret_bool (unhide HN).symm, unhide HW⟩
  have d4 : ((M.length : Int) != (s.D.length : Int)) = false := by simp; omega
  have hxm : xi < M.length := by omega
  obtain ⟨bm, om, rfl, hcm⟩ := unhide HMC xi hxm
  have e2 := ((unhide HW).cell (lt_of_cell hcm)).trans hcm
  have hxmI : (xi : Int) < M.length := by omega
  obtain ⟨mx, emx⟩ : ∃ c, M.getD xi 0 = c := ⟨_, rfl⟩
  have EMX : Hid (M.getD (xi : Int).toNat 0 = mx) := emx
  rw [emx] at e2
  clear hcm
  by_cases h5 : mx = 0
  case neg =>
    have HN : Hid (provesB s (xi : Int) M = false) := by show _ = _; unfold provesB prov0B; rw [unhide EMX, decide_eq_false h5]; simp
    clear emx
    have d5 : (mx != 0) = true := by simp; exact h5
    have d5' : (mx == 0) = false := by simp; exact h5
    go_enter Try.func34, Try.ntmps34
    go_wp2_with (first | (go_at_call 23; refine (unhide HOK).mono ?_; rintro e w1 ⟨rfl, hb⟩; replace HW := hide (Below.step (unhide HW) hb); replace HO := hide (OwnV.step (unhide HO) hb); have b0 := (unhide HO).cell (i := 0) rfl; have b1 := (unhide HO).cell (i := 1) rfl; have b2 := (unhide HO).cell (i := 2) rfl; have b3 := (unhide HO).cell (i := 3) rfl; have cd := (hb.cell (lt_of_cell e1)).trans e1; have cm := (hb.cell (lt_of_cell e2)).trans e2; clear hb) | (go_at_call 63; refine (unhide HPL _).mono ?_; rintro e w2 ⟨rfl, hb⟩; replace HW := hide (Below.step (unhide HW) hb); replace HO := hide (OwnV.step (unhide HO) hb); have f0 := (unhide HO).cell (i := 0) rfl; have f1 := (unhide HO).cell (i := 1) rfl; have f2 := (unhide HO).cell (i := 2) rfl; have f3 := (unhide HO).cell (i := 3) rfl; have cd' := (hb.cell (lt_of_cell cd)).trans cd; have cm' := (hb.cell (lt_of_cell cm)).trans cm; clear hb))
    go_ret
    exact ⟨ret_bool (unhide HN).symm, unhide HW⟩
  have d5 : (mx != 0) = false := by simp; exact h5
  have H0 : Hid (prov0B s (xi : Int) M = true) := by show _ = _; unfold prov0B; rw [h1, h2, unhide EDX, decide_eq_false h3, decide_eq_true h4, unhide EMX, decide_eq_true h5]; rfl
  have HMX : Hid (M.getD xi 0 = 0) := by show _ = _; rw [emx]; exact h5
  clear emx
  have hle := hn.le
  have HN := hide hn
  clear hn
  go_enter Try.func34, Try.ntmps34
  go_wp2_with (first | (go_at_call 23; refine (unhide HOK).mono ?_; rintro e w1 ⟨rfl, hb⟩; replace HW := hide (Below.step (unhide HW) hb); replace HO := hide (OwnV.step (unhide HO) hb); have b0 := (unhide HO).cell (i := 0) rfl; have b1 := (unhide HO).cell (i := 1) rfl; have b2 := (unhide HO).cell (i := 2) rfl; have b3 := (unhide HO).cell (i := 3) rfl; have cd := (hb.cell (lt_of_cell e1)).trans e1; have cm := (hb.cell (lt_of_cell e2)).trans e2; clear hb) | (go_at_call 63; refine (unhide HPL _).mono ?_; rintro e w2 ⟨rfl, hb⟩; replace HW := hide (Below.step (unhide HW) hb); replace HO := hide (OwnV.step (unhide HO) hb); have f0 := (unhide HO).cell (i := 0) rfl; have f1 := (unhide HO).cell (i := 1) rfl; have f2 := (unhide HO).cell (i := 2) rfl; have f3 := (unhide HO).cell (i := 3) rfl; have cd' := (hb.cell (lt_of_cell cd)).trans cd; have cm' := (hb.cell (lt_of_cell cm)).trans cm; clear hb))
  clear HOK HPL b0 b1 b2 b3 f0 f1 f2 f3 cd cd' cm cm' e1 e2 d3 d4 d5 h1 h2 h3 h5 EDX EMX
  have hmI : (M.length : Int) ≤ 144 := by omega
  go_loopg [7] s.D.length (fun g i wr => Below w2.heap.size w2 wr ∧ ∃ k : Nat, k ≤ s.D.length ∧ g = s.D.length - k ∧ i = .int .i64 k ∧ Hid (∀ r, r < k → placeP s (xi : Int) M r = true))
  case atStart => exact ⟨Below.refl _ _, 0, Nat.zero_le _, rfl, rfl, fun r hr => by omega⟩
  case round =>
    obtain ⟨hWq, k, hk, rfl, rfl, HS⟩ := hrel
    have hA := Below.step (unhide HW) hWq
    by_cases hkn : k < s.D.length
    case neg =>
      have HY := hide (provesB_all (unhide H0) (fun r hr => unhide HS r (by omega)))
      have hki : ¬ (k : Int) < M.length := by omega
      have HA := hide hA
      clear HS hA hWq
      go_wp2
      go_ret
      exact ⟨ret_bool (unhide HY).symm, unhide HA⟩
    have hki : (k : Int) < M.length := by omega
    have hkD : (k : Int) < s.D.length := by omega
    obtain ⟨bm', om', em, hcm⟩ := unhide HMC k (by omega)
    simp only [Option.some.injEq, Addr.mk.injEq, and_true] at em
    obtain ⟨rfl, rfl⟩ := em
    obtain ⟨bd', od', ed, hcd⟩ := unhide HDC k hkn
    simp only [Option.some.injEq, Addr.mk.injEq, and_true] at ed
    obtain ⟨rfl, rfl⟩ := ed
    have eM := wcell3 hcm hA
    have eD := wcell3 hcd hA
    have hO := OwnV.step (unhide HO) hWq
    have b2 := hO.cell (i := 2) rfl
    obtain ⟨mp, emp⟩ : ∃ c, M.getD k 0 = c := ⟨_, rfl⟩
    obtain ⟨dp, edp⟩ : ∃ c, s.D.getD k 0 = c := ⟨_, rfl⟩
    have hmb := unhide HMB k (by omega)
    have hdb := (unhide HN).cost k hkn
    rw [emp] at eM hmb
    rw [edp] at eD hdb
    have EMP := hide emp
    have EDP := hide edp
    have HWq := hide hWq
    have HA := hide hA
    clear hcm hcd hO hWq hA emp edp
    by_cases c1 : mp < -1
    · have HNO := hide (provesB_place (x := (xi : Int)) hkn (placeP_low (by rw [unhide EMP]; exact c1)))
      have d1 : decide (mp < -1) = true := decide_eq_true c1
      clear HS
      go_wp2
      go_ret
      exact ⟨ret_bool (unhide HNO).symm, unhide HA⟩
    have d1 : decide (mp < -1) = false := decide_eq_false c1
    by_cases c2 : mp = -1
    · have HS' : Hid (∀ r, r < k + 1 → placeP s (xi : Int) M r = true) := fun r hr => by
        by_cases e : r = k
        · rw [e]; exact placeP_none (by rw [unhide EMP]; exact c2)
        · exact unhide HS r (by omega)
      have hkx : k ≠ xi := fun e => by have h := unhide EMP; rw [e, unhide HMX] at h; omega
      have dkx : ((k : Int) == (xi : Int)) = false := by simp; omega
      have dkx' : (k == xi) = false := by simp; omega
      have hkxi : ¬ (k : Int) = (xi : Int) := by omega
      subst c2
      clear HS hkx
      by_cases c3 : dp = 0
      all_goals
        have dd : (dp == 0) = decide (dp = 0) := by rw [Bool.eq_iff_iff]; simp
        go_wp2
        go_loopg [8, 9] 0 (fun g rv i wr2 => wr2 = wr ∧ i = .int .i64 0 ∧ rv = .bool true)
        case atStart => exact ⟨rfl, rfl, rfl⟩
        case round =>
          obtain ⟨hw9, rfl, rfl⟩ := hrel
          subst hw9
          have hz : (0 : Int) < M.length := by omega
          go_wp2
          go_roundg (s.D.length - (k + 1))
          case measure => omega
          case rel => exact ⟨unhide HWq, k + 1, by omega, rfl, by go_num, HS'⟩
    have c2' : 0 ≤ mp := by omega
    by_cases c3 : dp = 0
    · have HNO := hide (provesB_place (x := (xi : Int)) hkn (placeP_land (by rw [unhide EDP]; exact c3) (by rw [unhide EMP]; omega)))
      have d3 : (dp == 0) = true := by simp; exact c3
      have d4 : (mp != -1) = true := by simp; omega
      subst c3
      clear HS
      go_wp2
      go_ret
      exact ⟨ret_bool (unhide HNO).symm, unhide HA⟩
    have d3 : (dp == 0) = false := by simp; exact c3
    have d4 : decide (mp < 0) = false := by simp; exact c2'
    have d5 : decide (0 ≤ mp) = true := by simp; exact c2'
    have hnl : 0 ≤ M.getD k 0 := by rw [unhide EMP]; omega
    have HNL := hide hnl
    have q1 : IntKind.i64.wrap (mp - dp) = mp - dp := by rw [IntKind.wrap_i64]; omega
    have hbox := b2
    clear hnl
    have HOW := hide (OwnV.step (unhide HO) (unhide HWq))
    obtain ⟨r0, er0⟩ : ∃ r, r = decide ((k : Int) = (xi : Int)) := ⟨_, rfl⟩
    have HR0 : Hid (reachB s (xi : Int) M k 0 = r0) := by show _ = _; unfold reachB; rw [er0]; simp
    by_cases hkx : (k : Int) = (xi : Int)
    all_goals
      first | (have dk : ((k : Int) == (xi : Int)) = true := by simp; omega) | (have dk : ((k : Int) == (xi : Int)) = false := by simp; omega)
      first | (have dk' : (k == xi) = true := by simp; omega) | (have dk' : (k == xi) = false := by simp; omega)
      first | (have eb : r0 = true := by rw [er0]; exact decide_eq_true hkx) | (have eb : r0 = false := by rw [er0]; exact decide_eq_false hkx)
      clear er0 hkx
      subst eb
      go_wp2
      clear dk dk'
      generalize wr = w3 at *
      go_loopg [8, 9] s.D.length (fun g rv i wr2 => Below w3.heap.size w3 wr2 ∧ ∃ q : Nat, q ≤ s.D.length ∧ g = s.D.length - q ∧ i = .int .i64 q ∧ rv = .bool (reachB s (xi : Int) M k q) ∧ Hid (∀ r, r < q → bearB s M k r = true))
      case atStart => exact ⟨Below.refl _ _, 0, Nat.zero_le _, rfl, rfl, by rw [unhide HR0], fun r hr => by omega⟩
      case round =>
        obtain ⟨hWr, q, hq, rfl, rfl, rfl, HBQ⟩ := hrel
        have hA2 := Below.step (unhide HA) hWr
        have nM := (hWr.cell (lt_of_cell eM)).trans eM
        have nD := (hWr.cell (lt_of_cell eD)).trans eD
        have hO := OwnV.step (unhide HOW) hWr
        have a0 := hO.cell (i := 0) rfl
        have a1 := hO.cell (i := 1) rfl
        have a2 := hO.cell (i := 2) rfl
        have a3 := hO.cell (i := 3) rfl
        have HA2 := hide hA2
        have HWr := hide hWr
        by_cases hqn : q < s.D.length
        case neg =>
          have hqi : ¬ (q : Int) < M.length := by omega
          have hqq : q = s.D.length := by omega
          subst hqq
          have HBA : Hid (∀ r, r < s.D.length → bearB s M k r = true) := HBQ
          clear hWr hO hA2 HBQ
          cases hr : reachB s (xi : Int) M k s.D.length with
          | true =>
            have HS' : Hid (∀ r, r < k + 1 → placeP s (xi : Int) M r = true) := fun r hr' => by
              by_cases e : r = k
              · rw [e]; exact placeP_yes (by rw [unhide EMP]; exact c2') (by rw [unhide EDP]; exact c3) (unhide HBA) hr
              · exact unhide HS r (by omega)
            clear HS HBA hr
            go_wp2
            go_roundg (s.D.length - (k + 1))
            case measure => omega
            case rel => exact ⟨Below.step (unhide HWq) (unhide HWr), k + 1, by omega, rfl, by go_num, HS'⟩
          | false =>
            have HNO := hide (provesB_place (x := (xi : Int)) hkn (placeP_no (by have h := unhide HNL; omega) hr))
            clear HS HBA hr
            go_wp2
            go_ret
            exact ⟨ret_bool (unhide HNO).symm, unhide HA2⟩
        have hqi : (q : Int) < M.length := by omega
        have hqD : (q : Int) < s.D.length := by omega
        obtain ⟨bm', om', em, hcm⟩ := unhide HMC q (by omega)
        simp only [Option.some.injEq, Addr.mk.injEq, and_true] at em
        obtain ⟨rfl, rfl⟩ := em
        obtain ⟨bd', od', ed, hcd⟩ := unhide HDC q hqn
        simp only [Option.some.injEq, Addr.mk.injEq, and_true] at ed
        obtain ⟨rfl, rfl⟩ := ed
        have uM := wcell3 hcm hA2
        have uD := wcell3 hcd hA2
        obtain ⟨mq, emq⟩ : ∃ c, M.getD q 0 = c := ⟨_, rfl⟩
        obtain ⟨dq, edq⟩ : ∃ c, s.D.getD q 0 = c := ⟨_, rfl⟩
        have hmb2 := unhide HMB q (by omega)
        have hdb2 := (unhide HN).cost q hqn
        rw [emq] at uM hmb2
        rw [edq] at uD hdb2
        obtain ⟨hmb20, hmb21⟩ := hmb2
        obtain ⟨hdb20, hdb21⟩ := hdb2
        have EMQ := hide emq
        have EDQ := hide edq
        have HRS := hide (reachB_succ s (xi : Int) M k q)
        have HBN : Hid (bearB s M k q = false → provesB s (xi : Int) M = false) := fun h => provesB_place (x := (xi : Int)) hkn (placeP_bear hqn (by have h := unhide HNL; omega) h)
        have HBY : Hid (bearB s M k q = true → ∀ r, r < q + 1 → bearB s M k r = true) := fun h r hr => by
          by_cases e : r = q
          · rw [e]; exact h
          · exact unhide HBQ r (by omega)
        have HNX := hide (l7Next_any s (k : Int) (q : Int) (.slice (some ⟨bd, od, none⟩) s.D.length dc) (.slice fao fn fc) wr (unhide HN) (by omega) hkD (by omega) hqD)
        unfold vSea at HNX
        clear hcm hcd hWr hO hA2 emq edq HBQ
        generalize reachB s (xi : Int) M k q = rq at *
        by_cases e1 : dq = 0
        · have HB1 := hide (unhide HBY (by unfold bearB; rw [unhide EDQ, decide_eq_true e1]; rfl))
          have HR1 : Hid (reachB s (xi : Int) M k (q + 1) = rq) := by show _ = _; rw [unhide HRS]; unfold comeB; rw [unhide EDQ, decide_eq_true e1]; simp
          have f1 : (dq == 0) = true := by simp; exact e1
          subst e1
          clear HBN HBY HRS HS
          go_wp2
          go_roundg (s.D.length - (q + 1))
          case measure => omega
          case rel => exact ⟨unhide HWr, q + 1, by omega, rfl, by go_num, by rw [unhide HR1], HB1⟩
        have f1 : (dq == 0) = false := by simp; exact e1
        cases hnx : nextB s.wd (k : Int) (q : Int) with
        | false =>
          rw [hnx] at HNX
          have HB1 := hide (unhide HBY (by unfold bearB; rw [hnx]; simp))
          have HR1 : Hid (reachB s (xi : Int) M k (q + 1) = rq) := by show _ = _; rw [unhide HRS]; unfold comeB; rw [hnx]; simp
          clear HBN HBY HRS HS hnx
          go_wp2_with fail
          refine (unhide HNX).mono ?_
          rintro e w4 ⟨rfl, hb⟩
          replace HWr := hide (Below.step (unhide HWr) hb)
          clear hb HNX
          go_wp2
          go_roundg (s.D.length - (q + 1))
          case measure => omega
          case rel => exact ⟨unhide HWr, q + 1, by omega, rfl, by go_num, by rw [unhide HR1], HB1⟩
        | true =>
          rw [hnx] at HNX
          have HBE : Hid (bearB s M k q = (decide (0 ≤ mq) && decide (mq - dq ≤ mp))) := by show _ = _; unfold bearB; rw [hnx, unhide EDQ, unhide EMQ, unhide EMP, decide_eq_false e1]; rfl
          have HRE : Hid (reachB s (xi : Int) M k (q + 1) = (rq || decide (mq = mp - dp))) := by show _ = _; rw [unhide HRS]; unfold comeB; rw [hnx, unhide EDQ, unhide EMQ, unhide EMP, unhide EDP, decide_eq_false e1]; rfl
          clear HRS hnx
          go_wp2_with fail
          refine (unhide HNX).mono ?_
          rintro e w4 ⟨rfl, hb⟩
          have g2 := (hb.cell (lt_of_cell a2)).trans a2
          have gM := (hb.cell (lt_of_cell uM)).trans uM
          have gD := (hb.cell (lt_of_cell uD)).trans uD
          have gm := (hb.cell (lt_of_cell nM)).trans nM
          have gd := (hb.cell (lt_of_cell nD)).trans nD
          replace HWr := hide (Below.step (unhide HWr) hb)
          replace HA2 := hide (Below.step (unhide HA2) hb)
          clear hb HNX a0 a1 a2 a3 uM uD nM nD eM eD b2 hbox
          by_cases e2 : mq < 0
          · have HNO := hide (unhide HBN (by rw [unhide HBE, decide_eq_false (show ¬ 0 ≤ mq by omega)]; rfl))
            have f2 : decide (mq < 0) = true := decide_eq_true e2
            clear HBN HBY HS
            go_wp2
            go_quiet (fail)
            go_wp2
            go_ret
            exact ⟨ret_bool (unhide HNO).symm, below_drewN (unhide HA2) _⟩
          have f2 : decide (mq < 0) = false := decide_eq_false e2
          have q2 : IntKind.i64.wrap (mq - dq) = mq - dq := by rw [IntKind.wrap_i64]; omega
          by_cases e3 : mp < mq - dq
          · have HNO := hide (unhide HBN (by rw [unhide HBE, decide_eq_false (show ¬ mq - dq ≤ mp by omega)]; simp))
            have f3 : decide (mp < mq - dq) = true := decide_eq_true e3
            clear HBN HBY HS
            go_wp2
            go_quiet (fail)
            go_wp2
            go_ret
            exact ⟨ret_bool (unhide HNO).symm, below_drewN (unhide HA2) _⟩
          have f3 : decide (mp < mq - dq) = false := decide_eq_false e3
          have HB1 := hide (unhide HBY (by rw [unhide HBE, decide_eq_true (show 0 ≤ mq by omega), decide_eq_true (show mq - dq ≤ mp by omega)]; rfl))
          clear HBN HBY HS
          cases rq with
          | true =>
            go_wp2
            go_quiet (fail)
            go_wp2
            go_quiet (fail)
            go_wp2
            go_roundg (s.D.length - (q + 1))
            case measure => omega
            case rel => exact ⟨below_drewN (unhide HWr) _, q + 1, by omega, rfl, by go_num, by rw [unhide HRE]; rfl, HB1⟩
          | false =>
            have f4 : (mq == mp - dp) = decide (mq = mp - dp) := by rw [Bool.eq_iff_iff]; simp
            go_wp2
            go_quiet (fail)
            go_wp2
            go_quiet (fail)
            go_wp2
            go_roundg (s.D.length - (q + 1))
            case measure => omega
            case rel => exact ⟨below_drewN (unhide HWr) _, q + 1, by omega, rfl, by go_num, by rw [unhide HRE]; rfl, HB1⟩

end Go.Proofs.Ytahgblhmdhjahaa

/- Contract of the program's Proves. -/
import Derived.Test.YtahgblhmdhjahaaImPr2
namespace Go.Proofs.Ytahgblhmdhjahaa
open Go.RowKit

set_option maxRecDepth 10000 in
set_option maxHeartbeats 32000000 in
theorem implProves_any (s : Se) (dao : Option Addr) (dn dc : Nat) (fao : Option Addr) (fn fc : Nat) (x : Int) (v : Value) (M : List Int) (w : World) (hD : IntsIn w (.slice dao dn dc) s.D) (hF : RClosed w (.slice fao fn fc) s.F) (hM : IntsIn w v M) (hB : ∀ i, i < M.length → -9223372036854775808 ≤ M.getD i 0 ∧ M.getD i 0 ≤ 9223372036854775807) :
    Calls Try.prog 15 #[vSea s.wd s.hg (.slice dao dn dc) (.slice fao fn fc), .int .i64 x, v] w fun e w' => e = .returned (.bool (provesB s x M)) ∧ Below w.heap.size w w' := by
  have A := Below.alloc1 w (.cells #[.int .i64 s.wd, .int .i64 s.hg, .slice dao dn dc, .slice fao fn fc] 27)
  have O := ownV_alloc w #[.int .i64 s.wd, .int .i64 s.hg, .slice dao dn dc, .slice fao fn fc] 27
  have HOK := hide (implSeaOk_any s dao dn dc fao fn fc _ (hD.below A) (hF.below A))
  have HD := hide hD
  have HM := hide hM
  obtain ⟨dao', dc', eD, hdl, hdm, hdc⟩ := hD
  obtain ⟨mao, mc, rfl, hml, hmm, hmc⟩ := hM
  simp only [Value.slice.injEq] at eD
  obtain ⟨rfl, rfl, rfl⟩ := eD
  unfold maxLen at hmm
  have HMC := hide hmc
  have HMB := hide hB
  have HW := hide A
  have HO := hide O
  clear A O hdc hF hmc hB
  unfold vSea at HOK ⊢
  cases h1 : seaB s with
  | false =>
    have HN : Hid (provesB s x M = false) := by show _ = _; unfold provesB prov0B; rw [h1]; rfl
    rw [h1] at HOK
    go_enter Try.func15, Try.ntmps15
    go_wp2_with (go_at_call 14; refine (unhide HOK).mono ?_; rintro e w1 ⟨rfl, hb⟩; replace HW := hide (Below.step (unhide HW) hb); clear hb)
    go_ret
    exact ⟨ret_bool (unhide HN).symm, unhide HW⟩
  | true =>
  rw [h1] at HOK
  have hn := seaB_n h1
  have HPL := hide fun V h => isSailed_any s x dao s.D.length dc (.slice fao fn fc) V hn h
  unfold vSea at HPL
  cases h2 : sailB s x with
  | false =>
    have HN : Hid (provesB s x M = false) := by
      show _ = _
      unfold sailB at h2
      unfold provesB prov0B
      cases ha : onB s x with
      | false => simp
      | true =>
        rw [ha, Bool.true_and] at h2
        rw [h2]
        simp
    rw [h2] at HPL
    go_enter Try.func15, Try.ntmps15
    go_wp2_with (first | (go_at_call 14; refine (unhide HOK).mono ?_; rintro e w1 ⟨rfl, hb⟩; have HDx := hide ((unhide HD).below (Below.step (unhide HW) hb)); replace HW := hide (Below.step (unhide HW) hb); replace HO := hide (OwnV.step (unhide HO) hb); have b0 := (unhide HO).cell (i := 0) rfl; have b1 := (unhide HO).cell (i := 1) rfl; have b2 := (unhide HO).cell (i := 2) rfl; have b3 := (unhide HO).cell (i := 3) rfl; clear hb) | (go_at_call 42; refine (unhide HPL _ (unhide HDx)).mono ?_; rintro e w2 ⟨rfl, hb⟩; replace HW := hide (Below.step (unhide HW) hb); replace HO := hide (OwnV.step (unhide HO) hb); have f0 := (unhide HO).cell (i := 0) rfl; have f1 := (unhide HO).cell (i := 1) rfl; have f2 := (unhide HO).cell (i := 2) rfl; have f3 := (unhide HO).cell (i := 3) rfl; clear hb))
    go_ret
    exact ⟨ret_bool (unhide HN).symm, unhide HW⟩
  | true =>
  rw [h2] at HPL
  have h2' := h2
  unfold sailB at h2'
  simp only [Bool.and_eq_true] at h2'
  obtain ⟨xi, rfl, hxi⟩ : ∃ q : Nat, x = (q : Int) ∧ q < s.D.length := by
    have h3 := h2'.1
    unfold onB at h3
    obtain ⟨a, b⟩ := inB_true h3
    exact ⟨x.toNat, by omega, by omega⟩
  by_cases h4 : M.length = s.D.length
  case neg =>
    have HN : Hid (provesB s (xi : Int) M = false) := by show _ = _; unfold provesB prov0B; rw [decide_eq_false h4]; simp
    have d4 : ((M.length : Int) != (s.D.length : Int)) = true := by simp; omega
    have d4' : ((M.length : Int) == (s.D.length : Int)) = false := by simp; omega
    have d4'' : (M.length == s.D.length) = false := by simp; omega
    clear h2'
    go_enter Try.func15, Try.ntmps15
    go_wp2_with (first | (go_at_call 14; refine (unhide HOK).mono ?_; rintro e w1 ⟨rfl, hb⟩; have HDx := hide ((unhide HD).below (Below.step (unhide HW) hb)); replace HW := hide (Below.step (unhide HW) hb); replace HO := hide (OwnV.step (unhide HO) hb); have b0 := (unhide HO).cell (i := 0) rfl; have b1 := (unhide HO).cell (i := 1) rfl; have b2 := (unhide HO).cell (i := 2) rfl; have b3 := (unhide HO).cell (i := 3) rfl; clear hb) | (go_at_call 42; refine (unhide HPL _ (unhide HDx)).mono ?_; rintro e w2 ⟨rfl, hb⟩; replace HW := hide (Below.step (unhide HW) hb); replace HO := hide (OwnV.step (unhide HO) hb); have f0 := (unhide HO).cell (i := 0) rfl; have f1 := (unhide HO).cell (i := 1) rfl; have f2 := (unhide HO).cell (i := 2) rfl; have f3 := (unhide HO).cell (i := 3) rfl; clear hb))
    go_ret
    exact ⟨ret_bool (unhide HN).symm, unhide HW⟩
  have d4 : ((M.length : Int) != (s.D.length : Int)) = false := by simp; omega
  have hxm : xi < M.length := by omega
  obtain ⟨bm, om, rfl, hcm⟩ := unhide HMC xi hxm
  have e2 := ((unhide HW).cell (lt_of_cell hcm)).trans hcm
  have hxmI : (xi : Int) < M.length := by omega
  obtain ⟨mx, emx⟩ : ∃ c, M.getD xi 0 = c := ⟨_, rfl⟩
  have EMX : Hid (M.getD (xi : Int).toNat 0 = mx) := emx
  rw [emx] at e2
  clear hcm emx
  by_cases h5 : mx = 0
  case neg =>
    have HN : Hid (provesB s (xi : Int) M = false) := by show _ = _; unfold provesB prov0B; rw [unhide EMX, decide_eq_false h5]; simp
    have d5 : (mx != 0) = true := by simp; exact h5
    have d5' : (mx == 0) = false := by simp; exact h5
    clear h2'
    go_enter Try.func15, Try.ntmps15
    go_wp2_with (first | (go_at_call 14; refine (unhide HOK).mono ?_; rintro e w1 ⟨rfl, hb⟩; have HDx := hide ((unhide HD).below (Below.step (unhide HW) hb)); replace HW := hide (Below.step (unhide HW) hb); replace HO := hide (OwnV.step (unhide HO) hb); have b0 := (unhide HO).cell (i := 0) rfl; have b1 := (unhide HO).cell (i := 1) rfl; have b2 := (unhide HO).cell (i := 2) rfl; have b3 := (unhide HO).cell (i := 3) rfl; have cm := (hb.cell (lt_of_cell e2)).trans e2; clear hb) | (go_at_call 42; refine (unhide HPL _ (unhide HDx)).mono ?_; rintro e w2 ⟨rfl, hb⟩; replace HW := hide (Below.step (unhide HW) hb); replace HO := hide (OwnV.step (unhide HO) hb); have f0 := (unhide HO).cell (i := 0) rfl; have f1 := (unhide HO).cell (i := 1) rfl; have f2 := (unhide HO).cell (i := 2) rfl; have f3 := (unhide HO).cell (i := 3) rfl; have cm' := (hb.cell (lt_of_cell cm)).trans cm; clear hb))
    go_ret
    exact ⟨ret_bool (unhide HN).symm, unhide HW⟩
  have d5 : (mx != 0) = false := by simp; exact h5
  have H0 : Hid (prov0B s (xi : Int) M = true) := by show _ = _; unfold prov0B; rw [h1, h2'.1, h2'.2, decide_eq_true h4, unhide EMX, decide_eq_true h5]; rfl
  have hle := hn.le
  have HN := hide hn
  have H4 := hide h4
  have h4a : M.length ≤ s.D.length := by omega
  have h4b : s.D.length ≤ M.length := by omega
  clear hn h2' h4
  go_enter Try.func15, Try.ntmps15
  go_wp2_with (first | (go_at_call 14; refine (unhide HOK).mono ?_; rintro e w1 ⟨rfl, hb⟩; have HDx := hide ((unhide HD).below (Below.step (unhide HW) hb)); replace HW := hide (Below.step (unhide HW) hb); replace HO := hide (OwnV.step (unhide HO) hb); have b0 := (unhide HO).cell (i := 0) rfl; have b1 := (unhide HO).cell (i := 1) rfl; have b2 := (unhide HO).cell (i := 2) rfl; have b3 := (unhide HO).cell (i := 3) rfl; have cm := (hb.cell (lt_of_cell e2)).trans e2; clear hb) | (go_at_call 42; refine (unhide HPL _ (unhide HDx)).mono ?_; rintro e w2 ⟨rfl, hb⟩; replace HW := hide (Below.step (unhide HW) hb); replace HO := hide (OwnV.step (unhide HO) hb); have f0 := (unhide HO).cell (i := 0) rfl; have f1 := (unhide HO).cell (i := 1) rfl; have f2 := (unhide HO).cell (i := 2) rfl; have f3 := (unhide HO).cell (i := 3) rfl; have cm' := (hb.cell (lt_of_cell cm)).trans cm; clear hb))
  clear HOK HPL b0 b1 b2 b3 f0 f1 f2 f3 cm cm' e2 d4 d5 h1 h2 h5 EMX
  have hmI : (M.length : Int) ≤ 144 := by omega
  go_loopg [35] s.D.length (fun g i wr => Below w2.heap.size w2 wr ∧ ∃ k : Nat, k ≤ s.D.length ∧ g = s.D.length - k ∧ i = .int .i64 k ∧ Hid (∀ r, r < k → placeI s (xi : Int) M r = true))
  case atStart => exact ⟨Below.refl _ _, 0, Nat.zero_le _, rfl, rfl, fun r hr => by omega⟩
  case round =>
    obtain ⟨hWq, k, hk, rfl, rfl, HS⟩ := hrel
    have hA := Below.step (unhide HW) hWq
    by_cases hkn : k < s.D.length
    case neg =>
      have HY := hide (provesI_all (unhide H0) (fun r hr => unhide HS r (by omega)))
      have hki : ¬ (k : Int) < M.length := by omega
      have HA := hide hA
      clear HS hA hWq
      go_wp2
      go_ret
      exact ⟨ret_bool (unhide HY).symm, unhide HA⟩
    have hki : (k : Int) < M.length := by omega
    obtain ⟨bm', om', em, hcm⟩ := unhide HMC k (by omega)
    simp only [Option.some.injEq, Addr.mk.injEq, and_true] at em
    obtain ⟨rfl, rfl⟩ := em
    have eM := wcell3 hcm hA
    have hO := OwnV.step (unhide HO) hWq
    have b0 := hO.cell (i := 0) rfl
    have b1 := hO.cell (i := 1) rfl
    have b2 := hO.cell (i := 2) rfl
    have b3 := hO.cell (i := 3) rfl
    obtain ⟨mp, emp⟩ : ∃ c, M.getD k 0 = c := ⟨_, rfl⟩
    rw [emp] at eM
    have EMP := hide emp
    have HWq := hide hWq
    have HA := hide hA
    have HDq := hide ((unhide HD).below hA)
    have HMq := hide ((unhide HM).below hA)
    have HOW := hide hO
    clear hcm hO hWq hA emp
    have HNO : Hid (placeI s (xi : Int) M k = false → provesB s (xi : Int) M = false) := fun h => provesI_no (unhide H0) hkn h
    have HYES : Hid (placeI s (xi : Int) M k = true → ∀ r, r < k + 1 → placeI s (xi : Int) M r = true) := fun h r hr => by
      by_cases e : r = k
      · rw [e]; exact h
      · exact unhide HS r (by omega)
    have EP : Hid (placeI s (xi : Int) M k = (!decide (mp < -1) && (decide (mp = -1) || (sailB s (k : Int) && (bearN s M k && (decide ((k : Int) = (xi : Int)) || !decide (cameOf s M k = -1))))))) := by show _ = _; unfold placeI; rw [unhide EMP]
    rw [unhide EP] at HNO HYES
    clear EP HS
    by_cases c1 : mp < -1
    · have HQ := hide (unhide HNO (by rw [decide_eq_true c1]; rfl))
      have d1 : decide (mp < -1) = true := decide_eq_true c1
      clear HNO HYES
      go_wp2
      go_ret
      exact ⟨ret_bool (unhide HQ).symm, unhide HA⟩
    have d1 : decide (mp < -1) = false := decide_eq_false c1
    by_cases c2 : mp = -1
    · have HS' := hide (unhide HYES (by rw [d1, decide_eq_true c2]; rfl))
      subst c2
      clear HNO HYES
      go_wp2
      go_roundg (s.D.length - (k + 1))
      case measure => omega
      case rel => exact ⟨unhide HWq, k + 1, by omega, rfl, by go_num, HS'⟩
    have d2 : (mp == -1) = false := by simp; exact c2
    have hp0 : 0 ≤ M.getD k 0 := by rw [unhide EMP]; omega
    have S1 := hide fun V h => isSailed_any s (k : Int) dao s.D.length dc (.slice fao fn fc) V (unhide HN) h
    have S2 := hide fun V h h' => bearsOn_any s dao s.D.length dc (.slice fao fn fc) (.slice (some ⟨bm, om, none⟩) M.length mc) M k V (unhide HN) h h' (unhide H4) hkn hp0 (unhide HMB)
    have S3 := hide fun V h h' => cameBy_any s dao s.D.length dc (.slice fao fn fc) (.slice (some ⟨bm, om, none⟩) M.length mc) M k V (unhide HN) h h' (unhide H4) hkn hp0 (unhide HMB)
    unfold vSea at S1 S2 S3
    clear hp0
    rw [decide_eq_false c1, decide_eq_false c2] at HNO HYES
    cases h6 : sailB s (k : Int)
    · rw [h6] at S1
      have HQ := hide (unhide HNO (by rw [h6]; rfl))
      clear HNO HYES
      go_wp2_with (first | (go_at_call 42; refine (unhide S1 _ (unhide HDq)).mono ?_; rintro e w3 ⟨rfl, hb⟩; replace HWq := hide (Below.step (unhide HWq) hb); replace HA := hide (Below.step (unhide HA) hb); replace HDq := hide ((unhide HDq).below hb); replace HMq := hide ((unhide HMq).below hb); replace HOW := hide (OwnV.step (unhide HOW) hb); have u0 := (unhide HOW).cell (i := 0) rfl; have u1 := (unhide HOW).cell (i := 1) rfl; have u2 := (unhide HOW).cell (i := 2) rfl; have u3 := (unhide HOW).cell (i := 3) rfl; clear hb) | (go_at_call 50; refine (unhide S2 _ (unhide HDq) (unhide HMq)).mono ?_; rintro e w4 ⟨rfl, hb⟩; replace HWq := hide (Below.step (unhide HWq) hb); replace HA := hide (Below.step (unhide HA) hb); replace HDq := hide ((unhide HDq).below hb); replace HMq := hide ((unhide HMq).below hb); replace HOW := hide (OwnV.step (unhide HOW) hb); have y0 := (unhide HOW).cell (i := 0) rfl; have y1 := (unhide HOW).cell (i := 1) rfl; have y2 := (unhide HOW).cell (i := 2) rfl; have y3 := (unhide HOW).cell (i := 3) rfl; clear hb) | (go_at_call 51; refine (unhide S3 _ (unhide HDq) (unhide HMq)).mono ?_; rintro e w5 ⟨rfl, hb⟩; replace HWq := hide (Below.step (unhide HWq) hb); replace HA := hide (Below.step (unhide HA) hb); replace HDq := hide ((unhide HDq).below hb); replace HMq := hide ((unhide HMq).below hb); replace HOW := hide (OwnV.step (unhide HOW) hb); have z0 := (unhide HOW).cell (i := 0) rfl; have z1 := (unhide HOW).cell (i := 1) rfl; have z2 := (unhide HOW).cell (i := 2) rfl; have z3 := (unhide HOW).cell (i := 3) rfl; clear hb))
      go_ret
      exact ⟨ret_bool (unhide HQ).symm, unhide HA⟩
    rw [h6] at S1 HNO HYES
    cases h7 : bearN s M k
    · rw [h7] at S2
      have HQ := hide (unhide HNO (by rw [h7]; rfl))
      clear HNO HYES
      go_wp2_with (first | (go_at_call 42; refine (unhide S1 _ (unhide HDq)).mono ?_; rintro e w3 ⟨rfl, hb⟩; replace HWq := hide (Below.step (unhide HWq) hb); replace HA := hide (Below.step (unhide HA) hb); replace HDq := hide ((unhide HDq).below hb); replace HMq := hide ((unhide HMq).below hb); replace HOW := hide (OwnV.step (unhide HOW) hb); have u0 := (unhide HOW).cell (i := 0) rfl; have u1 := (unhide HOW).cell (i := 1) rfl; have u2 := (unhide HOW).cell (i := 2) rfl; have u3 := (unhide HOW).cell (i := 3) rfl; clear hb) | (go_at_call 50; refine (unhide S2 _ (unhide HDq) (unhide HMq)).mono ?_; rintro e w4 ⟨rfl, hb⟩; replace HWq := hide (Below.step (unhide HWq) hb); replace HA := hide (Below.step (unhide HA) hb); replace HDq := hide ((unhide HDq).below hb); replace HMq := hide ((unhide HMq).below hb); replace HOW := hide (OwnV.step (unhide HOW) hb); have y0 := (unhide HOW).cell (i := 0) rfl; have y1 := (unhide HOW).cell (i := 1) rfl; have y2 := (unhide HOW).cell (i := 2) rfl; have y3 := (unhide HOW).cell (i := 3) rfl; clear hb) | (go_at_call 51; refine (unhide S3 _ (unhide HDq) (unhide HMq)).mono ?_; rintro e w5 ⟨rfl, hb⟩; replace HWq := hide (Below.step (unhide HWq) hb); replace HA := hide (Below.step (unhide HA) hb); replace HDq := hide ((unhide HDq).below hb); replace HMq := hide ((unhide HMq).below hb); replace HOW := hide (OwnV.step (unhide HOW) hb); have z0 := (unhide HOW).cell (i := 0) rfl; have z1 := (unhide HOW).cell (i := 1) rfl; have z2 := (unhide HOW).cell (i := 2) rfl; have z3 := (unhide HOW).cell (i := 3) rfl; clear hb))
      go_ret
      exact ⟨ret_bool (unhide HQ).symm, unhide HA⟩
    rw [h7] at S2 HNO HYES
    by_cases hkx : (k : Int) = (xi : Int)
    · have HS' := hide (unhide HYES (by rw [decide_eq_true hkx]; rfl))
      have dk : ((k : Int) != (xi : Int)) = false := by simp; omega
      have dk' : (k != xi) = false := by simp; omega
      have dk2 : ((k : Int) == (xi : Int)) = true := by simp; omega
      have dk3 : (k == xi) = true := by simp; omega
      clear HNO HYES hkx
      go_wp2_with (first | (go_at_call 42; refine (unhide S1 _ (unhide HDq)).mono ?_; rintro e w3 ⟨rfl, hb⟩; replace HWq := hide (Below.step (unhide HWq) hb); replace HA := hide (Below.step (unhide HA) hb); replace HDq := hide ((unhide HDq).below hb); replace HMq := hide ((unhide HMq).below hb); replace HOW := hide (OwnV.step (unhide HOW) hb); have u0 := (unhide HOW).cell (i := 0) rfl; have u1 := (unhide HOW).cell (i := 1) rfl; have u2 := (unhide HOW).cell (i := 2) rfl; have u3 := (unhide HOW).cell (i := 3) rfl; clear hb) | (go_at_call 50; refine (unhide S2 _ (unhide HDq) (unhide HMq)).mono ?_; rintro e w4 ⟨rfl, hb⟩; replace HWq := hide (Below.step (unhide HWq) hb); replace HA := hide (Below.step (unhide HA) hb); replace HDq := hide ((unhide HDq).below hb); replace HMq := hide ((unhide HMq).below hb); replace HOW := hide (OwnV.step (unhide HOW) hb); have y0 := (unhide HOW).cell (i := 0) rfl; have y1 := (unhide HOW).cell (i := 1) rfl; have y2 := (unhide HOW).cell (i := 2) rfl; have y3 := (unhide HOW).cell (i := 3) rfl; clear hb) | (go_at_call 51; refine (unhide S3 _ (unhide HDq) (unhide HMq)).mono ?_; rintro e w5 ⟨rfl, hb⟩; replace HWq := hide (Below.step (unhide HWq) hb); replace HA := hide (Below.step (unhide HA) hb); replace HDq := hide ((unhide HDq).below hb); replace HMq := hide ((unhide HMq).below hb); replace HOW := hide (OwnV.step (unhide HOW) hb); have z0 := (unhide HOW).cell (i := 0) rfl; have z1 := (unhide HOW).cell (i := 1) rfl; have z2 := (unhide HOW).cell (i := 2) rfl; have z3 := (unhide HOW).cell (i := 3) rfl; clear hb))
      go_roundg (s.D.length - (k + 1))
      case measure => omega
      case rel => exact ⟨unhide HWq, k + 1, by omega, rfl, by go_num, HS'⟩
    have dk : ((k : Int) != (xi : Int)) = true := by simp; omega
    have dk' : (k != xi) = true := by simp; omega
    have dk2 : ((k : Int) == (xi : Int)) = false := by simp; omega
    have dk3 : (k == xi) = false := by simp; omega
    rw [decide_eq_false hkx] at HNO HYES
    generalize cameOf s M k = cb at *
    by_cases h8 : cb = -1
    · have HQ := hide (unhide HNO (by rw [decide_eq_true h8]; rfl))
      subst h8
      clear HNO HYES
      go_wp2_with (first | (go_at_call 42; refine (unhide S1 _ (unhide HDq)).mono ?_; rintro e w3 ⟨rfl, hb⟩; replace HWq := hide (Below.step (unhide HWq) hb); replace HA := hide (Below.step (unhide HA) hb); replace HDq := hide ((unhide HDq).below hb); replace HMq := hide ((unhide HMq).below hb); replace HOW := hide (OwnV.step (unhide HOW) hb); have u0 := (unhide HOW).cell (i := 0) rfl; have u1 := (unhide HOW).cell (i := 1) rfl; have u2 := (unhide HOW).cell (i := 2) rfl; have u3 := (unhide HOW).cell (i := 3) rfl; clear hb) | (go_at_call 50; refine (unhide S2 _ (unhide HDq) (unhide HMq)).mono ?_; rintro e w4 ⟨rfl, hb⟩; replace HWq := hide (Below.step (unhide HWq) hb); replace HA := hide (Below.step (unhide HA) hb); replace HDq := hide ((unhide HDq).below hb); replace HMq := hide ((unhide HMq).below hb); replace HOW := hide (OwnV.step (unhide HOW) hb); have y0 := (unhide HOW).cell (i := 0) rfl; have y1 := (unhide HOW).cell (i := 1) rfl; have y2 := (unhide HOW).cell (i := 2) rfl; have y3 := (unhide HOW).cell (i := 3) rfl; clear hb) | (go_at_call 51; refine (unhide S3 _ (unhide HDq) (unhide HMq)).mono ?_; rintro e w5 ⟨rfl, hb⟩; replace HWq := hide (Below.step (unhide HWq) hb); replace HA := hide (Below.step (unhide HA) hb); replace HDq := hide ((unhide HDq).below hb); replace HMq := hide ((unhide HMq).below hb); replace HOW := hide (OwnV.step (unhide HOW) hb); have z0 := (unhide HOW).cell (i := 0) rfl; have z1 := (unhide HOW).cell (i := 1) rfl; have z2 := (unhide HOW).cell (i := 2) rfl; have z3 := (unhide HOW).cell (i := 3) rfl; clear hb))
      go_ret
      exact ⟨ret_bool (unhide HQ).symm, unhide HA⟩
    · have HS' := hide (unhide HYES (by rw [decide_eq_false h8]; rfl))
      have d8 : (cb == -1) = false := by simp; exact h8
      clear HNO HYES
      go_wp2_with (first | (go_at_call 42; refine (unhide S1 _ (unhide HDq)).mono ?_; rintro e w3 ⟨rfl, hb⟩; replace HWq := hide (Below.step (unhide HWq) hb); replace HA := hide (Below.step (unhide HA) hb); replace HDq := hide ((unhide HDq).below hb); replace HMq := hide ((unhide HMq).below hb); replace HOW := hide (OwnV.step (unhide HOW) hb); have u0 := (unhide HOW).cell (i := 0) rfl; have u1 := (unhide HOW).cell (i := 1) rfl; have u2 := (unhide HOW).cell (i := 2) rfl; have u3 := (unhide HOW).cell (i := 3) rfl; clear hb) | (go_at_call 50; refine (unhide S2 _ (unhide HDq) (unhide HMq)).mono ?_; rintro e w4 ⟨rfl, hb⟩; replace HWq := hide (Below.step (unhide HWq) hb); replace HA := hide (Below.step (unhide HA) hb); replace HDq := hide ((unhide HDq).below hb); replace HMq := hide ((unhide HMq).below hb); replace HOW := hide (OwnV.step (unhide HOW) hb); have y0 := (unhide HOW).cell (i := 0) rfl; have y1 := (unhide HOW).cell (i := 1) rfl; have y2 := (unhide HOW).cell (i := 2) rfl; have y3 := (unhide HOW).cell (i := 3) rfl; clear hb) | (go_at_call 51; refine (unhide S3 _ (unhide HDq) (unhide HMq)).mono ?_; rintro e w5 ⟨rfl, hb⟩; replace HWq := hide (Below.step (unhide HWq) hb); replace HA := hide (Below.step (unhide HA) hb); replace HDq := hide ((unhide HDq).below hb); replace HMq := hide ((unhide HMq).below hb); replace HOW := hide (OwnV.step (unhide HOW) hb); have z0 := (unhide HOW).cell (i := 0) rfl; have z1 := (unhide HOW).cell (i := 1) rfl; have z2 := (unhide HOW).cell (i := 2) rfl; have z3 := (unhide HOW).cell (i := 3) rfl; clear hb))
      go_roundg (s.D.length - (k + 1))
      case measure => omega
      case rel => exact ⟨unhide HWq, k + 1, by omega, rfl, by go_num, HS'⟩

end Go.Proofs.Ytahgblhmdhjahaa

/- Contract of the program's WayCost. Written by wip/mkimse2.py. -/
import Derived.Test.YtahgblhmdhjahaaImSe2
namespace Go.Proofs.Ytahgblhmdhjahaa
open Go.RowKit

set_option maxRecDepth 10000 in
set_option maxHeartbeats 16000000 in
theorem implWayCost_any (s : Se) (dao : Option Addr) (dn dc : Nat) (fao : Option Addr) (fn fc : Nat) (v : Value) (M : List Int) (w : World) (hD : IntsIn w (.slice dao dn dc) s.D) (hF : RClosed w (.slice fao fn fc) s.F) (hM : IntsIn w v M) :
    Calls Try.prog 18 #[vSea s.wd s.hg (.slice dao dn dc) (.slice fao fn fc), v] w fun e w' => e = .returned (.tuple #[.int .i64 (wayCost s M).1, .bool (wayCost s M).2]) ∧ Below w.heap.size w w' := by
  have A := Below.alloc1 w (.cells #[.int .i64 s.wd, .int .i64 s.hg, .slice dao dn dc, .slice fao fn fc] 27)
  have O := ownV_alloc w #[.int .i64 s.wd, .int .i64 s.hg, .slice dao dn dc, .slice fao fn fc] 27
  have HOK := hide (implSeaOk_any s dao dn dc fao fn fc _ (hD.below A) (hF.below A))
  have HD := hide hD
  obtain ⟨dao', dc', eD, hdl, hdm, hdc⟩ := hD
  obtain ⟨mao, mc, rfl, hml, hmm, hmc⟩ := hM
  simp only [Value.slice.injEq] at eD
  obtain ⟨rfl, rfl, rfl⟩ := eD
  unfold maxLen at hmm
  have HDC := hide hdc
  have HMC := hide hmc
  have HW := hide A
  have HO := hide O
  clear A O hdc hF hmc
  unfold vSea at HOK ⊢
  cases h1 : seaB s with
  | false =>
    have HN : Hid (wayCost s M = (0, false)) := wayCost_no (by unfold wayB way0B; rw [h1]; rfl)
    rw [h1] at HOK
    go_enter Try.func18, Try.ntmps18
    go_wp2_with fail
    refine (unhide HOK).mono ?_
    rintro e w1 ⟨rfl, hb⟩
    replace HW := hide (Below.step (unhide HW) hb)
    clear hb HOK
    go_wp2
    refine bodyPost_ret (v := .tuple #[.int .i64 0, .bool false]) (by simp [results, Try.results18, go_sem]) rfl ⟨by rw [unhide HN], unhide HW⟩
  | true =>
  rw [h1] at HOK
  have hn := seaB_n h1
  cases h2 : inB M.length 1 200 with
  | false =>
    have HN : Hid (wayCost s M = (0, false)) := wayCost_no (by unfold wayB way0B; rw [h1, h2]; rfl)
    clear hn
    go_enter Try.func18, Try.ntmps18
    go_wp2_with fail
    refine (unhide HOK).mono ?_
    rintro e w1 ⟨rfl, hb⟩
    replace HW := hide (Below.step (unhide HW) hb)
    clear hb HOK
    go_wp2_with (go_at_call 47; refine (within_any _ _ _ _).mono ?_; rintro e w' ⟨rfl, h9⟩; have h8 := h9.symm; subst h8; clear h9)
    refine bodyPost_ret (v := .tuple #[.int .i64 0, .bool false]) (by simp [results, Try.results18, go_sem]) rfl ⟨by rw [unhide HN], unhide HW⟩
  | true =>
  have H0 : Hid (way0B s M = true) := by show _ = _; unfold way0B; rw [h1, h2]; rfl
  obtain ⟨hm1, hm2⟩ := inB_true h2
  have hle := hn.le
  have HN := hide hn
  clear hn
  go_enter Try.func18, Try.ntmps18
  go_wp2_with fail
  refine (unhide HOK).mono ?_
  rintro e w1 ⟨rfl, hb⟩
  replace HW := hide (Below.step (unhide HW) hb)
  replace HO := hide (OwnV.step (unhide HO) hb)
  clear hb HOK
  go_wp2_with (go_at_call 47; refine (within_any _ _ _ _).mono ?_; rintro e w' ⟨rfl, h9⟩; have h8 := h9.symm; subst h8; clear h9)
  clear h1 h2
  go_loopg [6, 20] M.length (fun g sv i wr => Below w1.heap.size w1 wr ∧ ∃ k : Nat, k ≤ M.length ∧ g = M.length - k ∧ i = .int .i64 k ∧ sv = .int .i64 (wsum s M k) ∧ Hid (∀ r, r < k → stepB s M r = true))
  case atStart => exact ⟨Below.refl _ _, 0, Nat.zero_le _, rfl, rfl, rfl, fun r hr => by omega⟩
  case round =>
    obtain ⟨hWq, k, hk, rfl, rfl, rfl, HS⟩ := hrel
    have hA := Below.step (unhide HW) hWq
    by_cases hkn : k < M.length
    case neg =>
      have HY := hide (wayCost_yes (wayB_all (unhide H0) (fun r hr => unhide HS r (by omega))))
      have hki : ¬ (k : Int) < M.length := by omega
      have hkk : k = M.length := by omega
      have HA := hide hA
      clear HS hA hWq
      subst hkk
      go_wp2
      refine bodyPost_ret (v := .tuple #[.int .i64 (wsum s M M.length), .bool true]) (by simp [results, Try.results18, go_sem]) rfl ⟨by rw [unhide HY], unhide HA⟩
    have hO := OwnV.step (unhide HO) hWq
    obtain ⟨bm, om, rfl, hcm⟩ := unhide HMC k hkn
    have e0 := wcell3 hcm hA
    have b0 := hO.cell (i := 0) rfl
    have b1 := hO.cell (i := 1) rfl
    have b2 := hO.cell (i := 2) rfl
    have b3 := hO.cell (i := 3) rfl
    have hki : (k : Int) < M.length := by omega
    have HWq := hide hWq
    have HA := hide hA
    have HOW := hide hO
    have HDq := hide ((unhide HD).below hA)
    clear hcm hA hWq hO
    have S1 := hide fun V h => isSailed_any s (M.getD k 0) dao s.D.length dc (.slice fao fn fc) V (unhide HN) h
    unfold vSea at S1
    cases h3 : sailB s (M.getD k 0)
    · rw [h3] at S1
      have HNO := hide (wayCost_no (wayB_step hkn (by unfold sailB at h3; unfold stepB; rw [h3]; rfl)))
      clear HS h3
      generalize M.getD k 0 = pl at *
      go_wp2_with fail
      refine (unhide S1 _ (unhide HDq)).mono ?_
      rintro e w2 ⟨rfl, hb⟩
      replace HA := hide (Below.step (unhide HA) hb)
      clear hb
      go_wp2
      refine bodyPost_ret (v := .tuple #[.int .i64 0, .bool false]) (by simp [results, Try.results18, go_sem]) rfl ⟨by rw [unhide HNO], unhide HA⟩
    rw [h3] at S1
    have H3 := hide h3
    obtain ⟨pi, epi, hpi⟩ : ∃ p : Nat, M.getD k 0 = (p : Int) ∧ p < s.D.length := by
      unfold sailB onB at h3
      simp only [Bool.and_eq_true] at h3
      obtain ⟨a, b⟩ := inB_true h3.1
      exact ⟨(M.getD k 0).toNat, by omega, by omega⟩
    obtain ⟨bd, od, eda, hcd⟩ := unhide HDC pi hpi
    subst eda
    have e1 := wcell3 hcd (unhide HA)
    have hpiI : (pi : Int) < s.D.length := by omega
    have EC : Hid (costAt s (M.getD k 0) = s.D.getD pi 0) := by show _ = _; unfold costAt; rw [epi]; rfl
    have HCD : Hid (0 ≤ s.D.getD pi 0 ∧ s.D.getD pi 0 ≤ 1000) := by rw [← unhide EC]; exact cost_bd (unhide HN) _
    rw [epi] at S1 e0
    have EPI := hide epi
    generalize s.D.getD pi 0 = c at *
    clear hcd epi h3
    by_cases hk0 : k = 0
    · have HST : Hid (stepB s M k = true) := by have h := unhide H3; unfold sailB at h; show _ = _; unfold stepB; rw [h, decide_eq_true hk0]; rfl
      have HS' : Hid (∀ r, r < k + 1 → stepB s M r = true) := fun r hr => by
        by_cases e : r = k
        · rw [e]; exact unhide HST
        · exact unhide HS r (by omega)
      have ES : Hid (wsum s M (k + 1) = wsum s M k) := by show wsum s M k + (if k = 0 then 0 else _) = _; rw [if_pos hk0]; omega
      have d0 : ((k : Int) == 0) = true := by simp; omega
      have d1 : (k == 0) = true := by simp; omega
      clear HS hk0
      generalize wsum s M k = sk at *
      go_wp2_with fail
      refine (unhide S1 _ (unhide HDq)).mono ?_
      rintro e w2 ⟨rfl, hb⟩
      replace HWq := hide (Below.step (unhide HWq) hb)
      clear hb
      go_wp2
      go_roundg (M.length - (k + 1))
      case measure => omega
      case rel => exact ⟨unhide HWq, k + 1, by omega, rfl, by go_num, by rw [unhide ES], HS'⟩
    obtain ⟨j, ej⟩ : ∃ j, j = k - 1 := ⟨_, rfl⟩
    have hjk : j < k := by omega
    obtain ⟨pj, epj, hpj⟩ := step_on (unhide HS j hjk)
    obtain ⟨bm', om', em, hcm⟩ := unhide HMC j (by omega)
    simp only [Option.some.injEq, Addr.mk.injEq, and_true] at em
    obtain ⟨rfl, rfl⟩ := em
    have e2 := wcell3 hcm (unhide HA)
    rw [epj] at e2
    have hpjI : (pj : Int) < s.D.length := by omega
    have S2 := hide fun V h => neighbours_any s (pj : Int) (some ⟨bd, od, none⟩) s.D.length dc (.slice fao fn fc) V (unhide HN) h (by omega) hpjI
    unfold vSea at S2
    have HCN := hide (nbs_contains (unhide HN) (show (0 : Int) ≤ (pj : Int) by omega) hpjI (show (0 : Int) ≤ (pi : Int) by omega) hpiI)
    have i1 : IntKind.i64.wrap ((k : Int) - 1) = (j : Int) := by rw [IntKind.wrap_i64]; omega
    have hji : (j : Int) < M.length := by omega
    have d0 : ((k : Int) == 0) = false := by simp; omega
    have d1 : (k == 0) = false := by simp; omega
    have HJK := hide hk0
    have HSTEP : Hid (stepB s M k = nextB s.wd (pj : Int) (pi : Int)) := by have h := unhide H3; unfold sailB at h; show _ = _; unfold stepB; rw [h, ← ej, epj, unhide EPI, decide_eq_false hk0]; rfl
    clear hcm epj ej hk0
    go_wp2_with fail
    refine (unhide S1 _ (unhide HDq)).mono ?_
    rintro e w2 ⟨rfl, hb⟩
    have f0 := ((hb.cell (lt_of_cell b0)).trans b0)
    have f1 := ((hb.cell (lt_of_cell b1)).trans b1)
    have f2 := ((hb.cell (lt_of_cell b2)).trans b2)
    have f3 := ((hb.cell (lt_of_cell b3)).trans b3)
    have k1 := ((hb.cell (lt_of_cell e1)).trans e1)
    have k2 := ((hb.cell (lt_of_cell e2)).trans e2)
    replace HWq := hide (Below.step (unhide HWq) hb)
    replace HA := hide (Below.step (unhide HA) hb)
    replace HDq := hide ((unhide HDq).below hb)
    clear hb b0 b1 b2 b3 e0 e1 e2 S1
    have hbox := lt_of_cell f0
    have hbd := lt_of_cell k1
    cases h4 : nextB s.wd (pj : Int) (pi : Int)
    · rw [h4] at HCN HSTEP
      have HNO := hide (wayCost_no (wayB_step hkn (unhide HSTEP)))
      clear HS
      go_wp2_with fail
      go_region_held3 (fun w' => w'.cell? ⟨w.heap.size, 0, none⟩ = some (.int .i64 s.wd) ∧ w'.cell? ⟨w.heap.size, 1, none⟩ = some (.int .i64 s.hg) ∧ w'.cell? ⟨w.heap.size, 2, none⟩ = some (.slice (some ⟨bd, od, none⟩) s.D.length dc) ∧ w'.cell? ⟨w.heap.size, 3, none⟩ = some (.slice fao fn fc) ∧ w'.cell? ⟨bm, om + j, none⟩ = some (.int .i64 (pj : Int))) (go_keep) (first
        | (go_at_call 46; refine (unhide S2 _ (by first | exact unhide HDq | exact (unhide HDq).below ((Below.refl _ _).drew))).mono ?_; rintro e w3 ⟨a, n', cp, rfl, ho, hb⟩; have hb' : Below w2.heap.size w2 w3 := (by first | exact hb | exact ⟨hb.os, hb.tape, hb.output, hb.size, hb.block⟩); have HCON := hide (slContains_any _ _ (pi : Int) _ ho.intsIn); rw [unhide HCN] at HCON; have r0 := (hb'.cell (lt_of_cell f0)).trans f0; have r1 := (hb'.cell (lt_of_cell f1)).trans f1; have r2 := (hb'.cell (lt_of_cell f2)).trans f2; have r3 := (hb'.cell (lt_of_cell f3)).trans f3; have r4 := (hb'.cell (lt_of_cell k2)).trans k2; have m1 := (hb'.cell (lt_of_cell k1)).trans k1; replace HWq := hide (Below.step (unhide HWq) hb'); replace HA := hide (Below.step (unhide HA) hb'); clear hb hb' ho)
        | (go_at_call 53; refine (unhide HCON).mono ?_; rintro e w4 ⟨rfl, h9⟩; subst h9; have u0 := r0; have u1 := r1; have u2 := r2; have u3 := r3; have u4 := r4))
      go_wp2
      refine bodyPost_ret (v := .tuple #[.int .i64 0, .bool false]) (by simp [results, Try.results18, go_sem]) rfl ⟨by rw [unhide HNO], unhide HA⟩
    · rw [h4] at HCN HSTEP
      have HS' : Hid (∀ r, r < k + 1 → stepB s M r = true) := fun r hr => by
        by_cases e : r = k
        · rw [e]; exact unhide HSTEP
        · exact unhide HS r (by omega)
      have ES : Hid (wsum s M (k + 1) = wsum s M k + c) := by show wsum s M k + (if k = 0 then 0 else _) = _; rw [if_neg (unhide HJK), unhide EC]
      have hsb := wsum_bd (unhide HN) M k
      obtain ⟨hs0, hs1⟩ := hsb
      obtain ⟨hc0, hc1⟩ := unhide HCD
      clear HS
      generalize wsum s M k = sk at *
      have hq : IntKind.i64.wrap (sk + c) = sk + c := by rw [IntKind.wrap_i64]; omega
      go_wp2_with fail
      go_region_held3 (fun w' => w'.cell? ⟨w.heap.size, 0, none⟩ = some (.int .i64 s.wd) ∧ w'.cell? ⟨w.heap.size, 1, none⟩ = some (.int .i64 s.hg) ∧ w'.cell? ⟨w.heap.size, 2, none⟩ = some (.slice (some ⟨bd, od, none⟩) s.D.length dc) ∧ w'.cell? ⟨w.heap.size, 3, none⟩ = some (.slice fao fn fc) ∧ w'.cell? ⟨bm, om + j, none⟩ = some (.int .i64 (pj : Int))) (go_keep) (first
        | (go_at_call 46; refine (unhide S2 _ (by first | exact unhide HDq | exact (unhide HDq).below ((Below.refl _ _).drew))).mono ?_; rintro e w3 ⟨a, n', cp, rfl, ho, hb⟩; have hb' : Below w2.heap.size w2 w3 := (by first | exact hb | exact ⟨hb.os, hb.tape, hb.output, hb.size, hb.block⟩); have HCON := hide (slContains_any _ _ (pi : Int) _ ho.intsIn); rw [unhide HCN] at HCON; have r0 := (hb'.cell (lt_of_cell f0)).trans f0; have r1 := (hb'.cell (lt_of_cell f1)).trans f1; have r2 := (hb'.cell (lt_of_cell f2)).trans f2; have r3 := (hb'.cell (lt_of_cell f3)).trans f3; have r4 := (hb'.cell (lt_of_cell k2)).trans k2; have m1 := (hb'.cell (lt_of_cell k1)).trans k1; replace HWq := hide (Below.step (unhide HWq) hb'); replace HA := hide (Below.step (unhide HA) hb'); clear hb hb' ho)
        | (go_at_call 53; refine (unhide HCON).mono ?_; rintro e w4 ⟨rfl, h9⟩; subst h9; have u0 := r0; have u1 := r1; have u2 := r2; have u3 := r3; have u4 := r4))
      go_wp2
      go_roundg (M.length - (k + 1))
      case measure => omega
      case rel => exact ⟨unhide HWq, k + 1, by omega, rfl, by go_num, by rw [unhide ES], HS'⟩

end Go.Proofs.Ytahgblhmdhjahaa

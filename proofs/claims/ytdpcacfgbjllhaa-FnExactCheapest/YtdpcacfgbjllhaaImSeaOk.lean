/- Contracts of the program's isSpan, costsOk, shutOk and SeaOk. Written by wip/mksea.py. -/
import Derived.Test.YtdpcacfgbjllhaaSeB
namespace Go.Proofs.Ytdpcacfgbjllhaa
open Go.RowKit

theorem isSpan_any (x a b : Int) (w : World) : Calls Try.prog 60 #[.int .i64 x, .int .i64 a, .int .i64 b] w fun e w' => e = .returned (.bool (inB x 0 b && inB a x b)) ∧ w' = w := by
  cases h1 : inB x 0 b <;> cases h2 : inB a x b
  all_goals
    go_enter Try.func60, Try.ntmps60
    go_wp2_with (go_at_call 36; refine (within_any _ _ _ _).mono ?_; rintro e w' ⟨rfl, h9⟩; have h8 := h9.symm; subst h8; clear h9)
    go_ret
    exact ⟨rfl, rfl⟩

theorem clB_spans (x0 x1 x2 x3 x4 x5 : Int) : clB (x0, x1, x2, x3, x4, x5) = ((inB x0 0 11 && inB x2 x0 11) && (inB x1 0 11 && inB x3 x1 11) && (inB x4 0 1000000 && inB x5 x4 1000000)) := by
  rw [Bool.eq_iff_iff]
  simp only [clB, inB, Bool.and_eq_true, decide_eq_true_eq]
  omega

set_option maxRecDepth 10000 in
set_option maxHeartbeats 4000000 in
theorem costsOk_any (wd hg : Int) (D : List Int) (dao : Option Addr) (dn dc : Nat) (fv : Value) (w : World) (hD : IntsIn w (.slice dao dn dc) D) (hw0 : 1 ≤ wd) (hw1 : wd ≤ 12) (hh0 : 1 ≤ hg) (hh1 : hg ≤ 12) :
    Calls Try.prog 37 #[vSea wd hg (.slice dao dn dc) fv] w fun e w' => e = .returned (.bool (decide ((D.length : Int) = wd * hg) && D.all (fun d => inB d 0 1000))) ∧ Below w.heap.size w w' := by
  have A := Below.alloc1 w (.cells #[.int .i64 wd, .int .i64 hg, .slice dao dn dc, fv] 27)
  obtain ⟨dao', dc', eD, hdl, hdm, hdc⟩ := hD
  simp only [Value.slice.injEq] at eD
  obtain ⟨rfl, rfl, rfl⟩ := eD
  unfold maxLen at hdm
  have HDC := hide hdc
  have HW := hide A
  clear A hdc
  obtain ⟨p, ep⟩ : ∃ p, p = wd * hg := ⟨_, rfl⟩
  have hp : 1 ≤ p ∧ p ≤ 144 := by rw [ep]; exact mul_s12 hw0 hw1 hh0 hh1
  obtain ⟨hp0, hp1⟩ := hp
  have qp : IntKind.i64.wrap (wd * hg) = p := by rw [← ep, IntKind.wrap_i64]; omega
  rw [← ep]
  clear ep
  unfold vSea
  by_cases h3 : (D.length : Int) = p
  case neg =>
    have d3 : ((D.length : Int) != p) = true := by simp; exact h3
    have d3' : ((D.length : Int) == p) = false := by simp; exact h3
    rw [decide_eq_false h3, Bool.false_and]
    go_enter Try.func37, Try.ntmps37
    go_wp2
    go_ret
    exact ⟨rfl, unhide HW⟩
  have d3 : ((D.length : Int) != p) = false := by simp; exact h3
  have d3' : ((D.length : Int) == p) = true := by simp; exact h3
  rw [decide_eq_true h3, Bool.true_and]
  go_enter Try.func37, Try.ntmps37
  go_wp2
  obtain ⟨W0, eW⟩ : ∃ z, z = w.alloc (.cells #[.int .i64 wd, .int .i64 hg, .slice dao D.length dc, fv] 27) := ⟨_, rfl⟩
  rw [← eW] at HW ⊢
  clear eW d3 d3' qp
  go_loopg [17] D.length (fun g i wr => W0 = wr ∧ ∃ k : Nat, k ≤ D.length ∧ g = D.length - k ∧ i = .int .i64 k ∧ Hid (∀ r, r < k → inB (D.getD r 0) 0 1000 = true))
  case atStart => exact ⟨rfl, 0, Nat.zero_le _, rfl, rfl, fun r hr => by omega⟩
  case round =>
    obtain ⟨rfl, k, hk, rfl, rfl, HDD⟩ := hrel
    by_cases hkn : k < D.length
    · obtain ⟨b, o, rfl, hcell⟩ := unhide HDC k hkn
      have g0 := ((unhide HW).cell (lt_of_cell hcell)).trans hcell
      have hki : (k : Int) < D.length := by omega
      cases hin : inB (D.getD k 0) 0 1000 with
      | true =>
        have HD' : Hid (∀ r, r < k + 1 → inB (D.getD r 0) 0 1000 = true) := fun r hr => by
          by_cases e : r = k
          · subst e; exact hin
          · exact (unhide HDD) r (by omega)
        clear HDD hcell
        generalize D.getD k 0 = x at *
        go_wp2_with (go_at_call 36; refine (within_any _ _ _ _).mono ?_; rintro e w' ⟨rfl, h9⟩; have h8 := h9.symm; subst h8; clear h9)
        go_roundg (D.length - (k + 1))
        case measure => omega
        case rel => exact ⟨rfl, k + 1, by omega, rfl, by go_num, HD'⟩
      | false =>
        have HN := hide (all_false (p := fun d => inB d 0 1000) hkn hin)
        clear HDD hcell
        generalize D.getD k 0 = x at *
        go_wp2_with (go_at_call 36; refine (within_any _ _ _ _).mono ?_; rintro e w' ⟨rfl, h9⟩; have h8 := h9.symm; subst h8; clear h9)
        go_ret
        exact ⟨ret_bool (unhide HN).symm, unhide HW⟩
    · have HAD := hide (all_true (p := fun d => inB d 0 1000) (xs := D) (d := 0) (fun r hr => (unhide HDD) r (by omega)))
      have hki : ¬ (k : Int) < D.length := by omega
      clear HDD
      go_wp2
      go_ret
      exact ⟨ret_bool (unhide HAD).symm, unhide HW⟩

set_option maxRecDepth 10000 in
set_option maxHeartbeats 8000000 in
theorem shutOk_any (v : Value) (F : List ClosedT) (w : World) (h : RClosed w v F) :
    Calls Try.prog 38 #[v] w fun e w' => e = .returned (.bool (decide (F.length ≤ 10) && F.all clB)) ∧ Below w.heap.size w w' := by
  obtain ⟨ao, cap, rfl, hl, hm, hc⟩ := h
  unfold maxLen at hm
  have HFC := hide hc
  clear hc
  by_cases h4 : F.length ≤ 10
  case neg =>
    have h4i : (10 : Int) < F.length := by omega
    rw [decide_eq_false h4, Bool.false_and]
    go_enter Try.func38, Try.ntmps38
    go_wp2
    go_ret
    exact ⟨rfl, Below.refl _ _⟩
  have h4i : (F.length : Int) ≤ 10 := by omega
  rw [decide_eq_true h4, Bool.true_and]
  go_enter Try.func38, Try.ntmps38
  go_wp2
  go_loopg [10] F.length (fun g i wr => Below w.heap.size w wr ∧ ∃ k : Nat, k ≤ F.length ∧ g = F.length - k ∧ i = .int .i64 k ∧ Hid (∀ r, r < k → clB (F.getD r default) = true))
  case atStart => exact ⟨Below.refl _ _, 0, Nat.zero_le _, rfl, rfl, fun r hr => by omega⟩
  case round =>
    obtain ⟨hWq, k, hk, rfl, rfl, HFF⟩ := hrel
    by_cases hkn : k < F.length
    · obtain ⟨b, o, x0, x1, x2, x3, x4, x5, rfl, hc0, hc1, hc2, hc3, hc4, hc5, EX⟩ := recClosedAt (unhide HFC) hkn
      have g0 := wcell3 hc0 hWq
      have g1 := wcell3 hc1 hWq
      have g2 := wcell3 hc2 hWq
      have g3 := wcell3 hc3 hWq
      have g4 := wcell3 hc4 hWq
      have g5 := wcell3 hc5 hWq
      have HWA := hide (Below.step hWq (Below.alloc1 wr (.cells #[.int .i64 x0, .int .i64 x1, .int .i64 x2, .int .i64 x3, .int .i64 x4, .int .i64 x5] 87)))
      have hkF : (k : Int) < F.length := by omega
      have HNO : Hid (clB (x0, x1, x2, x3, x4, x5) = false → F.all clB = false) := fun h => all_false (xs := F) (p := clB) (d := default) (i := k) hkn (by rw [unhide EX]; exact h)
      have HYES : Hid (clB (x0, x1, x2, x3, x4, x5) = true → ∀ r, r < k + 1 → clB (F.getD r default) = true) := fun h r hr => by
        by_cases e : r = k
        · rw [e, unhide EX]; exact h
        · exact (unhide HFF) r (by omega)
      rw [clB_spans] at HNO HYES
      clear hc0 hc1 hc2 hc3 hc4 hc5 hWq EX HFF
      cases h1 : (inB x0 0 11 && inB x2 x0 11)
      · have HN := hide (unhide HNO (by rw [h1]; simp))
        clear HNO HYES
        go_wp2_with (go_at_call 60; refine (isSpan_any _ _ _ _).mono ?_; rintro e w' ⟨rfl, h9⟩; have h8 := h9.symm; subst h8; clear h9)
        go_ret
        exact ⟨ret_bool (unhide HN).symm, unhide HWA⟩
      cases h2 : (inB x1 0 11 && inB x3 x1 11)
      · have HN := hide (unhide HNO (by rw [h2]; simp))
        clear HNO HYES
        go_wp2_with (go_at_call 60; refine (isSpan_any _ _ _ _).mono ?_; rintro e w' ⟨rfl, h9⟩; have h8 := h9.symm; subst h8; clear h9)
        go_ret
        exact ⟨ret_bool (unhide HN).symm, unhide HWA⟩
      cases h3 : (inB x4 0 1000000 && inB x5 x4 1000000)
      · have HN := hide (unhide HNO (by rw [h3]; simp))
        clear HNO HYES
        go_wp2_with (go_at_call 60; refine (isSpan_any _ _ _ _).mono ?_; rintro e w' ⟨rfl, h9⟩; have h8 := h9.symm; subst h8; clear h9)
        go_ret
        exact ⟨ret_bool (unhide HN).symm, unhide HWA⟩
      have HFF := hide (unhide HYES (by rw [h1, h2, h3]; rfl))
      clear HNO HYES
      go_wp2_with (go_at_call 60; refine (isSpan_any _ _ _ _).mono ?_; rintro e w' ⟨rfl, h9⟩; have h8 := h9.symm; subst h8; clear h9)
      go_roundg (F.length - (k + 1))
      case measure => omega
      case rel => exact ⟨unhide HWA, k + 1, by omega, rfl, by go_num, HFF⟩
    · have HAF := hide (all_true (xs := F) (d := default) (p := clB) (fun r hr => unhide HFF r (by omega)))
      have hkF : ¬ (k : Int) < F.length := by omega
      have HA := hide hWq
      clear HFF hWq
      go_wp2
      go_ret
      exact ⟨ret_bool (unhide HAF).symm, unhide HA⟩

set_option maxRecDepth 10000 in
set_option maxHeartbeats 8000000 in
theorem implSeaOk_any (s : Se) (dao : Option Addr) (dn dc : Nat) (fao : Option Addr) (fn fc : Nat) (w : World) (hD : IntsIn w (.slice dao dn dc) s.D) (hF : RClosed w (.slice fao fn fc) s.F) :
    Calls Try.prog 9 #[vSea s.wd s.hg (.slice dao dn dc) (.slice fao fn fc)] w fun e w' => e = .returned (.bool (seaB s)) ∧ Below w.heap.size w w' := by
  obtain ⟨wd, hg, D, F⟩ := s
  dsimp only at hD hF ⊢
  have A := Below.alloc1 w (.cells #[.int .i64 wd, .int .i64 hg, .slice dao dn dc, .slice fao fn fc] 27)
  have O := ownV_alloc w #[.int .i64 wd, .int .i64 hg, .slice dao dn dc, .slice fao fn fc] 27
  have HD := hide (hD.below A)
  have HF := hide (hF.below A)
  have HW := hide A
  have HO := hide O
  clear A O hD hF
  obtain ⟨r, er⟩ : ∃ r, r = seaB ⟨wd, hg, D, F⟩ := ⟨_, rfl⟩
  rw [← er]
  have ER := hide er
  clear er
  unfold seaB sea0B at ER
  dsimp only at ER
  unfold vSea
  cases h1 : inB wd 1 12
  · have e1 : r = false := by rw [unhide ER, h1]; simp
    subst e1
    go_enter Try.func9, Try.ntmps9
    go_wp2_with (go_at_call 36; refine (within_any _ _ _ _).mono ?_; rintro e w' ⟨rfl, h9⟩; have h8 := h9.symm; subst h8; clear h9)
    go_ret
    exact ⟨rfl, unhide HW⟩
  cases h2 : inB hg 1 12
  · have e1 : r = false := by rw [unhide ER, h2]; simp
    subst e1
    go_enter Try.func9, Try.ntmps9
    go_wp2_with (go_at_call 36; refine (within_any _ _ _ _).mono ?_; rintro e w' ⟨rfl, h9⟩; have h8 := h9.symm; subst h8; clear h9)
    go_ret
    exact ⟨rfl, unhide HW⟩
  obtain ⟨hw0, hw1⟩ := inB_true h1
  obtain ⟨hh0, hh1⟩ := inB_true h2
  have HC := hide (costsOk_any wd hg D dao dn dc (.slice fao fn fc) _ (unhide HD) hw0 hw1 hh0 hh1)
  unfold vSea at HC
  rw [h1, h2] at ER
  cases h3 : (decide ((D.length : Int) = wd * hg) && D.all (fun d => inB d 0 1000)) with
  | false =>
    rw [h3] at HC
    have e1 : r = false := by
      rw [unhide ER]
      rw [Bool.and_eq_false_iff] at h3
      rcases h3 with h3 | h3 <;> rw [h3] <;> simp
    subst e1
    clear h3
    go_enter Try.func9, Try.ntmps9
    go_wp2_with (first | (go_at_call 36; refine (within_any _ _ _ _).mono ?_; rintro e w' ⟨rfl, h9⟩; have h8 := h9.symm; subst h8; clear h9) | (go_at_call 37; refine (unhide HC).mono ?_; rintro e w1 ⟨rfl, hb⟩; replace HW := hide (Below.step (unhide HW) hb); clear hb))
    go_ret
    exact ⟨rfl, unhide HW⟩
  | true =>
    rw [h3] at HC
    have e1 : r = (decide (F.length ≤ 10) && F.all clB) := by
      rw [unhide ER]
      rw [Bool.and_eq_true] at h3
      rw [h3.1, h3.2]
      simp
    clear ER h3
    have ES := hide e1
    clear e1
    have HS := hide fun V h => shutOk_any (.slice fao fn fc) F V h
    go_enter Try.func9, Try.ntmps9
    go_wp2_with (first | (go_at_call 36; refine (within_any _ _ _ _).mono ?_; rintro e w' ⟨rfl, h9⟩; have h8 := h9.symm; subst h8; clear h9) | (go_at_call 37; refine (unhide HC).mono ?_; rintro e w1 ⟨rfl, hb⟩; have c3 := OwnV.cell (OwnV.step (unhide HO) hb) (i := 3) rfl; replace HW := hide (Below.step (unhide HW) hb); replace HF := hide ((unhide HF).below hb); clear hb) | (go_at_call 38; refine (unhide HS _ (unhide HF)).mono ?_; rintro e w2 ⟨rfl, hb⟩; replace HW := hide (Below.step (unhide HW) hb); clear hb))
    go_ret
    exact ⟨ret_bool (by rw [unhide ES]), unhide HW⟩

end Go.Proofs.Ytdpcacfgbjllhaa

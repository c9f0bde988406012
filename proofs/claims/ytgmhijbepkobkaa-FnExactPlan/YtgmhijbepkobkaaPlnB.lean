/- The specification's Plan. Written by wip/mk20p.py. -/
import Derived.Test.YtgmhijbepkobkaaPlnA
namespace Go.Proofs.Ytgmhijbepkobkaa
open Go.RowKit

set_option maxRecDepth 100000 in
set_option maxHeartbeats 8000000 in
theorem specPlan_any (l m : Int) (w : World) :
    Calls Try.prog 33 #[.int .i64 l, .int .i64 m] w fun e w' => ∃ ao n cap, e = .returned (.tuple #[.slice ao n cap, .bool (plOk l m)]) ∧ OwnSl w.heap.size w' (.slice ao n cap) (plL l m) ∧ Below w.heap.size w w' := by
  have NIL : ∀ W gg, OwnSl w.heap.size W (.slice (some ⟨gg, 0, none⟩) 0 0) [] := fun W gg => ⟨_, 0, rfl, Nat.le_refl _, Nat.zero_le _, fun e => absurd rfl e⟩
  obtain ⟨V, eV⟩ : ∃ z, z = plOk l m := ⟨_, rfl⟩
  obtain ⟨M, eM⟩ : ∃ z, z = plL l m := ⟨_, rfl⟩
  have HBAD : Hid (plOk l m = false → V = false ∧ M = []) := by
    show _ → _
    intro hf
    refine ⟨eV.trans hf, ?_⟩
    rw [eM]; unfold plL; rw [hf]; rfl
  have HGOOD : Hid (plOk l m = true → V = true ∧ M = plK m l (plN m l)) := by
    show _ → _
    intro hf
    refine ⟨eV.trans hf, ?_⟩
    rw [eM]; unfold plL; rw [hf]; rfl
  rw [← eV, ← eM]
  clear eV eM
  have HW0 := hide (Below.alloc1 w (.cells #[] 3))
  cases h1 : inB l (-10000) 10000 with
  | false =>
    obtain ⟨rfl, rfl⟩ := unhide HBAD (by unfold plOk plIn; rw [h1]; rfl)
    go_enter Try.func33, Try.ntmps33
    go_wp2_with (go_at_call 57; refine (l1In_any _ _ _ _).mono ?_; rintro e w' ⟨rfl, h9⟩; have h8 := h9.symm; subst h8; clear h9)
    refine bodyPost_ret (v := .tuple #[.slice (some ⟨w.heap.size, 0, none⟩) 0 0, .bool false]) (by simp [results, Try.results33, go_sem]) rfl ⟨some ⟨w.heap.size, 0, none⟩, 0, 0, rfl, NIL _ _, unhide HW0⟩
  | true =>
  obtain ⟨l0, l1⟩ := inB_true h1
  have hll : -10000 ≤ l ∧ l ≤ 10000 := ⟨l0, l1⟩
  have hlw := tm_wrap l hll
  obtain ⟨rl, erl⟩ : ∃ z, z = l.tmod 2 := ⟨_, rfl⟩
  rw [← erl] at hlw
  have erl2 := erl.symm
  have HRL := hide erl
  clear erl
  cases h2 : (rl == 0) with
  | false =>
    have h2n : (rl != 0) = true := by simpa using h2
    obtain ⟨rfl, rfl⟩ := unhide HBAD (by unfold plOk plIn; rw [h1, ← unhide HRL, h2]; rfl)
    go_enter Try.func33, Try.ntmps33
    go_wp2_with (go_at_call 57; refine (l1In_any _ _ _ _).mono ?_; rintro e w' ⟨rfl, h9⟩; have h8 := h9.symm; subst h8; clear h9)
    refine bodyPost_ret (v := .tuple #[.slice (some ⟨w.heap.size, 0, none⟩) 0 0, .bool false]) (by simp [results, Try.results33, go_sem]) rfl ⟨some ⟨w.heap.size, 0, none⟩, 0, 0, rfl, NIL _ _, unhide HW0⟩
  | true =>
  have h2n : (rl != 0) = false := by simpa using h2
  cases h3 : inB m 2 1000 with
  | false =>
    obtain ⟨rfl, rfl⟩ := unhide HBAD (by unfold plOk plIn; rw [h1, h3]; simp)
    go_enter Try.func33, Try.ntmps33
    go_wp2_with (go_at_call 57; refine (l1In_any _ _ _ _).mono ?_; rintro e w' ⟨rfl, h9⟩; have h8 := h9.symm; subst h8; clear h9)
    refine bodyPost_ret (v := .tuple #[.slice (some ⟨w.heap.size, 0, none⟩) 0 0, .bool false]) (by simp [results, Try.results33, go_sem]) rfl ⟨some ⟨w.heap.size, 0, none⟩, 0, 0, rfl, NIL _ _, unhide HW0⟩
  | true =>
  obtain ⟨m0, m1⟩ := inB_true h3
  have hmm : -10000 ≤ m ∧ m ≤ 10000 := by omega
  have hmw := tm_wrap m hmm
  obtain ⟨rm, erm⟩ : ∃ z, z = m.tmod 2 := ⟨_, rfl⟩
  rw [← erm] at hmw
  have erm2 := erm.symm
  have HRM := hide erm
  clear erm
  cases h4 : (rm == 0) with
  | false =>
    have h4n : (rm != 0) = true := by simpa using h4
    obtain ⟨rfl, rfl⟩ := unhide HBAD (by unfold plOk plIn; rw [← unhide HRM, h4]; simp)
    go_enter Try.func33, Try.ntmps33
    go_wp2_with (go_at_call 57; refine (l1In_any _ _ _ _).mono ?_; rintro e w' ⟨rfl, h9⟩; have h8 := h9.symm; subst h8; clear h9)
    refine bodyPost_ret (v := .tuple #[.slice (some ⟨w.heap.size, 0, none⟩) 0 0, .bool false]) (by simp [results, Try.results33, go_sem]) rfl ⟨some ⟨w.heap.size, 0, none⟩, 0, 0, rfl, NIL _ _, unhide HW0⟩
  | true =>
  have h4n : (rm != 0) = false := by simpa using h4
  have HIN : Hid (plIn l m = true) := by show _ = _; unfold plIn; rw [h1, ← unhide HRL, h2, h3, ← unhide HRM, h4]; rfl
  have HR := hide (rowB_new 3 1 eI w w.heap.size (Nat.le_refl _))
  go_enter Try.func33, Try.ntmps33
  go_wp2_with (go_at_call 57; refine (l1In_any _ _ _ _).mono ?_; rintro e w' ⟨rfl, h9⟩; have h8 := h9.symm; subst h8; clear h9)
  clear h1 h2 h3 h4 h2n h4n hlw hmw erl2 erm2 HRL HRM
  have hNb := plN_bd m0 hll
  obtain ⟨W, eW⟩ : ∃ z, z = w.alloc (.cells #[] 3) := ⟨_, rfl⟩
  obtain ⟨gc, egc⟩ : ∃ z, z = w.heap.size := ⟨_, rfl⟩
  rw [← eW] at HR HW0 ⊢
  go_loopg [6, 7] (plN m l) (fun gh pv lv wr => ∃ (k : Nat) (ao : Option Addr) (cap : Nat), k ≤ plN m l ∧ gh = plN m l - k ∧ pv = .slice ao k cap ∧ lv = .int .i64 (lf m l k) ∧ Hid (RowB 3 1 eI w.heap.size wr ao k cap (plK m l k)) ∧ Hid (Below w.heap.size w wr))
  case atStart => exact ⟨0, some ⟨w.heap.size, 0, none⟩, 0, Nat.zero_le _, rfl, rfl, rfl, HR, HW0⟩
  case round =>
    clear HR HW0 eW egc
    obtain ⟨k, ao, cap, hk, rfl, rfl, rfl, HR, HW⟩ := hrel
    have hlt := lt_plN (l := l) m0 k
    have hbd := lf_bd m0 hll k
    have HKS := hide (plK_succ m l k)
    have HLS : Hid (lf m l (k + 1) = lf m l k - clp (lf m l k) m) := rfl
    obtain ⟨x, ex⟩ : ∃ z, z = lf m l k := ⟨_, rfl⟩
    rw [← ex] at hlt hbd HKS HLS ⊢
    obtain ⟨N, eN⟩ : ∃ z, z = plN m l := ⟨_, rfl⟩
    have HNN := hide eN
    rw [← eN] at hlt hk hNb HGOOD
    clear ex eN
    by_cases hx : x = 0
    · have hkN : k = N := by
        have : ¬ k < N := fun h => hlt.1 h hx
        omega
      subst hkN
      have hx0 : (x != 0) = false := by simp [hx]
      clear hlt
      by_cases hk38 : k ≤ 38
      · obtain ⟨rfl, rfl⟩ := unhide HGOOD (by unfold plOk; rw [unhide HIN, ← unhide HNN, decide_eq_true hk38]; rfl)
        have d38 : ¬ (38 : Int) < (k : Int) := by omega
        go_wp2
        refine bodyPost_ret (v := .tuple #[.slice ao k cap, .bool true]) (by simp [results, Try.results33, go_sem]) rfl ⟨ao, k, cap, rfl, row_ownSl (unhide HR) (Nat.le_refl _), unhide HW⟩
      · obtain ⟨rfl, rfl⟩ := unhide HBAD (by unfold plOk; rw [← unhide HNN, decide_eq_false hk38, Bool.and_false])
        have d38 : (38 : Int) < (k : Int) := by omega
        have HW9 := hide (Below.step (unhide HW) (Below.alloc1 wr (.cells #[] 3)))
        go_wp2
        refine bodyPost_ret (v := .tuple #[.slice (some ⟨wr.heap.size, 0, none⟩) 0 0, .bool false]) (by simp [results, Try.results33, go_sem]) rfl ⟨some ⟨wr.heap.size, 0, none⟩, 0, 0, rfl, NIL _ _, unhide HW9⟩
    · have hx0 : (x != 0) = true := by simp [hx]
      have hkN := hlt.2 hx
      clear hlt
      obtain ⟨c, ec⟩ : ∃ z, z = clp x m := ⟨_, rfl⟩
      rw [← ec] at HKS HLS
      have A1 := Below.alloc1 wr (.cells #[.int .i64 c] 3)
      have HG := hide (ownV_alloc wr #[.int .i64 c] 3)
      have HR2 := hide ((unhide HR).below A1)
      have HW2 := hide (Below.step (unhide HW) A1)
      have hBs := (unhide HW2).size
      have hcb : -1000 ≤ c ∧ c ≤ 1000 := by rw [ec]; unfold clp; split; omega; split <;> omega
      have HC := hide ec
      clear ec A1
      have FIN : Hid (∀ (W : World) (g' cap' : Nat), RowB 3 1 eI w.heap.size W (some ⟨g', 0, none⟩) (k + 1) cap' (plK m l k ++ [c]) → RowB 3 1 eI w.heap.size W (some ⟨g', 0, none⟩) (k + 1) cap' (plK m l (k + 1))) := fun W g' cap' h => by rw [unhide HKS]; exact h
      by_cases d1 : m < x
      · have hcm : c = m := by have := unhide HC; unfold clp at this; rw [if_pos d1] at this; exact this
        clear HC
        subst c
        have d2 : ¬ m < -m := by omega
        go_wp2_with (at_builtin; go_must (refine wpList_appRow tyI _ rfl (.tmp 43) (.tmp 45) rfl w.heap.size ao k cap (plK m l k) rfl (unhide HR2) hBs (by omega) wr.heap.size m 1 rfl (unhide HG) ?_); intro g' cap' w' hL hKp hBg hat; have HL2 := hide hL; have HKP := hide hKp; clear hL hKp hat hBg)
        have HW9 := hide ((unhide HW2).trans ((unhide HKP).below hBs (fun b e => by
          rcases (unhide HR2).parts (by omega) with ⟨e2, _⟩ | ⟨g9, e2, hB9, _⟩
          · rw [e2] at e; cases e
          · rw [e2] at e; simp only [Option.some.injEq, Addr.mk.injEq, and_true] at e; omega)))
        have hkP : k < plN m l := by rw [← unhide HNN]; exact hkN
        go_roundg (plN m l - (k + 1))
        case measure => omega
        case rel => exact ⟨k + 1, some ⟨g', 0, none⟩, cap', by omega, rfl, rfl, by rw [unhide HLS]; first | done | (congr 1; omega), hide (unhide FIN _ _ _ (unhide HL2)), HW9⟩
      · by_cases d2 : x < -m
        · have hcm : c = -m := by have := unhide HC; unfold clp at this; rw [if_neg d1, if_pos d2] at this; exact this
          clear HC
          subst c
          go_wp2_with (at_builtin; go_must (refine wpList_appRow tyI _ rfl (.tmp 43) (.tmp 45) rfl w.heap.size ao k cap (plK m l k) rfl (unhide HR2) hBs (by omega) wr.heap.size (-m) 1 rfl (unhide HG) ?_); intro g' cap' w' hL hKp hBg hat; have HL2 := hide hL; have HKP := hide hKp; clear hL hKp hat hBg)
          have HW9 := hide ((unhide HW2).trans ((unhide HKP).below hBs (fun b e => by
            rcases (unhide HR2).parts (by omega) with ⟨e2, _⟩ | ⟨g9, e2, hB9, _⟩
            · rw [e2] at e; cases e
            · rw [e2] at e; simp only [Option.some.injEq, Addr.mk.injEq, and_true] at e; omega)))
          have hkP : k < plN m l := by rw [← unhide HNN]; exact hkN
          go_roundg (plN m l - (k + 1))
          case measure => omega
          case rel => exact ⟨k + 1, some ⟨g', 0, none⟩, cap', by omega, rfl, rfl, by rw [unhide HLS]; first | done | (congr 1; omega), hide (unhide FIN _ _ _ (unhide HL2)), HW9⟩
        · have hcm : c = x := by have := unhide HC; unfold clp at this; rw [if_neg d1, if_neg d2] at this; exact this
          clear HC
          subst c
          go_wp2_with (at_builtin; go_must (refine wpList_appRow tyI _ rfl (.tmp 43) (.tmp 45) rfl w.heap.size ao k cap (plK m l k) rfl (unhide HR2) hBs (by omega) wr.heap.size x 1 rfl (unhide HG) ?_); intro g' cap' w' hL hKp hBg hat; have HL2 := hide hL; have HKP := hide hKp; clear hL hKp hat hBg)
          have HW9 := hide ((unhide HW2).trans ((unhide HKP).below hBs (fun b e => by
            rcases (unhide HR2).parts (by omega) with ⟨e2, _⟩ | ⟨g9, e2, hB9, _⟩
            · rw [e2] at e; cases e
            · rw [e2] at e; simp only [Option.some.injEq, Addr.mk.injEq, and_true] at e; omega)))
          have hkP : k < plN m l := by rw [← unhide HNN]; exact hkN
          go_roundg (plN m l - (k + 1))
          case measure => omega
          case rel => exact ⟨k + 1, some ⟨g', 0, none⟩, cap', by omega, rfl, rfl, by rw [unhide HLS]; first | done | (congr 1; omega), hide (unhide FIN _ _ _ (unhide HL2)), HW9⟩

end Go.Proofs.Ytgmhijbepkobkaa

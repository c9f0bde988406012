/- The contract of the program's pump. Written by wip/mkpump.py. -/
import Derived.Test.YtblkbonedgofiaaDoorEnP
import Derived.Test.YtblkbonedgofiaaDoorEnS3
import Derived.Test.YtblkbonedgofiaaDoorKept
import Derived.Deep.RegionWith
namespace Go.Proofs.YtblkbonedgofiaaDoor
open Go.RowKit

theorem fuCell {w : World} {g F : Nat} {L : List I2} (h : OwnV w g (recCells 2 e2 L)) (hF : F < L.length) : w.cell? ⟨g, F * 2, none⟩ = some (.int .i64 (hs L F)) ∧ w.cell? ⟨g, F * 2 + 1, none⟩ = some (.int .i64 (ms L F)) := by
  have h0 := h.cell (recCells_get (j := 0) hF (by omega))
  have h1 := h.cell (recCells_get (j := 1) hF (by omega))
  exact ⟨h0, h1⟩
theorem putH_own {w : World} {g F : Nat} {L : List I2} (h : OwnV w g (recCells 2 e2 L)) (hF : F < L.length) (x : Int) : OwnV (w.setCell ⟨g, F * 2, none⟩ (.int .i64 x)) g (recCells 2 e2 (putH L F x)) := by
  rw [← putH_cells L hF x]
  exact h.set _ _ (by rw [recCells_length]; omega)
theorem putH_hs {L : List I2} {i j : Nat} (h : i ≠ j) (x : Int) : hs (putH L i x) j = hs L j ∧ ms (putH L i x) j = ms L j := by
  have : (putH L i x).getD j default = L.getD j default := by simp [putH, List.getD, List.getElem?_set_ne h]
  unfold hs ms
  rw [this]
  exact ⟨rfl, rfl⟩
theorem pumpL_bad {L : List I2} {f t m : Int} (h : pumpC L f t m ≠ 0) : pumpL L f t m = L := if_neg h
theorem pumpC_one {L : List I2} {f t m : Int} (h : pumpOk1 L f t m = false) : pumpC L f t m = 1 := if_pos h
theorem errV_no {c : Int} (h : c ≠ 0) : errV c = .iface 75 (.int .i64 c) := if_neg h
theorem pgB_parts {n f t m : Int} (h : pgB n f t m = true) : -1 ≤ f ∧ f ≤ n - 1 ∧ -1 ≤ t ∧ t ≤ n - 1 ∧ f ≠ t ∧ 1 ≤ m ∧ m ≤ 1000000 := by
  unfold pgB inB at h
  simp only [Bool.and_eq_true, decide_eq_true_eq, bne_iff_ne, ne_eq] at h
  omega

set_option maxRecDepth 1000000 in
set_option maxHeartbeats 8000000 in
theorem pump_any (g cap : Nat) (L : List I2) (f t m : Int) (w : World) (hO : OwnV w g (recCells 2 e2 L)) (hl : L.length ≤ cap) (hm : cap ≤ maxLen) (hn : L.length ≤ 1048576) :
    Calls Tryd.prog 34 #[.slice (some ⟨g, 0, none⟩) L.length cap, v3 (f, t, m)] w fun e w' => e = .returned (errV (pumpC L f t m)) ∧ Kept (fun b => b = g) w w' ∧ OwnV w' g (recCells 2 e2 (pumpL L f t m)) := by
  have HR0 := hide hO
  have hgw := hO.lt
  have HB := hide (ownV_alloc w #[.int .i64 f, .int .i64 t, .int .i64 m] 37)
  have HW := hide (Below.alloc1 w (.cells #[.int .i64 f, .int .i64 t, .int .i64 m] 37))
  have HR := hide (hO.step (unhide HW))
  have HQ1 := hide fun V (hV : OwnV V g (recCells 2 e2 L)) => fuelsOk_any (.slice (some ⟨g, 0, none⟩) L.length cap) L V (OwnV.recsIn hV hl hm)
  have HQ2 := hide fun V => pumpOk_any (L.length : Int) f t m V (by omega) (by omega)
  unfold maxLen at hm
  unfold v3 at HQ2 ⊢
  have EOK : Hid (pumpOk1 L f t m = (fuB L && pgB L.length f t m)) := rfl
  have HFU : Hid (fuB L = true → Fu L) := fuB_iff.1
  have HPG : Hid (pgB L.length f t m = true → -1 ≤ f ∧ f ≤ (L.length : Int) - 1 ∧ -1 ≤ t ∧ t ≤ (L.length : Int) - 1 ∧ f ≠ t ∧ 1 ≤ m ∧ m ≤ 1000000) := pgB_parts
  clear hO
  generalize fuB L = fb at EOK HQ1 HFU
  generalize pgB L.length f t m = pb at EOK HQ2 HPG
  obtain ⟨gB, egB⟩ : ∃ b, b = w.heap.size := ⟨_, rfl⟩
  go_enter Tryd.func34, Tryd.ntmps34
  go_wp2_with fail
  refine (unhide HQ1 _ (unhide HR)).mono ?_
  rintro e w1 ⟨rfl, hb⟩
  replace HW := hide (Below.step (unhide HW) hb)
  replace HR := hide ((unhide HR).step hb)
  replace HB := hide ((unhide HB).step hb)
  rw [← egB] at HB ⊢
  have hge : w.heap.size ≤ gB := by omega
  have hgg : ¬ gB = g := by omega
  have hgg' : ¬ g = gB := fun e => hgg e.symm
  clear hb HQ1 egB
  cases fb with
  | false =>
    have HC : Hid (pumpC L f t m = 1) := pumpC_one (by rw [unhide EOK]; rfl)
    go_wp2
    go_ret
    refine ⟨by rw [unhide HC]; rfl, kept_of_below (unhide HW), ?_⟩
    rw [pumpL_bad (by rw [unhide HC]; omega)]
    exact unhide HR
  | true =>
    have c0 := (unhide HB).cell (i := 0) rfl
    have c1 := (unhide HB).cell (i := 1) rfl
    have c2 := (unhide HB).cell (i := 2) rfl
    go_wp2_with fail
    refine (unhide HQ2 _).mono ?_
    rintro e w2 ⟨rfl, hb⟩
    replace HW := hide (Below.step (unhide HW) hb)
    replace HR := hide ((unhide HR).step hb)
    replace HB := hide ((unhide HB).step hb)
    clear hb HQ2 c0 c1 c2
    cases pb with
    | false =>
      have HC : Hid (pumpC L f t m = 1) := pumpC_one (by rw [unhide EOK]; rfl)
      go_wp2
      go_ret
      refine ⟨by rw [unhide HC]; rfl, kept_of_below (unhide HW), ?_⟩
      rw [pumpL_bad (by rw [unhide HC]; omega)]
      exact unhide HR
    | true =>
      obtain ⟨hF1, hF2, hT1, hT2, hft, hm1, hm2⟩ := unhide HPG (by first | rfl | trivial)
      obtain ⟨h8, hgd⟩ := unhide HFU (by first | rfl | trivial)
      have HGD := hide hgd
      have HOK : Hid (pumpOk1 L f t m = true) := by show _ = _; rw [unhide EOK]; rfl
      have ECP : Hid (pumpC L f t m = if f ≠ -1 ∧ hs L f.toNat < m then 2 else if t ≠ -1 ∧ ms L t.toNat < hs L t.toNat + m then 3 else 0) := by show _ = _; rw [pumpC, unhide HOK, if_neg (by simp)]
      clear hgd HPG HFU EOK HOK
      have c0 := (unhide HB).cell (i := 0) rfl
      have c1 := (unhide HB).cell (i := 1) rfl
      have c2 := (unhide HB).cell (i := 2) rfl
      have hfz := hide fun i => (unhide HR).frozen i
      by_cases hf : f = -1
      · subst hf
        obtain ⟨T, rfl⟩ : ∃ z : Nat, t = (z : Int) := ⟨t.toNat, by omega⟩
        have hTL : T < L.length := by omega
        obtain ⟨xT, yT⟩ := fuCell (unhide HR) hTL
        have zT := (unhide HR).frozen (T * 2)
        obtain ⟨bT1, bT2, bT3⟩ := unhide HGD T hTL
        have hTi : (T : Int) < L.length := by omega
        have nT : ((T : Int) != -1) = true := bne_iff_ne.2 (by omega)
        rw [show (T : Int).toNat = T from rfl] at ECP
        have HLST : Hid (pumpC L (-1) (T : Int) m = 0 → pumpL L (-1) (T : Int) m = putH (L) T (hs L T + m)) := fun hc => by
          unfold pumpL
          rw [if_pos hc]
          unfold giveT
          rw [if_neg (show ¬ (T : Int) = -1 by omega)]
          unfold takeF
          rw [if_pos (show (-1 : Int) = -1 from rfl)]
          rfl
        have HO2 := hide fun V (hV : OwnV V g (recCells 2 e2 (L))) => putH_own hV (show T < (L).length by exact hTL) (hs L T + m)
        generalize hs L T = hT at *
        generalize ms L T = mT at *
        clear HGD
        rw [if_neg (fun h => h.1 rfl)] at ECP
        by_cases hov : mT < hT + m
        · have HC : Hid (pumpC L (-1) (T : Int) m = 3) := by show _ = _; rw [unhide ECP, if_pos ⟨by omega, hov⟩]
          have d2 : decide (mT < hT + m) = true := decide_eq_true hov
          go_wp2
          go_quiet (fail)
          go_wp2
          go_quiet (fail)
          go_wp2
          go_ret
          refine ⟨by rw [unhide HC]; rfl, kept_of_below (below_drewN (unhide HW) _), ?_⟩
          rw [pumpL_bad (by rw [unhide HC]; omega)]
          exact unhide HR
        have d2 : decide (mT < hT + m) = false := decide_eq_false hov
        rw [if_neg (fun h => hov h.2)] at ECP
        have HC := ECP
        have HL := hide (unhide HLST (unhide HC))
        clear ECP HLST
        go_wp2
        go_quiet (fail)
        go_wp2
        go_quiet (fail)
        go_wp2
        go_region
        all_goals
          go_wp2
          go_ret
          refine ⟨by rw [unhide HC]; rfl, ?_, ?_⟩
          · first | exact (Kept.setCell (T := fun b => b = g) (p := ⟨g, T * 2, none⟩) (kept_of_below (below_drewN (unhide HW) _)) rfl _) | exact Kept.trans (Kept.setCell (T := fun b => b = g) (p := ⟨g, T * 2, none⟩) (kept_of_below (below_drewN (unhide HW) _)) rfl _) (kept_of_below (Below.refl _ _).drew)
          · rw [unhide HL]
            first | exact (unhide HO2 _ (unhide HR)) | exact OwnV.step (unhide HO2 _ (unhide HR)) (Below.refl _ _).drew
      · obtain ⟨F, rfl⟩ : ∃ z : Nat, f = (z : Int) := ⟨f.toNat, by omega⟩
        by_cases ht : t = -1
        · subst ht
          have hFL : F < L.length := by omega
          obtain ⟨xF, yF⟩ := fuCell (unhide HR) hFL
          have zF := (unhide HR).frozen (F * 2)
          obtain ⟨bF1, bF2, bF3⟩ := unhide HGD F hFL
          have hFi : (F : Int) < L.length := by omega
          have nF : ((F : Int) != -1) = true := bne_iff_ne.2 (by omega)
          rw [show (F : Int).toNat = F from rfl] at ECP
          have HLST : Hid (pumpC L (F : Int) (-1) m = 0 → pumpL L (F : Int) (-1) m = putH L F (hs L F - m)) := fun hc => by
            unfold pumpL
            rw [if_pos hc]
            unfold giveT
            rw [if_pos (show (-1 : Int) = -1 from rfl)]
            unfold takeF
            rw [if_neg (show ¬ (F : Int) = -1 by omega)]
            rfl
          have HO1 := hide fun V (hV : OwnV V g (recCells 2 e2 L)) => putH_own hV hFL (hs L F - m)
          generalize hs L F = hF at *
          generalize ms L F = mF at *
          clear HGD
          by_cases hdry : hF < m
          · have HC : Hid (pumpC L (F : Int) (-1) m = 2) := by show _ = _; rw [unhide ECP, if_pos ⟨by omega, hdry⟩]
            have d1 : decide (hF < m) = true := decide_eq_true hdry
            go_wp2
            go_quiet (fail)
            go_wp2
            go_ret
            refine ⟨by rw [unhide HC]; rfl, kept_of_below (below_drewN (unhide HW) _), ?_⟩
            rw [pumpL_bad (by rw [unhide HC]; omega)]
            exact unhide HR
          have d1 : decide (hF < m) = false := decide_eq_false hdry
          rw [if_neg (fun h => hdry h.2)] at ECP
          rw [if_neg (fun h => h.1 rfl)] at ECP
          have HC := ECP
          have HL := hide (unhide HLST (unhide HC))
          clear ECP HLST
          go_wp2
          go_quiet (fail)
          go_wp2
          go_quiet (fail)
          go_wp2
          go_region
          all_goals
            go_wp2
            go_ret
            refine ⟨by rw [unhide HC]; rfl, ?_, ?_⟩
            · first | exact (Kept.setCell (T := fun b => b = g) (p := ⟨g, F * 2, none⟩) (kept_of_below (below_drewN (unhide HW) _)) rfl _) | exact Kept.trans (Kept.setCell (T := fun b => b = g) (p := ⟨g, F * 2, none⟩) (kept_of_below (below_drewN (unhide HW) _)) rfl _) (kept_of_below (Below.refl _ _).drew)
            · rw [unhide HL]
              first | exact (unhide HO1 _ (unhide HR)) | exact OwnV.step (unhide HO1 _ (unhide HR)) (Below.refl _ _).drew
        · obtain ⟨T, rfl⟩ : ∃ z : Nat, t = (z : Int) := ⟨t.toNat, by omega⟩
          have hFL : F < L.length := by omega
          obtain ⟨xF, yF⟩ := fuCell (unhide HR) hFL
          have zF := (unhide HR).frozen (F * 2)
          obtain ⟨bF1, bF2, bF3⟩ := unhide HGD F hFL
          have hFi : (F : Int) < L.length := by omega
          have nF : ((F : Int) != -1) = true := bne_iff_ne.2 (by omega)
          have hTL : T < L.length := by omega
          obtain ⟨xT, yT⟩ := fuCell (unhide HR) hTL
          have zT := (unhide HR).frozen (T * 2)
          obtain ⟨bT1, bT2, bT3⟩ := unhide HGD T hTL
          have hTi : (T : Int) < L.length := by omega
          have nT : ((T : Int) != -1) = true := bne_iff_ne.2 (by omega)
          have hFT : F ≠ T := fun e => hft (by rw [e])
          have hFT2 : ¬ F * 2 = T * 2 := by omega
          have hFT3 : ¬ T * 2 = F * 2 := by omega
          have hFT4 : ¬ T * 2 + 1 = F * 2 := by omega
          have hFT5 : ¬ F * 2 = T * 2 + 1 := by omega
          have HE := hide (putH_hs (L := L) hFT (hs L F - m))
          rw [show (F : Int).toNat = F from rfl, show (T : Int).toNat = T from rfl] at ECP
          have HLST : Hid (pumpC L (F : Int) (T : Int) m = 0 → pumpL L (F : Int) (T : Int) m = putH (putH L F (hs L F - m)) T (hs L T + m)) := fun hc => by
            unfold pumpL
            rw [if_pos hc]
            unfold giveT
            rw [if_neg (show ¬ (T : Int) = -1 by omega)]
            unfold takeF
            rw [if_neg (show ¬ (F : Int) = -1 by omega)]
            show putH (putH L F (hs L F - m)) T (hs (putH L F (hs L F - m)) T + m) = _
            rw [(unhide HE).1]
          have HO1 := hide fun V (hV : OwnV V g (recCells 2 e2 L)) => putH_own hV hFL (hs L F - m)
          have HO2 := hide fun V (hV : OwnV V g (recCells 2 e2 (putH L F (hs L F - m)))) => putH_own hV (show T < (putH L F (hs L F - m)).length by rw [putH_len]; exact hTL) (hs L T + m)
          generalize hs L F = hF at *
          generalize ms L F = mF at *
          generalize hs L T = hT at *
          generalize ms L T = mT at *
          clear HGD
          by_cases hdry : hF < m
          · have HC : Hid (pumpC L (F : Int) (T : Int) m = 2) := by show _ = _; rw [unhide ECP, if_pos ⟨by omega, hdry⟩]
            have d1 : decide (hF < m) = true := decide_eq_true hdry
            go_wp2
            go_quiet (fail)
            go_wp2
            go_ret
            refine ⟨by rw [unhide HC]; rfl, kept_of_below (below_drewN (unhide HW) _), ?_⟩
            rw [pumpL_bad (by rw [unhide HC]; omega)]
            exact unhide HR
          have d1 : decide (hF < m) = false := decide_eq_false hdry
          rw [if_neg (fun h => hdry h.2)] at ECP
          by_cases hov : mT < hT + m
          · have HC : Hid (pumpC L (F : Int) (T : Int) m = 3) := by show _ = _; rw [unhide ECP, if_pos ⟨by omega, hov⟩]
            have d2 : decide (mT < hT + m) = true := decide_eq_true hov
            go_wp2
            go_quiet (fail)
            go_wp2
            go_quiet (fail)
            go_wp2
            go_ret
            refine ⟨by rw [unhide HC]; rfl, kept_of_below (below_drewN (unhide HW) _), ?_⟩
            rw [pumpL_bad (by rw [unhide HC]; omega)]
            exact unhide HR
          have d2 : decide (mT < hT + m) = false := decide_eq_false hov
          rw [if_neg (fun h => hov h.2)] at ECP
          have HC := ECP
          have HL := hide (unhide HLST (unhide HC))
          clear ECP HLST
          go_wp2
          go_quiet (fail)
          go_wp2
          go_quiet (fail)
          go_wp2
          go_region
          all_goals
            go_wp2
            go_region
            all_goals
              go_wp2
              go_ret
              refine ⟨by rw [unhide HC]; rfl, ?_, ?_⟩
              · first | exact (Kept.setCell (T := fun b => b = g) (p := ⟨g, T * 2, none⟩) (Kept.setCell (T := fun b => b = g) (p := ⟨g, F * 2, none⟩) (kept_of_below (below_drewN (unhide HW) _)) rfl _) rfl _) | exact Kept.trans (Kept.setCell (T := fun b => b = g) (p := ⟨g, T * 2, none⟩) (Kept.setCell (T := fun b => b = g) (p := ⟨g, F * 2, none⟩) (kept_of_below (below_drewN (unhide HW) _)) rfl _) rfl _) (kept_of_below (Below.refl _ _).drew)
              · rw [unhide HL]
                first | exact (unhide HO2 _ (unhide HO1 _ (unhide HR))) | exact OwnV.step (unhide HO2 _ (unhide HO1 _ (unhide HR))) (Below.refl _ _).drew

end Go.Proofs.YtblkbonedgofiaaDoor

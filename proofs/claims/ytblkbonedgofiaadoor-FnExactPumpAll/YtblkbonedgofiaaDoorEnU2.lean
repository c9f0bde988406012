/- The contract of the specification's Pumped. Written by wip/mkpump2.py. -/
import Derived.Test.YtblkbonedgofiaaDoorEnU
import Derived.Test.YtblkbonedgofiaaDoorApW
namespace Go.Proofs.YtblkbonedgofiaaDoor
open Go.RowKit

theorem ownsRow_fu {w : World} {base : Nat} {e : TypeId} {g n cap : Nat} {L : List I2} (h : w.ownsRow base e 2 (.slice (some ⟨g, 0, none⟩) n cap) n (recCells 2 e2 L)) : OwnV w g (recCells 2 e2 L) ∧ base ≤ g ∧ n ≤ cap ∧ cap ≤ maxLen := by
  obtain ⟨h1, h2⟩ := h
  rcases h2 with ⟨e, h0⟩ | ⟨g', cap', cur, e, hg, hh, hc, hm, hs, ht⟩
  · cases e
  · simp only [Value.slice.injEq, Option.some.injEq, Addr.mk.injEq, and_true, true_and] at e
    obtain ⟨rfl, rfl⟩ := e
    refine ⟨⟨cur, _, hh, fun i hi => ?_⟩, hg, hc, hm⟩
    rw [recCells_length] at hi
    rw [← ht]
    have : i < n * 2 := by have := congrArg List.length ht; simp [recCells_length] at this; omega
    simp [this]
theorem fu_one (L : List I2) : ∀ v ∈ recCells 2 e2 L, v.oneCell' = true := fun v hv => by
  obtain ⟨q, _, rfl⟩ := List.mem_map.1 hv
  have : q % 2 = 0 ∨ q % 2 = 1 := by omega
  rcases this with e | e <;> rw [e] <;> rfl
theorem pgB_of {n f t m : Int} : pgB n f t m = (inB f (-1) (n - 1) && inB t (-1) (n - 1) && (f != t) && inB m 1 1000000) := rfl

set_option maxRecDepth 1000000 in
set_option maxHeartbeats 8000000 in
theorem specPumped_any (v : Value) (L : List I2) (f t m : Int) (w : World) (h : R2 w v L) (hn : L.length ≤ 1048576) :
    Calls Tryd.prog 12 #[v, v3 (f, t, m)] w fun e w' => ∃ a n cp, e = .returned (.tuple #[.slice a n cp, .int .i64 (pumpC L f t m)]) ∧ OwnFu w.heap.size w' (.slice a n cp) (pumpL L f t m) ∧ Below w.heap.size w w' := by
  have HV := hide h
  obtain ⟨ao, cap, rfl, hl, hm, hc⟩ := h
  unfold maxLen at hm
  clear hc
  obtain ⟨i1, hi', hy0, hy1, hy2⟩ := info_parts Tryd.infoFuel
  have HW := hide (Below.alloc1 w (.cells #[.int .i64 f, .int .i64 t, .int .i64 m] 37))
  have HB := hide (ownV_alloc w #[.int .i64 f, .int .i64 t, .int .i64 m] 37)
  have hs1 : (w.alloc (.cells #[.int .i64 f, .int .i64 t, .int .i64 m] 37)).heap.size = w.heap.size + 1 := by simp
  have HM := hide (World.ownsRow_made (base := w.heap.size + 1) (e := 32) (size := 2) (w.alloc (.cells #[.int .i64 f, .int .i64 t, .int .i64 m] 37)) #[] 0 (by simp) (Nat.zero_le _) (by simp))
  rw [hs1] at HM
  have HA := hide (Below.step (unhide HW) (Below.alloc1 (w.alloc (.cells #[.int .i64 f, .int .i64 t, .int .i64 m] 37)) (.cells #[] 32)))
  replace HB := hide ((unhide HB).step (Below.alloc1 (w.alloc (.cells #[.int .i64 f, .int .i64 t, .int .i64 m] 37)) (.cells #[] 32)))
  have hs2 : ((w.alloc (.cells #[.int .i64 f, .int .i64 t, .int .i64 m] 37)).alloc (.cells #[] 32)).heap.size = w.heap.size + 1 + 1 := by simp
  obtain ⟨W2, eW2⟩ : ∃ z, z = (w.alloc (.cells #[.int .i64 f, .int .i64 t, .int .i64 m] 37)).alloc (.cells #[] 32) := ⟨_, rfl⟩
  rw [← eW2] at HM HA HB hs2
  have EW := hide eW2
  clear eW2 hs1 HW
  have HSR := hide (recs_src ((unhide HV).below (unhide HA)))
  have HQ1 := hide fun V (hV : Below w.heap.size w V) => l10Fuels_any _ L V ((unhide HV).below hV)
  have QF := hide fun V => l1In_any f (-1) ((L.length : Int) - 1) V
  have QT := hide fun V => l1In_any t (-1) ((L.length : Int) - 1) V
  have QM := hide fun V => l1In_any m 1 1000000 V
  have EOK : Hid (pumpOk1 L f t m = (fuB L && (inB f (-1) ((L.length : Int) - 1) && inB t (-1) ((L.length : Int) - 1) && (f != t) && inB m 1 1000000))) := rfl
  have HFU : Hid (fuB L = true → Fu L) := fuB_iff.1
  have HPG : Hid (inB f (-1) ((L.length : Int) - 1) = true → inB t (-1) ((L.length : Int) - 1) = true → (f != t) = true → inB m 1 1000000 = true → -1 ≤ f ∧ f ≤ (L.length : Int) - 1 ∧ -1 ≤ t ∧ t ≤ (L.length : Int) - 1 ∧ f ≠ t ∧ 1 ≤ m ∧ m ≤ 1000000) := fun a b c d => pgB_parts (by rw [pgB_of, a, b, c, d]; rfl)
  generalize fuB L = fb at EOK HQ1 HFU
  generalize inB f (-1) ((L.length : Int) - 1) = bf at EOK QF HPG
  generalize inB t (-1) ((L.length : Int) - 1) = bt at EOK QT HPG
  generalize inB m 1 1000000 = bm at EOK QM HPG
  unfold v3
  go_enter Tryd.func12, Tryd.ntmps12
  go_upto_region 2 with (at_builtin; refine wpList_append_whole rfl _ _ 24 rfl (w.heap.size + 1) 32 i1 _ 2 16 Tryd.underlying24 hi' hy0 hy1 hy2 rfl (by decide) (w.heap.size + 1) rfl (by rw [← unhide EW]; exact unhide HM) ao L.length cap (recCells 2 e2 L) rfl recCells_length (by rw [← unhide EW]; exact fun h => unhide HSR (by omega)) (fu_one L) (by unfold maxLen; omega) (by omega) (by rw [← unhide EW]; omega) ?_; intro g cap1 wa hown hgrow hat; rw [← unhide EW] at hgrow; have hb1 := (unhide HA).grown hgrow (by omega) (fun g hg => by simp at hg; omega); have hb2 : Below (w.heap.size + 1) W2 wa := (Below.refl (w.heap.size + 1) W2).grown hgrow (by omega) (fun g hg => by simp at hg; omega); obtain ⟨how, hge, hcc, hcm⟩ := ownsRow_fu hown; have HR := hide how; have HW := hide hb1; replace HB := hide ((unhide HB).below hb2 (by omega)); clear hown hgrow hat hb1 hb2 how HA HM HSR EW hs2)
  obtain ⟨gB, egB⟩ : ∃ b, b = w.heap.size := ⟨_, rfl⟩
  have hwg : w.heap.size ≤ g := by omega
  have hgg : ¬ gB = g := by omega
  have hgg' : ¬ g = gB := fun e => hgg e.symm
  rw [← egB] at HB
  rw [show (Value.pointer (some ⟨w.heap.size, 0, none⟩)) = Value.pointer (some ⟨gB, 0, none⟩) by rw [egB]]
  have HBAD : Hid (pumpOk1 L f t m = false → ∀ V, Below w.heap.size w V → OwnV V g (recCells 2 e2 L) → (∃ a n cp, Ending.returned (.tuple #[.slice (some ⟨g, 0, none⟩) L.length cap1, .int .i64 1]) = .returned (.tuple #[.slice a n cp, .int .i64 (pumpC L f t m)]) ∧ OwnFu w.heap.size V (.slice a n cp) (pumpL L f t m) ∧ Below w.heap.size w V)) := fun h V hV hR => by
    have e1 := pumpC_one h
    exact ⟨_, _, _, by rw [e1], by rw [pumpL_bad (by rw [e1]; omega)]; exact ownFu_of rfl hR hwg hcc hcm, hV⟩
  have HEND : Hid (∀ c M, pumpC L f t m = c → pumpL L f t m = M → ∀ V, Below w.heap.size w V → OwnV V g (recCells 2 e2 M) → M.length = L.length → (∃ a n cp, Ending.returned (.tuple #[.slice (some ⟨g, 0, none⟩) L.length cap1, .int .i64 c]) = .returned (.tuple #[.slice a n cp, .int .i64 (pumpC L f t m)]) ∧ OwnFu w.heap.size V (.slice a n cp) (pumpL L f t m) ∧ Below w.heap.size w V)) := fun c M h1 h2 V hV hR hl => by
    exact ⟨_, _, _, by rw [h1], by rw [h2]; exact ownFu_of hl.symm hR hwg (by rw [hl]; exact hcc) hcm, hV⟩
  clear egB hi' hy0 hy1 hy2
  have q0 : IntKind.i64.wrap ((L.length : Int) - 1) = (L.length : Int) - 1 := by rw [IntKind.wrap_i64]; omega
  go_wp2_with fail
  refine (unhide HQ1 _ (unhide HW)).mono ?_
  rintro e w1 ⟨rfl, hb⟩
  replace HW := hide (Below.step (unhide HW) hb)
  replace HR := hide ((unhide HR).step hb)
  replace HB := hide ((unhide HB).step hb)
  have c0 := (unhide HB).cell (i := 0) rfl
  have c1 := (unhide HB).cell (i := 1) rfl
  have c2 := (unhide HB).cell (i := 2) rfl
  clear hb HQ1
  cases fb with
  | false =>
    go_wp2
    refine bodyPost_ret (v := .tuple #[.slice (some ⟨g, 0, none⟩) L.length cap1, .int .i64 1]) (by simp [results, Tryd.results12, go_sem]) rfl ?_
    exact unhide HBAD (by rw [unhide EOK]; rfl) _ (unhide HW) (unhide HR)
  | true =>
  go_wp2_with fail
  refine (unhide QF _).mono ?_
  rintro e w9 ⟨rfl, h9⟩
  have h8 := h9.symm
  subst h8
  clear h9
  cases bf with
  | false =>
    go_wp2
    refine bodyPost_ret (v := .tuple #[.slice (some ⟨g, 0, none⟩) L.length cap1, .int .i64 1]) (by simp [results, Tryd.results12, go_sem]) rfl ?_
    exact unhide HBAD (by rw [unhide EOK]; rfl) _ (unhide HW) (unhide HR)
  | true =>
  go_wp2_with fail
  refine (unhide QT _).mono ?_
  rintro e w9 ⟨rfl, h9⟩
  have h8 := h9.symm
  subst h8
  clear h9
  cases bt with
  | false =>
    go_wp2
    refine bodyPost_ret (v := .tuple #[.slice (some ⟨g, 0, none⟩) L.length cap1, .int .i64 1]) (by simp [results, Tryd.results12, go_sem]) rfl ?_
    exact unhide HBAD (by rw [unhide EOK]; rfl) _ (unhide HW) (unhide HR)
  | true =>
  cases hne : f != t with
  | false =>
    have hEQ : (f == t) = true := by cases h : f == t with
      | true => rfl
      | false => simp [bne, h] at hne
    rw [hne] at EOK
    go_wp2
    refine bodyPost_ret (v := .tuple #[.slice (some ⟨g, 0, none⟩) L.length cap1, .int .i64 1]) (by simp [results, Tryd.results12, go_sem]) rfl ?_
    exact unhide HBAD (by rw [unhide EOK]; rfl) _ (unhide HW) (unhide HR)
  | true =>
  have hEQ : (f == t) = false := by cases h : f == t with
    | false => rfl
    | true => simp [bne, h] at hne
  rw [hne] at EOK HPG
  clear hne
  go_wp2_with fail
  refine (unhide QM _).mono ?_
  rintro e w9 ⟨rfl, h9⟩
  have h8 := h9.symm
  subst h8
  clear h9
  cases bm with
  | false =>
    go_wp2
    refine bodyPost_ret (v := .tuple #[.slice (some ⟨g, 0, none⟩) L.length cap1, .int .i64 1]) (by simp [results, Tryd.results12, go_sem]) rfl ?_
    exact unhide HBAD (by rw [unhide EOK]; rfl) _ (unhide HW) (unhide HR)
  | true =>
  clear hEQ
  obtain ⟨hF1, hF2, hT1, hT2, hft, hm1, hm2⟩ := unhide HPG (by first | rfl | trivial) (by first | rfl | trivial) (by first | rfl | trivial) (by first | rfl | trivial)
  obtain ⟨h8, hgd⟩ := unhide HFU (by first | rfl | trivial)
  have HGD := hide hgd
  have HOK : Hid (pumpOk1 L f t m = true) := by show _ = _; rw [unhide EOK]; rfl
  have ECP : Hid (pumpC L f t m = if f ≠ -1 ∧ hs L f.toNat < m then 2 else if t ≠ -1 ∧ ms L t.toNat < hs L t.toNat + m then 3 else 0) := by show _ = _; rw [pumpC, unhide HOK, if_neg (by simp)]
  clear hgd HPG HFU EOK HOK HBAD
  by_cases hf : f = -1
  · subst hf
    obtain ⟨T, rfl⟩ : ∃ z : Nat, t = (z : Int) := ⟨t.toNat, by omega⟩
    have hTL : T < L.length := by omega
    obtain ⟨xT, yT⟩ := fuCell (unhide HR) hTL
    have zT := (unhide HR).frozen (T * 2)
    obtain ⟨bT1, bT2, bT3⟩ := unhide HGD T hTL
    have hTi : (T : Int) < L.length := by omega
    rw [show (T : Int).toNat = T from rfl] at ECP
    have HLST : Hid (pumpC L (-1) (T : Int) m = 0 → pumpL L (-1) (T : Int) m = putH (L) T (hs L T + m)) := fun hc => by
      unfold pumpL
      rw [if_pos hc]
      unfold giveT
      rw [if_neg (show ¬ (T : Int) = -1 by omega)]
      unfold takeF
      rw [if_pos (show (-1 : Int) = -1 from rfl)]
      rfl
    have HLN : Hid ((putH (L) T (hs L T + m)).length = L.length) := by show _ = _; simp [putH_len]
    have HO2 := hide fun V (hV : OwnV V g (recCells 2 e2 (L))) => putH_own hV (show T < (L).length by exact hTL) (hs L T + m)
    generalize hs L T = hT at *
    generalize ms L T = mT at *
    clear HGD
    rw [if_neg (fun h => h.1 rfl)] at ECP
    by_cases hov : mT < hT + m
    · have HC : Hid (pumpC L (-1) (T : Int) m = 3) := by show _ = _; rw [unhide ECP, if_pos ⟨by omega, hov⟩]
      have d2 : decide (mT < hT + m) = true := decide_eq_true hov
      go_wp2
      go_quiet (fail)
      go_wp2
      go_quiet (fail)
      go_wp2
      refine bodyPost_ret (v := .tuple #[.slice (some ⟨g, 0, none⟩) L.length cap1, .int .i64 3]) (by simp [results, Tryd.results12, go_sem]) rfl ?_
      first | exact unhide HEND _ _ (unhide HC) (pumpL_bad (by rw [unhide HC]; omega)) _ (below_drewN (unhide HW) _) (unhide HR) rfl | exact unhide HEND _ _ (unhide HC) (pumpL_bad (by rw [unhide HC]; omega)) _ (below_drewN (below_drewN (unhide HW) _) _) (unhide HR) rfl
    have d2 : decide (mT < hT + m) = false := decide_eq_false hov
    rw [if_neg (fun h => hov h.2)] at ECP
    have HC := ECP
    have HL := hide (unhide HLST (unhide HC))
    clear ECP HLST
    go_wp2
    go_quiet (fail)
    go_wp2
    go_quiet (fail)
    go_wp2
    go_region
    all_goals
      go_wp2
      refine bodyPost_ret (v := .tuple #[.slice (some ⟨g, 0, none⟩) L.length cap1, .int .i64 0]) (by simp [results, Tryd.results12, go_sem]) rfl ?_
      first | exact unhide HEND _ _ (unhide HC) (unhide HL) _ (Below.setCell (p := ⟨g, T * 2, none⟩) (below_drewN (unhide HW) _) hwg _) (unhide HO2 _ (unhide HR)) (unhide HLN) | exact unhide HEND _ _ (unhide HC) (unhide HL) _ (Below.drew (Below.setCell (p := ⟨g, T * 2, none⟩) (below_drewN (unhide HW) _) hwg _)) (OwnV.drew (unhide HO2 _ (unhide HR))) (unhide HLN)
  · obtain ⟨F, rfl⟩ : ∃ z : Nat, f = (z : Int) := ⟨f.toNat, by omega⟩
    by_cases ht : t = -1
    · subst ht
      have hFL : F < L.length := by omega
      obtain ⟨xF, yF⟩ := fuCell (unhide HR) hFL
      have zF := (unhide HR).frozen (F * 2)
      obtain ⟨bF1, bF2, bF3⟩ := unhide HGD F hFL
      have hFi : (F : Int) < L.length := by omega
      rw [show (F : Int).toNat = F from rfl] at ECP
      have HLST : Hid (pumpC L (F : Int) (-1) m = 0 → pumpL L (F : Int) (-1) m = putH L F (hs L F - m)) := fun hc => by
        unfold pumpL
        rw [if_pos hc]
        unfold giveT
        rw [if_pos (show (-1 : Int) = -1 from rfl)]
        unfold takeF
        rw [if_neg (show ¬ (F : Int) = -1 by omega)]
        rfl
      have HLN : Hid ((putH L F (hs L F - m)).length = L.length) := by show _ = _; simp [putH_len]
      have HO1 := hide fun V (hV : OwnV V g (recCells 2 e2 L)) => putH_own hV hFL (hs L F - m)
      generalize hs L F = hF at *
      generalize ms L F = mF at *
      clear HGD
      by_cases hdry : hF < m
      · have HC : Hid (pumpC L (F : Int) (-1) m = 2) := by show _ = _; rw [unhide ECP, if_pos ⟨by omega, hdry⟩]
        have d1 : decide (hF < m) = true := decide_eq_true hdry
        go_wp2
        go_quiet (fail)
        go_wp2
        refine bodyPost_ret (v := .tuple #[.slice (some ⟨g, 0, none⟩) L.length cap1, .int .i64 2]) (by simp [results, Tryd.results12, go_sem]) rfl ?_
        first | exact unhide HEND _ _ (unhide HC) (pumpL_bad (by rw [unhide HC]; omega)) _ (below_drewN (unhide HW) _) (unhide HR) rfl | exact unhide HEND _ _ (unhide HC) (pumpL_bad (by rw [unhide HC]; omega)) _ (below_drewN (below_drewN (unhide HW) _) _) (unhide HR) rfl
      have d1 : decide (hF < m) = false := decide_eq_false hdry
      rw [if_neg (fun h => hdry h.2)] at ECP
      rw [if_neg (fun h => h.1 rfl)] at ECP
      have HC := ECP
      have HL := hide (unhide HLST (unhide HC))
      clear ECP HLST
      go_wp2
      go_quiet (fail)
      go_wp2
      go_quiet (fail)
      go_wp2
      go_region
      all_goals
        go_wp2
        refine bodyPost_ret (v := .tuple #[.slice (some ⟨g, 0, none⟩) L.length cap1, .int .i64 0]) (by simp [results, Tryd.results12, go_sem]) rfl ?_
        first | exact unhide HEND _ _ (unhide HC) (unhide HL) _ (Below.setCell (p := ⟨g, F * 2, none⟩) (below_drewN (unhide HW) _) hwg _) (unhide HO1 _ (unhide HR)) (unhide HLN) | exact unhide HEND _ _ (unhide HC) (unhide HL) _ (Below.drew (Below.setCell (p := ⟨g, F * 2, none⟩) (below_drewN (unhide HW) _) hwg _)) (OwnV.drew (unhide HO1 _ (unhide HR))) (unhide HLN)
    · obtain ⟨T, rfl⟩ : ∃ z : Nat, t = (z : Int) := ⟨t.toNat, by omega⟩
      have hFL : F < L.length := by omega
      obtain ⟨xF, yF⟩ := fuCell (unhide HR) hFL
      have zF := (unhide HR).frozen (F * 2)
      obtain ⟨bF1, bF2, bF3⟩ := unhide HGD F hFL
      have hFi : (F : Int) < L.length := by omega
      have hTL : T < L.length := by omega
      obtain ⟨xT, yT⟩ := fuCell (unhide HR) hTL
      have zT := (unhide HR).frozen (T * 2)
      obtain ⟨bT1, bT2, bT3⟩ := unhide HGD T hTL
      have hTi : (T : Int) < L.length := by omega
      have hFT : F ≠ T := fun e => hft (by rw [e])
      have hFT2 : ¬ F * 2 = T * 2 := by omega
      have hFT3 : ¬ T * 2 = F * 2 := by omega
      have hFT4 : ¬ T * 2 + 1 = F * 2 := by omega
      have hFT5 : ¬ F * 2 = T * 2 + 1 := by omega
      have HE := hide (putH_hs (L := L) hFT (hs L F - m))
      rw [show (F : Int).toNat = F from rfl, show (T : Int).toNat = T from rfl] at ECP
      have HLST : Hid (pumpC L (F : Int) (T : Int) m = 0 → pumpL L (F : Int) (T : Int) m = putH (putH L F (hs L F - m)) T (hs L T + m)) := fun hc => by
        unfold pumpL
        rw [if_pos hc]
        unfold giveT
        rw [if_neg (show ¬ (T : Int) = -1 by omega)]
        unfold takeF
        rw [if_neg (show ¬ (F : Int) = -1 by omega)]
        show putH (putH L F (hs L F - m)) T (hs (putH L F (hs L F - m)) T + m) = _
        rw [(unhide HE).1]
      have HLN : Hid ((putH (putH L F (hs L F - m)) T (hs L T + m)).length = L.length) := by show _ = _; simp [putH_len]
      have HO1 := hide fun V (hV : OwnV V g (recCells 2 e2 L)) => putH_own hV hFL (hs L F - m)
      have HO2 := hide fun V (hV : OwnV V g (recCells 2 e2 (putH L F (hs L F - m)))) => putH_own hV (show T < (putH L F (hs L F - m)).length by rw [putH_len]; exact hTL) (hs L T + m)
      generalize hs L F = hF at *
      generalize ms L F = mF at *
      generalize hs L T = hT at *
      generalize ms L T = mT at *
      clear HGD
      by_cases hdry : hF < m
      · have HC : Hid (pumpC L (F : Int) (T : Int) m = 2) := by show _ = _; rw [unhide ECP, if_pos ⟨by omega, hdry⟩]
        have d1 : decide (hF < m) = true := decide_eq_true hdry
        go_wp2
        go_quiet (fail)
        go_wp2
        refine bodyPost_ret (v := .tuple #[.slice (some ⟨g, 0, none⟩) L.length cap1, .int .i64 2]) (by simp [results, Tryd.results12, go_sem]) rfl ?_
        first | exact unhide HEND _ _ (unhide HC) (pumpL_bad (by rw [unhide HC]; omega)) _ (below_drewN (unhide HW) _) (unhide HR) rfl | exact unhide HEND _ _ (unhide HC) (pumpL_bad (by rw [unhide HC]; omega)) _ (below_drewN (below_drewN (unhide HW) _) _) (unhide HR) rfl
      have d1 : decide (hF < m) = false := decide_eq_false hdry
      rw [if_neg (fun h => hdry h.2)] at ECP
      by_cases hov : mT < hT + m
      · have HC : Hid (pumpC L (F : Int) (T : Int) m = 3) := by show _ = _; rw [unhide ECP, if_pos ⟨by omega, hov⟩]
        have d2 : decide (mT < hT + m) = true := decide_eq_true hov
        go_wp2
        go_quiet (fail)
        go_wp2
        go_quiet (fail)
        go_wp2
        refine bodyPost_ret (v := .tuple #[.slice (some ⟨g, 0, none⟩) L.length cap1, .int .i64 3]) (by simp [results, Tryd.results12, go_sem]) rfl ?_
        first | exact unhide HEND _ _ (unhide HC) (pumpL_bad (by rw [unhide HC]; omega)) _ (below_drewN (unhide HW) _) (unhide HR) rfl | exact unhide HEND _ _ (unhide HC) (pumpL_bad (by rw [unhide HC]; omega)) _ (below_drewN (below_drewN (unhide HW) _) _) (unhide HR) rfl
      have d2 : decide (mT < hT + m) = false := decide_eq_false hov
      rw [if_neg (fun h => hov h.2)] at ECP
      have HC := ECP
      have HL := hide (unhide HLST (unhide HC))
      clear ECP HLST
      go_wp2
      go_quiet (fail)
      go_wp2
      go_quiet (fail)
      go_wp2
      go_region
      all_goals
        go_wp2
        go_region
        all_goals
          go_wp2
          refine bodyPost_ret (v := .tuple #[.slice (some ⟨g, 0, none⟩) L.length cap1, .int .i64 0]) (by simp [results, Tryd.results12, go_sem]) rfl ?_
          first | exact unhide HEND _ _ (unhide HC) (unhide HL) _ (Below.setCell (p := ⟨g, T * 2, none⟩) (Below.setCell (p := ⟨g, F * 2, none⟩) (below_drewN (unhide HW) _) hwg _) hwg _) (unhide HO2 _ (unhide HO1 _ (unhide HR))) (unhide HLN) | exact unhide HEND _ _ (unhide HC) (unhide HL) _ (Below.drew (Below.setCell (p := ⟨g, T * 2, none⟩) (Below.setCell (p := ⟨g, F * 2, none⟩) (below_drewN (unhide HW) _) hwg _) hwg _)) (OwnV.drew (unhide HO2 _ (unhide HO1 _ (unhide HR)))) (unhide HLN)

end Go.Proofs.YtblkbonedgofiaaDoor

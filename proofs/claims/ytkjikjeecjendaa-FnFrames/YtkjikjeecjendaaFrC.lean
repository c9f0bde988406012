/- Frames: the specification's l9DrawReport, DrawPackReport. Written by wip/mkfr.py. No statement about the program stands here. -/
import Derived.Test.YtkjikjeecjendaaFrB
namespace Go.Proofs.Ytkjikjeecjendaa
open Go.RowKit

set_option maxRecDepth 10000 in
set_option maxHeartbeats 3200000 in
theorem l9DrawReport_any (cb n : Nat) (v : Value) (w : World) (h : Cur w cb v n) (hn : n ≤ 1048576) :
    Calls Try.prog 50 #[.pointer (some ⟨cb, 0, none⟩)] w fun e w' => ∃ k i x y s m, e = .returned (vReport k i x y s m) ∧ Kept (fun b => b = cb ∨ w.heap.size ≤ b) w w' := by
  have hcl := h.lt
  have HC := hide (h.below (Below.alloc1 w (.cells #[.int .i64 0, .int .i64 0, .int .i64 0, .int .i64 0, .int .i64 0, .int .i64 0] 25)))
  have HK : Hid (Kept (fun b => b = cb ∨ w.heap.size ≤ b) w (w.alloc (.cells #[.int .i64 0, .int .i64 0, .int .i64 0, .int .i64 0, .int .i64 0, .int .i64 0] 25))) := kept_of_below (Below.alloc1 w _)
  have HO := hide (ownV_alloc w #[.int .i64 0, .int .i64 0, .int .i64 0, .int .i64 0, .int .i64 0, .int .i64 0] 25)
  have HB := hide fun W (hW : Cur W cb v n) k h0 h1 => l1BelowV_any cb n v k W hW hn h0 h1
  have HP := hide fun W (hW : Cur W cb v n) g m xs => l1PickInt_any cb n v g m xs W hW hn
  clear h
  go_enter Try.func50, Try.ntmps50
  go_wp2_with fail
  refine (unhide HB _ (unhide HC) _ (by omega) (by omega)).mono ?_
  rintro e w1 ⟨x1, rfl, ha1, hb1, hc, hk⟩
  replace HC := hide hc
  replace HO := hide ((unhide HO).kept hk (by omega))
  replace HK := hide ((unhide HK).trans (hk.mono (fun _ _ h => Or.inl h)))
  clear hc hk
  go_wp2_with fail
  refine (unhide HB _ (unhide HC) _ (by omega) (by omega)).mono ?_
  rintro e w2 ⟨x2, rfl, ha2, hb2, hc, hk⟩
  replace HC := hide hc
  replace HO := hide ((unhide HO).kept hk (by omega))
  replace HK := hide ((unhide HK).trans (hk.mono (fun _ _ h => Or.inl h)))
  clear hc hk
  go_wp2_with fail
  refine (unhide HB _ (unhide HC) _ (by omega) (by omega)).mono ?_
  rintro e w3 ⟨x3, rfl, ha3, hb3, hc, hk⟩
  replace HC := hide hc
  replace HO := hide ((unhide HO).kept hk (by omega))
  replace HK := hide ((unhide HK).trans (hk.mono (fun _ _ h => Or.inl h)))
  clear hc hk
  go_wp2_with fail
  refine (unhide HB _ (unhide HC) _ (by omega) (by omega)).mono ?_
  rintro e w4 ⟨x4, rfl, ha4, hb4, hc, hk⟩
  replace HC := hide hc
  replace HO := hide ((unhide HO).kept hk (by omega))
  replace HK := hide ((unhide HK).trans (hk.mono (fun _ _ h => Or.inl h)))
  clear hc hk
  go_wp2_with fail
  refine (unhide HB _ (unhide HC) _ (by omega) (by omega)).mono ?_
  rintro e w5 ⟨x5, rfl, ha5, hb5, hc, hk⟩
  replace HC := hide hc
  replace HO := hide ((unhide HO).kept hk (by omega))
  replace HK := hide ((unhide HK).trans (hk.mono (fun _ _ h => Or.inl h)))
  clear hc hk
  go_wp2_with fail
  refine (unhide HB _ (unhide HC) _ (by omega) (by omega)).mono ?_
  rintro e w6 ⟨x6, rfl, ha6, hb6, hc, hk⟩
  replace HC := hide hc
  replace HO := hide ((unhide HO).kept hk (by omega))
  replace HK := hide ((unhide HK).trans (hk.mono (fun _ _ h => Or.inl h)))
  clear hc hk
  have hs6 := (unhide HK).size
  have hl6 := (unhide HC).lt
  have hA := Below.alloc1 w6 (.cells #[.int .i64 (1 + x1), .int .i64 (1 + x2), .int .i64 (x3 - 8388608), .int .i64 (x4 - 50), .int .i64 x5, .int .i64 x6] 25)
  have HX := hide (ownV_alloc w6 #[.int .i64 (1 + x1), .int .i64 (1 + x2), .int .i64 (x3 - 8388608), .int .i64 (x4 - 50), .int .i64 x5, .int .i64 x6] 25)
  replace HC := hide ((unhide HC).below hA)
  have hr6 := (unhide HO).lt
  replace HO := hide ((unhide HO).step hA)
  replace HK := hide ((unhide HK).trans (kept_of_below hA))
  clear hA
  go_wp2_with fail
  refine (unhide HB _ (unhide HC) _ (by omega) (by omega)).mono ?_
  rintro e w7 ⟨x7, rfl, ha7, hb7, hc, hk⟩
  replace HC := hide hc
  replace HO := hide ((unhide HO).kept hk (by omega))
  replace HX := hide ((unhide HX).kept hk (by omega))
  replace HK := hide ((unhide HK).trans (hk.mono (fun _ _ h => Or.inl h)))
  clear hc hk HB
  generalize 1 + x1 = f0 at *
  generalize 1 + x2 = f1 at *
  generalize x3 - 8388608 = f2 at *
  generalize x4 - 50 = f3 at *
  have hl7 := (unhide HC).lt
  have hx7 := (unhide HX).lt
  have ho7 := (unhide HO).lt
  by_cases hq0 : x7 = 0
  · subst hq0
    have hA := Below.alloc1 w7 (.cells #[.int .i64 (0), .int .i64 (9), .int .i64 (10)] 3)
    have HY : Hid (OwnV (w7.alloc (.cells #[.int .i64 (0), .int .i64 (9), .int .i64 (10)] 3)) w7.heap.size (ints [0, 9, 10])) := ownV_alloc w7 #[.int .i64 (0), .int .i64 (9), .int .i64 (10)] 3
    replace HC := hide ((unhide HC).below hA)
    replace HO := hide ((unhide HO).step hA)
    replace HX := hide ((unhide HX).step hA)
    replace HK := hide ((unhide HK).trans (kept_of_below hA))
    clear hA
    go_wp2_with fail
    refine (unhide HP _ (unhide HC) _ 3 _ (unhide HY) (by omega) rfl (by omega) (by omega)).mono ?_
    rintro e w8 ⟨y, rfl, hc, hk⟩
    replace HO := hide ((unhide HO).kept hk (by omega))
    replace HX := hide ((unhide HX).kept hk (by omega))
    replace HK := hide ((unhide HK).trans (hk.mono (fun _ _ h => Or.inl h)))
    have k0 := (unhide HX).cell (i := 0) rfl
    have kf := (unhide HX).frozen 0
    have hS := (Kept.refl (fun b => b = w6.heap.size) w8).setCell (p := ⟨w6.heap.size, 0, none⟩) rfl (.int .i64 y)
    have HX2 := hide ((unhide HX).set 0 (.int .i64 y) (by simp))
    have HO2 := hide ((unhide HO).kept hS (by omega))
    have HK2 := hide ((unhide HK).setCell (p := ⟨w6.heap.size, 0, none⟩) (Or.inr hs6) (.int .i64 y))
    generalize hV : w8.setCell ⟨w6.heap.size, 0, none⟩ (.int .i64 y) = V at HX2 HO2 HK2
    clear hc hk hS HC HP HY HX HO HK
    simp only [List.set_cons_zero] at HX2
    have HX := HX2
    have HO := HO2
    have HK := HK2
    clear HX2 HO2 HK2
    have d0 := (unhide HO).cell (i := 0) rfl
    have df0 := (unhide HO).frozen 0
    have e0 := (unhide HX).cell (i := 0) rfl
    have d1 := (unhide HO).cell (i := 1) rfl
    have df1 := (unhide HO).frozen 1
    have e1 := (unhide HX).cell (i := 1) rfl
    have d2 := (unhide HO).cell (i := 2) rfl
    have df2 := (unhide HO).frozen 2
    have e2 := (unhide HX).cell (i := 2) rfl
    have d3 := (unhide HO).cell (i := 3) rfl
    have df3 := (unhide HO).frozen 3
    have e3 := (unhide HX).cell (i := 3) rfl
    have d4 := (unhide HO).cell (i := 4) rfl
    have df4 := (unhide HO).frozen 4
    have e4 := (unhide HX).cell (i := 4) rfl
    have d5 := (unhide HO).cell (i := 5) rfl
    have df5 := (unhide HO).frozen 5
    have e5 := (unhide HX).cell (i := 5) rfl
    have HW := hide (((((((unhide HK).setCell (p := ⟨w.heap.size, 0, none⟩) (Or.inr (Nat.le_refl _)) (.int .i64 y)).setCell (p := ⟨w.heap.size, 1, none⟩) (Or.inr (Nat.le_refl _)) (.int .i64 f1)).setCell (p := ⟨w.heap.size, 2, none⟩) (Or.inr (Nat.le_refl _)) (.int .i64 f2)).setCell (p := ⟨w.heap.size, 3, none⟩) (Or.inr (Nat.le_refl _)) (.int .i64 f3)).setCell (p := ⟨w.heap.size, 4, none⟩) (Or.inr (Nat.le_refl _)) (.int .i64 x5)).setCell (p := ⟨w.heap.size, 5, none⟩) (Or.inr (Nat.le_refl _)) (.int .i64 x6))
    go_wp2
    refine bodyPost_ret (v := vReport y f1 f2 f3 x5 x6) (by simp [results, Try.results50, go_sem, vReport, d0, d1, d2, d3, d4, d5]) rfl ⟨_, _, _, _, _, _, rfl, unhide HW⟩
  by_cases hq1 : x7 = 1
  · subst hq1
    have hA := Below.alloc1 w7 (.cells #[.int .i64 (0), .int .i64 (1), .int .i64 (999999999), .int .i64 (1000000000)] 3)
    have HY : Hid (OwnV (w7.alloc (.cells #[.int .i64 (0), .int .i64 (1), .int .i64 (999999999), .int .i64 (1000000000)] 3)) w7.heap.size (ints [0, 1, 999999999, 1000000000])) := ownV_alloc w7 #[.int .i64 (0), .int .i64 (1), .int .i64 (999999999), .int .i64 (1000000000)] 3
    replace HC := hide ((unhide HC).below hA)
    replace HO := hide ((unhide HO).step hA)
    replace HX := hide ((unhide HX).step hA)
    replace HK := hide ((unhide HK).trans (kept_of_below hA))
    clear hA
    go_wp2_with fail
    refine (unhide HP _ (unhide HC) _ 4 _ (unhide HY) (by omega) rfl (by omega) (by omega)).mono ?_
    rintro e w8 ⟨y, rfl, hc, hk⟩
    replace HO := hide ((unhide HO).kept hk (by omega))
    replace HX := hide ((unhide HX).kept hk (by omega))
    replace HK := hide ((unhide HK).trans (hk.mono (fun _ _ h => Or.inl h)))
    have k1 := (unhide HX).cell (i := 1) rfl
    have kf := (unhide HX).frozen 1
    have hS := (Kept.refl (fun b => b = w6.heap.size) w8).setCell (p := ⟨w6.heap.size, 1, none⟩) rfl (.int .i64 y)
    have HX2 := hide ((unhide HX).set 1 (.int .i64 y) (by simp))
    have HO2 := hide ((unhide HO).kept hS (by omega))
    have HK2 := hide ((unhide HK).setCell (p := ⟨w6.heap.size, 1, none⟩) (Or.inr hs6) (.int .i64 y))
    generalize hV : w8.setCell ⟨w6.heap.size, 1, none⟩ (.int .i64 y) = V at HX2 HO2 HK2
    clear hc hk hS HC HP HY HX HO HK
    simp only [List.set_cons_zero, List.set_cons_succ] at HX2
    have HX := HX2
    have HO := HO2
    have HK := HK2
    clear HX2 HO2 HK2
    have d0 := (unhide HO).cell (i := 0) rfl
    have df0 := (unhide HO).frozen 0
    have e0 := (unhide HX).cell (i := 0) rfl
    have d1 := (unhide HO).cell (i := 1) rfl
    have df1 := (unhide HO).frozen 1
    have e1 := (unhide HX).cell (i := 1) rfl
    have d2 := (unhide HO).cell (i := 2) rfl
    have df2 := (unhide HO).frozen 2
    have e2 := (unhide HX).cell (i := 2) rfl
    have d3 := (unhide HO).cell (i := 3) rfl
    have df3 := (unhide HO).frozen 3
    have e3 := (unhide HX).cell (i := 3) rfl
    have d4 := (unhide HO).cell (i := 4) rfl
    have df4 := (unhide HO).frozen 4
    have e4 := (unhide HX).cell (i := 4) rfl
    have d5 := (unhide HO).cell (i := 5) rfl
    have df5 := (unhide HO).frozen 5
    have e5 := (unhide HX).cell (i := 5) rfl
    have HW := hide (((((((unhide HK).setCell (p := ⟨w.heap.size, 0, none⟩) (Or.inr (Nat.le_refl _)) (.int .i64 f0)).setCell (p := ⟨w.heap.size, 1, none⟩) (Or.inr (Nat.le_refl _)) (.int .i64 y)).setCell (p := ⟨w.heap.size, 2, none⟩) (Or.inr (Nat.le_refl _)) (.int .i64 f2)).setCell (p := ⟨w.heap.size, 3, none⟩) (Or.inr (Nat.le_refl _)) (.int .i64 f3)).setCell (p := ⟨w.heap.size, 4, none⟩) (Or.inr (Nat.le_refl _)) (.int .i64 x5)).setCell (p := ⟨w.heap.size, 5, none⟩) (Or.inr (Nat.le_refl _)) (.int .i64 x6))
    go_wp2
    refine bodyPost_ret (v := vReport f0 y f2 f3 x5 x6) (by simp [results, Try.results50, go_sem, vReport, d0, d1, d2, d3, d4, d5]) rfl ⟨_, _, _, _, _, _, rfl, unhide HW⟩
  by_cases hq2 : x7 = 2
  · subst hq2
    have hA := Below.alloc1 w7 (.cells #[.int .i64 (-8388609), .int .i64 (-8388608), .int .i64 (8388607), .int .i64 (8388608)] 3)
    have HY : Hid (OwnV (w7.alloc (.cells #[.int .i64 (-8388609), .int .i64 (-8388608), .int .i64 (8388607), .int .i64 (8388608)] 3)) w7.heap.size (ints [-8388609, -8388608, 8388607, 8388608])) := ownV_alloc w7 #[.int .i64 (-8388609), .int .i64 (-8388608), .int .i64 (8388607), .int .i64 (8388608)] 3
    replace HC := hide ((unhide HC).below hA)
    replace HO := hide ((unhide HO).step hA)
    replace HX := hide ((unhide HX).step hA)
    replace HK := hide ((unhide HK).trans (kept_of_below hA))
    clear hA
    go_wp2_with fail
    refine (unhide HP _ (unhide HC) _ 4 _ (unhide HY) (by omega) rfl (by omega) (by omega)).mono ?_
    rintro e w8 ⟨y, rfl, hc, hk⟩
    replace HO := hide ((unhide HO).kept hk (by omega))
    replace HX := hide ((unhide HX).kept hk (by omega))
    replace HK := hide ((unhide HK).trans (hk.mono (fun _ _ h => Or.inl h)))
    have k2 := (unhide HX).cell (i := 2) rfl
    have kf := (unhide HX).frozen 2
    have hS := (Kept.refl (fun b => b = w6.heap.size) w8).setCell (p := ⟨w6.heap.size, 2, none⟩) rfl (.int .i64 y)
    have HX2 := hide ((unhide HX).set 2 (.int .i64 y) (by simp))
    have HO2 := hide ((unhide HO).kept hS (by omega))
    have HK2 := hide ((unhide HK).setCell (p := ⟨w6.heap.size, 2, none⟩) (Or.inr hs6) (.int .i64 y))
    generalize hV : w8.setCell ⟨w6.heap.size, 2, none⟩ (.int .i64 y) = V at HX2 HO2 HK2
    clear hc hk hS HC HP HY HX HO HK
    simp only [List.set_cons_zero, List.set_cons_succ] at HX2
    have HX := HX2
    have HO := HO2
    have HK := HK2
    clear HX2 HO2 HK2
    have d0 := (unhide HO).cell (i := 0) rfl
    have df0 := (unhide HO).frozen 0
    have e0 := (unhide HX).cell (i := 0) rfl
    have d1 := (unhide HO).cell (i := 1) rfl
    have df1 := (unhide HO).frozen 1
    have e1 := (unhide HX).cell (i := 1) rfl
    have d2 := (unhide HO).cell (i := 2) rfl
    have df2 := (unhide HO).frozen 2
    have e2 := (unhide HX).cell (i := 2) rfl
    have d3 := (unhide HO).cell (i := 3) rfl
    have df3 := (unhide HO).frozen 3
    have e3 := (unhide HX).cell (i := 3) rfl
    have d4 := (unhide HO).cell (i := 4) rfl
    have df4 := (unhide HO).frozen 4
    have e4 := (unhide HX).cell (i := 4) rfl
    have d5 := (unhide HO).cell (i := 5) rfl
    have df5 := (unhide HO).frozen 5
    have e5 := (unhide HX).cell (i := 5) rfl
    have HW := hide (((((((unhide HK).setCell (p := ⟨w.heap.size, 0, none⟩) (Or.inr (Nat.le_refl _)) (.int .i64 f0)).setCell (p := ⟨w.heap.size, 1, none⟩) (Or.inr (Nat.le_refl _)) (.int .i64 f1)).setCell (p := ⟨w.heap.size, 2, none⟩) (Or.inr (Nat.le_refl _)) (.int .i64 y)).setCell (p := ⟨w.heap.size, 3, none⟩) (Or.inr (Nat.le_refl _)) (.int .i64 f3)).setCell (p := ⟨w.heap.size, 4, none⟩) (Or.inr (Nat.le_refl _)) (.int .i64 x5)).setCell (p := ⟨w.heap.size, 5, none⟩) (Or.inr (Nat.le_refl _)) (.int .i64 x6))
    go_wp2
    refine bodyPost_ret (v := vReport f0 f1 y f3 x5 x6) (by simp [results, Try.results50, go_sem, vReport, d0, d1, d2, d3, d4, d5]) rfl ⟨_, _, _, _, _, _, rfl, unhide HW⟩
  by_cases hq3 : x7 = 3
  · subst hq3
    have hA := Below.alloc1 w7 (.cells #[.int .i64 (-1), .int .i64 (20)] 3)
    have HY : Hid (OwnV (w7.alloc (.cells #[.int .i64 (-1), .int .i64 (20)] 3)) w7.heap.size (ints [-1, 20])) := ownV_alloc w7 #[.int .i64 (-1), .int .i64 (20)] 3
    replace HC := hide ((unhide HC).below hA)
    replace HO := hide ((unhide HO).step hA)
    replace HX := hide ((unhide HX).step hA)
    replace HK := hide ((unhide HK).trans (kept_of_below hA))
    clear hA
    go_wp2_with fail
    refine (unhide HP _ (unhide HC) _ 2 _ (unhide HY) (by omega) rfl (by omega) (by omega)).mono ?_
    rintro e w8 ⟨y, rfl, hc, hk⟩
    replace HO := hide ((unhide HO).kept hk (by omega))
    replace HX := hide ((unhide HX).kept hk (by omega))
    replace HK := hide ((unhide HK).trans (hk.mono (fun _ _ h => Or.inl h)))
    have k4 := (unhide HX).cell (i := 4) rfl
    have kf := (unhide HX).frozen 4
    have hS := (Kept.refl (fun b => b = w6.heap.size) w8).setCell (p := ⟨w6.heap.size, 4, none⟩) rfl (.int .i64 y)
    have HX2 := hide ((unhide HX).set 4 (.int .i64 y) (by simp))
    have HO2 := hide ((unhide HO).kept hS (by omega))
    have HK2 := hide ((unhide HK).setCell (p := ⟨w6.heap.size, 4, none⟩) (Or.inr hs6) (.int .i64 y))
    generalize hV : w8.setCell ⟨w6.heap.size, 4, none⟩ (.int .i64 y) = V at HX2 HO2 HK2
    clear hc hk hS HC HP HY HX HO HK
    simp only [List.set_cons_zero, List.set_cons_succ] at HX2
    have HX := HX2
    have HO := HO2
    have HK := HK2
    clear HX2 HO2 HK2
    have d0 := (unhide HO).cell (i := 0) rfl
    have df0 := (unhide HO).frozen 0
    have e0 := (unhide HX).cell (i := 0) rfl
    have d1 := (unhide HO).cell (i := 1) rfl
    have df1 := (unhide HO).frozen 1
    have e1 := (unhide HX).cell (i := 1) rfl
    have d2 := (unhide HO).cell (i := 2) rfl
    have df2 := (unhide HO).frozen 2
    have e2 := (unhide HX).cell (i := 2) rfl
    have d3 := (unhide HO).cell (i := 3) rfl
    have df3 := (unhide HO).frozen 3
    have e3 := (unhide HX).cell (i := 3) rfl
    have d4 := (unhide HO).cell (i := 4) rfl
    have df4 := (unhide HO).frozen 4
    have e4 := (unhide HX).cell (i := 4) rfl
    have d5 := (unhide HO).cell (i := 5) rfl
    have df5 := (unhide HO).frozen 5
    have e5 := (unhide HX).cell (i := 5) rfl
    have HW := hide (((((((unhide HK).setCell (p := ⟨w.heap.size, 0, none⟩) (Or.inr (Nat.le_refl _)) (.int .i64 f0)).setCell (p := ⟨w.heap.size, 1, none⟩) (Or.inr (Nat.le_refl _)) (.int .i64 f1)).setCell (p := ⟨w.heap.size, 2, none⟩) (Or.inr (Nat.le_refl _)) (.int .i64 f2)).setCell (p := ⟨w.heap.size, 3, none⟩) (Or.inr (Nat.le_refl _)) (.int .i64 f3)).setCell (p := ⟨w.heap.size, 4, none⟩) (Or.inr (Nat.le_refl _)) (.int .i64 y)).setCell (p := ⟨w.heap.size, 5, none⟩) (Or.inr (Nat.le_refl _)) (.int .i64 x6))
    go_wp2
    refine bodyPost_ret (v := vReport f0 f1 f2 f3 y x6) (by simp [results, Try.results50, go_sem, vReport, d0, d1, d2, d3, d4, d5]) rfl ⟨_, _, _, _, _, _, rfl, unhide HW⟩
  have g0 : (x7 == 0) = false := by simpa using hq0
  have g1 : (x7 == 1) = false := by simpa using hq1
  have g2 : (x7 == 2) = false := by simpa using hq2
  have g3 : (x7 == 3) = false := by simpa using hq3
  clear hq0 hq1 hq2 hq3 HP HC
  have d0 := (unhide HO).cell (i := 0) rfl
  have df0 := (unhide HO).frozen 0
  have e0 := (unhide HX).cell (i := 0) rfl
  have d1 := (unhide HO).cell (i := 1) rfl
  have df1 := (unhide HO).frozen 1
  have e1 := (unhide HX).cell (i := 1) rfl
  have d2 := (unhide HO).cell (i := 2) rfl
  have df2 := (unhide HO).frozen 2
  have e2 := (unhide HX).cell (i := 2) rfl
  have d3 := (unhide HO).cell (i := 3) rfl
  have df3 := (unhide HO).frozen 3
  have e3 := (unhide HX).cell (i := 3) rfl
  have d4 := (unhide HO).cell (i := 4) rfl
  have df4 := (unhide HO).frozen 4
  have e4 := (unhide HX).cell (i := 4) rfl
  have d5 := (unhide HO).cell (i := 5) rfl
  have df5 := (unhide HO).frozen 5
  have e5 := (unhide HX).cell (i := 5) rfl
  have HW := hide (((((((unhide HK).setCell (p := ⟨w.heap.size, 0, none⟩) (Or.inr (Nat.le_refl _)) (.int .i64 f0)).setCell (p := ⟨w.heap.size, 1, none⟩) (Or.inr (Nat.le_refl _)) (.int .i64 f1)).setCell (p := ⟨w.heap.size, 2, none⟩) (Or.inr (Nat.le_refl _)) (.int .i64 f2)).setCell (p := ⟨w.heap.size, 3, none⟩) (Or.inr (Nat.le_refl _)) (.int .i64 f3)).setCell (p := ⟨w.heap.size, 4, none⟩) (Or.inr (Nat.le_refl _)) (.int .i64 x5)).setCell (p := ⟨w.heap.size, 5, none⟩) (Or.inr (Nat.le_refl _)) (.int .i64 x6))
  go_wp2
  refine bodyPost_ret (v := vReport f0 f1 f2 f3 x5 x6) (by simp [results, Try.results50, go_sem, vReport, d0, d1, d2, d3, d4, d5]) rfl ⟨_, _, _, _, _, _, rfl, unhide HW⟩

set_option maxRecDepth 10000 in
set_option maxHeartbeats 1600000 in
theorem drawPackReport_any (v : Value) (n : Nat) (w : World) (h : BytesIn w.heap.size w v n) (hn : n ≤ 1048576) :
    Calls Try.prog 14 #[v] w fun e w' => ∃ k i x y s m, e = .returned (vReport k i x y s m) ∧ Below w.heap.size w w' := by
  have hA := Below.alloc1 w (.cells #[.int .i64 0, .int .i64 0, .int .i64 0, .int .i64 0, .int .i64 0, .int .i64 0] 25)
  have HO := hide (ownV_alloc w #[.int .i64 0, .int .i64 0, .int .i64 0, .int .i64 0, .int .i64 0, .int .i64 0] 25)
  have hsz : (w.alloc (.cells #[.int .i64 0, .int .i64 0, .int .i64 0, .int .i64 0, .int .i64 0, .int .i64 0] 25)).heap.size = w.heap.size + 1 := by simp
  have h1 : BytesIn (w.heap.size + 1) (w.alloc (.cells #[.int .i64 0, .int .i64 0, .int .i64 0, .int .i64 0, .int .i64 0, .int .i64 0] 25)) v n := by
    obtain ⟨ao, cap, e, h1, h2, h3⟩ := h.below hA (Nat.le_refl _)
    refine ⟨ao, cap, e, h1, h2, fun i hi => ?_⟩
    obtain ⟨b, o, x, q1, q2, q3⟩ := h3 i hi
    exact ⟨b, o, x, q1, by omega, q3⟩
  rw [← hsz] at h1
  have HN := hide (l1New_any v n _ h1 hn)
  have HD := hide fun W cb (hW : Cur W cb v n) => l9DrawReport_any cb n v W hW hn
  obtain ⟨ao, cap, rfl, -⟩ := h
  have HA := hide hA
  have HSZ := hide hsz
  clear h1 hsz hA
  go_enter Try.func14, Try.ntmps14
  go_wp2_with fail
  refine (unhide HN).mono ?_
  rintro e w1 ⟨rfl, hc, hb, hs⟩
  rw [unhide HSZ] at hc ⊢
  have HC := hide hc
  replace HA := hide (Below.step (unhide HA) hb)
  replace HO := hide ((unhide HO).step hb)
  have hs1 := (unhide HA).size
  clear hc hb hs HN HSZ
  go_wp2_with fail
  refine (unhide HD _ _ (unhide HC)).mono ?_
  rintro e w2 ⟨k, i, x, y, s, m, rfl, hk⟩
  have ho1 := (unhide HO).lt
  replace HA := hide ((unhide HA).trans (hk.below (B := w.heap.size) hs1 (fun b h => by omega)))
  replace HO := hide ((unhide HO).kept hk (by omega))
  clear hk HD HC
  unfold vReport
  have d0 := (unhide HO).cell (i := 0) rfl
  have df0 := (unhide HO).frozen 0
  have d1 := (unhide HO).cell (i := 1) rfl
  have df1 := (unhide HO).frozen 1
  have d2 := (unhide HO).cell (i := 2) rfl
  have df2 := (unhide HO).frozen 2
  have d3 := (unhide HO).cell (i := 3) rfl
  have df3 := (unhide HO).frozen 3
  have d4 := (unhide HO).cell (i := 4) rfl
  have df4 := (unhide HO).frozen 4
  have d5 := (unhide HO).cell (i := 5) rfl
  have df5 := (unhide HO).frozen 5
  have HW := hide (((((((unhide HA).setCell (p := ⟨w.heap.size, 0, none⟩) (Nat.le_refl _) (.int .i64 k)).setCell (p := ⟨w.heap.size, 1, none⟩) (Nat.le_refl _) (.int .i64 i)).setCell (p := ⟨w.heap.size, 2, none⟩) (Nat.le_refl _) (.int .i64 x)).setCell (p := ⟨w.heap.size, 3, none⟩) (Nat.le_refl _) (.int .i64 y)).setCell (p := ⟨w.heap.size, 4, none⟩) (Nat.le_refl _) (.int .i64 s)).setCell (p := ⟨w.heap.size, 5, none⟩) (Nat.le_refl _) (.int .i64 m))
  go_wp2
  refine bodyPost_ret (v := vReport k i x y s m) (by simp [results, Try.results14, go_sem, vReport, d0, d1, d2, d3, d4, d5]) rfl ⟨_, _, _, _, _, _, rfl, unhide HW⟩

end Go.Proofs.Ytkjikjeecjendaa

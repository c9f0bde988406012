/- Boxes that are drawn: l11Draw. Written by wip/mkds.py. No statement about the program stands here. -/
import Derived.Test.YtmnpeljgafmnpaaDsB
namespace Go.Proofs.Ytmnpeljgafmnpaa
open Go.RowKit

set_option maxRecDepth 10000 in
set_option maxHeartbeats 6400000 in
theorem l11Draw_any (cb n : Nat) (v : Value) (w : World) (h : Cur w cb v n) (hn : n ≤ 1048576) :
    Calls Try.prog 57 #[.pointer (some ⟨cb, 0, none⟩)] w fun e w' => ∃ s wt cl co fr to, e = .returned (vBox s wt cl co fr to) ∧ Cur w' cb v n ∧ Kept (fun b => b = cb) w w' := by
  have hcl := h.lt
  have hA := Below.alloc1 w (.cells #[.string ⟨#[]⟩, .int .i64 0, .int .i64 0, .bool false, .int .i64 0, .int .i64 0] 34)
  have HC := hide (h.below hA)
  have HK : Hid (Kept (fun b => b = cb ∨ w.heap.size ≤ b) w (w.alloc (.cells #[.string ⟨#[]⟩, .int .i64 0, .int .i64 0, .bool false, .int .i64 0, .int .i64 0] 34))) := kept_of_below hA
  have HO := hide (ownV_alloc w #[.string ⟨#[]⟩, .int .i64 0, .int .i64 0, .bool false, .int .i64 0, .int .i64 0] 34)
  have HB := hide fun W (hW : Cur W cb v n) k h0 h1 => l1Below_any cb n v k W hW hn h0 h1
  have HQ := hide fun W (hW : Cur W cb v n) k h0 h1 => l1Once_any cb n v k W hW hn h0 h1
  have HN := hide fun W (hW : Cur W cb v n) => l11DrawName_any cb n v W hW hn
  clear h hA
  go_enter Try.func57, Try.ntmps57
  go_wp2_with fail
  refine (unhide HB _ (unhide HC) _ (by omega) (by omega)).mono ?_
  rintro e w1 ⟨x1, rfl, x1a, x1b, hc, hk⟩
  replace HC := hide hc
  replace HO := hide ((unhide HO).kept hk (by omega))
  replace HK := hide ((unhide HK).trans (hk.mono (fun _ _ h => Or.inl h)))
  clear hc hk
  go_wp2_with fail
  refine (unhide HN _ (unhide HC)).mono ?_
  rintro e w2 ⟨s, rfl, hs, hc, hk⟩
  replace HC := hide hc
  replace HO := hide ((unhide HO).kept hk (by omega))
  replace HK := hide ((unhide HK).trans (hk.mono (fun _ _ h => Or.inl h)))
  clear hc hk hs
  go_wp2_with fail
  refine (unhide HB _ (unhide HC) _ (by omega) (by omega)).mono ?_
  rintro e w3 ⟨x3, rfl, x3a, x3b, hc, hk⟩
  replace HC := hide hc
  replace HO := hide ((unhide HO).kept hk (by omega))
  replace HK := hide ((unhide HK).trans (hk.mono (fun _ _ h => Or.inl h)))
  clear hc hk
  go_wp2_with fail
  refine (unhide HB _ (unhide HC) _ (by omega) (by omega)).mono ?_
  rintro e w4 ⟨x4, rfl, x4a, x4b, hc, hk⟩
  replace HC := hide hc
  replace HO := hide ((unhide HO).kept hk (by omega))
  replace HK := hide ((unhide HK).trans (hk.mono (fun _ _ h => Or.inl h)))
  clear hc hk
  have hs4 := (unhide HK).size
  have ho4 := (unhide HO).lt
  have hA := Below.alloc1 w4 (.cells #[.string s, .int .i64 (1 + x3), .int .i64 0, .bool false, .int .i64 x1, .int .i64 (x1 + 1 + x4)] 34)
  have HX := hide (ownV_alloc w4 #[.string s, .int .i64 (1 + x3), .int .i64 0, .bool false, .int .i64 x1, .int .i64 (x1 + 1 + x4)] 34)
  replace HC := hide ((unhide HC).below hA)
  replace HO := hide ((unhide HO).step hA)
  replace HK := hide ((unhide HK).trans (kept_of_below hA))
  clear hA
  have hx4 := (unhide HX).lt
  have hl4 := (unhide HC).lt
  simp only [World.size_alloc] at hx4 hl4
  go_wp2_with fail
  refine (unhide HQ _ (unhide HC) _ (by omega) (by omega)).mono ?_
  rintro e w5 ⟨q5, rfl, hc, hk⟩
  replace HC := hide hc
  replace HO := hide ((unhide HO).kept hk (by omega))
  replace HX := hide ((unhide HX).kept hk (by omega))
  replace HK := hide ((unhide HK).trans (hk.mono (fun _ _ h => Or.inl h)))
  clear hc hk
  generalize 1 + x3 = f1 at *
  generalize x1 + 1 + x4 = f5 at *
  cases q5 with
  | true =>
    go_wp2_with fail
    refine (unhide HB _ (unhide HC) _ (by omega) (by omega)).mono ?_
    rintro e w6 ⟨x6, rfl, x6a, x6b, hc, hk⟩
    replace HC := hide hc
    replace HO := hide ((unhide HO).kept hk (by omega))
    replace HX := hide ((unhide HX).kept hk (by omega))
    replace HK := hide ((unhide HK).trans (hk.mono (fun _ _ h => Or.inl h)))
    clear hc hk
    have kc := (unhide HX).cell (i := 2) rfl
    have kf := (unhide HX).frozen 2
    have hS := (Kept.refl (fun b => b = w4.heap.size) w6).setCell (p := ⟨w4.heap.size, 2, none⟩) rfl (.int .i64 x6)
    have HX2 := hide ((unhide HX).set 2 (.int .i64 x6) (by simp))
    have HO2 := hide ((unhide HO).kept hS (by omega))
    have HC2 := hide ((unhide HC).kept hS (fun b h => by omega))
    have HK2 := hide ((unhide HK).setCell (p := ⟨w4.heap.size, 2, none⟩) (Or.inr (by omega)) (.int .i64 x6))
    generalize hV : w6.setCell ⟨w4.heap.size, 2, none⟩ (.int .i64 x6) = V6 at HX2 HO2 HC2 HK2
    clear hS HX HC HK HO
    simp only [List.set_cons_zero, List.set_cons_succ] at HX2
    have HX := HX2
    have HO := HO2
    have HC := HC2
    have HK := HK2
    clear HX2 HO2 HC2 HK2
    go_wp2_with fail
    clear hV kc kf
    refine (unhide HQ _ (unhide HC) _ (by omega) (by omega)).mono ?_
    rintro e w7 ⟨q7, rfl, hc, hk⟩
    replace HC := hide hc
    replace HO := hide ((unhide HO).kept hk (by omega))
    replace HX := hide ((unhide HX).kept hk (by omega))
    replace HK := hide ((unhide HK).trans (hk.mono (fun _ _ h => Or.inl h)))
    clear hc hk
    have kc := (unhide HX).cell (i := 3) rfl
    have kf := (unhide HX).frozen 3
    have hS := (Kept.refl (fun b => b = w4.heap.size) w7).setCell (p := ⟨w4.heap.size, 3, none⟩) rfl (.bool q7)
    have HX2 := hide ((unhide HX).set 3 (.bool q7) (by simp))
    have HO2 := hide ((unhide HO).kept hS (by omega))
    have HC2 := hide ((unhide HC).kept hS (fun b h => by omega))
    have HK2 := hide ((unhide HK).setCell (p := ⟨w4.heap.size, 3, none⟩) (Or.inr (by omega)) (.bool q7))
    generalize hV : w7.setCell ⟨w4.heap.size, 3, none⟩ (.bool q7) = V at HX2 HO2 HC2 HK2
    clear hS HX HC HK HO
    simp only [List.set_cons_zero, List.set_cons_succ] at HX2
    have HX := HX2
    have HO := HO2
    have HC := HC2
    have HK := HK2
    clear HX2 HO2 HC2 HK2
    have d0 := (unhide HO).cell (i := 0) rfl
    have df0 := (unhide HO).frozen 0
    have e0 := (unhide HX).cell (i := 0) rfl
    have d1 := (unhide HO).cell (i := 1) rfl
    have df1 := (unhide HO).frozen 1
    have e1 := (unhide HX).cell (i := 1) rfl
    have d2 := (unhide HO).cell (i := 2) rfl
    have df2 := (unhide HO).frozen 2
    have e2 := (unhide HX).cell (i := 2) rfl
    have d3 := (unhide HO).cell (i := 3) rfl
    have df3 := (unhide HO).frozen 3
    have e3 := (unhide HX).cell (i := 3) rfl
    have d4 := (unhide HO).cell (i := 4) rfl
    have df4 := (unhide HO).frozen 4
    have e4 := (unhide HX).cell (i := 4) rfl
    have d5 := (unhide HO).cell (i := 5) rfl
    have df5 := (unhide HO).frozen 5
    have e5 := (unhide HX).cell (i := 5) rfl
    have hKf := ((((((Kept.refl (fun b => b = w.heap.size) V).setCell (p := ⟨w.heap.size, 0, none⟩) rfl (.string s)).setCell (p := ⟨w.heap.size, 1, none⟩) rfl (.int .i64 f1)).setCell (p := ⟨w.heap.size, 2, none⟩) rfl (.int .i64 x6)).setCell (p := ⟨w.heap.size, 3, none⟩) rfl (.bool q7)).setCell (p := ⟨w.heap.size, 4, none⟩) rfl (.int .i64 x1)).setCell (p := ⟨w.heap.size, 5, none⟩) rfl (.int .i64 f5)
    have HOf := hide ((((((unhide HO).set 0 (.string s) (by simp)).set 1 (.int .i64 f1) (by simp)).set 2 (.int .i64 x6) (by simp)).set 3 (.bool q7) (by simp)).set 4 (.int .i64 x1) (by simp) |>.set 5 (.int .i64 f5) (by simp))
    have HCf := hide ((unhide HC).kept hKf (fun b h => by omega))
    have HKf := hide ((unhide HK).trans (hKf.mono (fun b _ h => Or.inr (by omega))))
    clear hKf
    have k0 := (unhide HOf).cell (i := 0) rfl
    have k1 := (unhide HOf).cell (i := 1) rfl
    have k2 := (unhide HOf).cell (i := 2) rfl
    have k3 := (unhide HOf).cell (i := 3) rfl
    have k4 := (unhide HOf).cell (i := 4) rfl
    have k5 := (unhide HOf).cell (i := 5) rfl
    go_wp2
    refine bodyPost_ret (v := vBox s f1 x6 q7 x1 f5) (by simp [results, Try.results57, go_sem, vBox, k0, k1, k2, k3, k4, k5]) rfl ⟨_, _, _, _, _, _, rfl, unhide HCf, (unhide HKf).mono (fun b hb h => h.resolve_right (by omega))⟩
  | false =>
    go_wp2_with fail
    refine (unhide HQ _ (unhide HC) _ (by omega) (by omega)).mono ?_
    rintro e w7 ⟨q7, rfl, hc, hk⟩
    replace HC := hide hc
    replace HO := hide ((unhide HO).kept hk (by omega))
    replace HX := hide ((unhide HX).kept hk (by omega))
    replace HK := hide ((unhide HK).trans (hk.mono (fun _ _ h => Or.inl h)))
    clear hc hk
    have kc := (unhide HX).cell (i := 3) rfl
    have kf := (unhide HX).frozen 3
    have hS := (Kept.refl (fun b => b = w4.heap.size) w7).setCell (p := ⟨w4.heap.size, 3, none⟩) rfl (.bool q7)
    have HX2 := hide ((unhide HX).set 3 (.bool q7) (by simp))
    have HO2 := hide ((unhide HO).kept hS (by omega))
    have HC2 := hide ((unhide HC).kept hS (fun b h => by omega))
    have HK2 := hide ((unhide HK).setCell (p := ⟨w4.heap.size, 3, none⟩) (Or.inr (by omega)) (.bool q7))
    generalize hV : w7.setCell ⟨w4.heap.size, 3, none⟩ (.bool q7) = V at HX2 HO2 HC2 HK2
    clear hS HX HC HK HO
    simp only [List.set_cons_zero, List.set_cons_succ] at HX2
    have HX := HX2
    have HO := HO2
    have HC := HC2
    have HK := HK2
    clear HX2 HO2 HC2 HK2
    have d0 := (unhide HO).cell (i := 0) rfl
    have df0 := (unhide HO).frozen 0
    have e0 := (unhide HX).cell (i := 0) rfl
    have d1 := (unhide HO).cell (i := 1) rfl
    have df1 := (unhide HO).frozen 1
    have e1 := (unhide HX).cell (i := 1) rfl
    have d2 := (unhide HO).cell (i := 2) rfl
    have df2 := (unhide HO).frozen 2
    have e2 := (unhide HX).cell (i := 2) rfl
    have d3 := (unhide HO).cell (i := 3) rfl
    have df3 := (unhide HO).frozen 3
    have e3 := (unhide HX).cell (i := 3) rfl
    have d4 := (unhide HO).cell (i := 4) rfl
    have df4 := (unhide HO).frozen 4
    have e4 := (unhide HX).cell (i := 4) rfl
    have d5 := (unhide HO).cell (i := 5) rfl
    have df5 := (unhide HO).frozen 5
    have e5 := (unhide HX).cell (i := 5) rfl
    have hKf := ((((((Kept.refl (fun b => b = w.heap.size) V).setCell (p := ⟨w.heap.size, 0, none⟩) rfl (.string s)).setCell (p := ⟨w.heap.size, 1, none⟩) rfl (.int .i64 f1)).setCell (p := ⟨w.heap.size, 2, none⟩) rfl (.int .i64 0)).setCell (p := ⟨w.heap.size, 3, none⟩) rfl (.bool q7)).setCell (p := ⟨w.heap.size, 4, none⟩) rfl (.int .i64 x1)).setCell (p := ⟨w.heap.size, 5, none⟩) rfl (.int .i64 f5)
    have HOf := hide ((((((unhide HO).set 0 (.string s) (by simp)).set 1 (.int .i64 f1) (by simp)).set 2 (.int .i64 0) (by simp)).set 3 (.bool q7) (by simp)).set 4 (.int .i64 x1) (by simp) |>.set 5 (.int .i64 f5) (by simp))
    have HCf := hide ((unhide HC).kept hKf (fun b h => by omega))
    have HKf := hide ((unhide HK).trans (hKf.mono (fun b _ h => Or.inr (by omega))))
    clear hKf
    have k0 := (unhide HOf).cell (i := 0) rfl
    have k1 := (unhide HOf).cell (i := 1) rfl
    have k2 := (unhide HOf).cell (i := 2) rfl
    have k3 := (unhide HOf).cell (i := 3) rfl
    have k4 := (unhide HOf).cell (i := 4) rfl
    have k5 := (unhide HOf).cell (i := 5) rfl
    go_wp2
    refine bodyPost_ret (v := vBox s f1 0 q7 x1 f5) (by simp [results, Try.results57, go_sem, vBox, k0, k1, k2, k3, k4, k5]) rfl ⟨_, _, _, _, _, _, rfl, unhide HCf, (unhide HKf).mono (fun b hb h => h.resolve_right (by omega))⟩

end Go.Proofs.Ytmnpeljgafmnpaa

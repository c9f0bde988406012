/- Boxes that are drawn: l11DrawAny. Written by wip/mkds.py. No statement about the program stands here. -/
import Derived.Test.YtmnpeljgafmnpaaDsB2
namespace Go.Proofs.Ytmnpeljgafmnpaa
open Go.RowKit

set_option maxRecDepth 10000 in
set_option maxHeartbeats 6400000 in
theorem l11DrawAny_any (cb n : Nat) (v : Value) (w : World) (h : Cur w cb v n) (hn : n ≤ 1048576) :
    Calls Try.prog 59 #[.pointer (some ⟨cb, 0, none⟩)] w fun e w' => ∃ s wt cl co fr to, e = .returned (vBox s wt cl co fr to) ∧ Cur w' cb v n ∧ Kept (fun b => b = cb) w w' := by
  have hcl := h.lt
  have hA := Below.alloc1 w (.cells #[.string ⟨#[]⟩, .int .i64 0, .int .i64 0, .bool false, .int .i64 0, .int .i64 0] 34)
  have HC := hide (h.below hA)
  have HK : Hid (Kept (fun b => b = cb ∨ w.heap.size ≤ b) w (w.alloc (.cells #[.string ⟨#[]⟩, .int .i64 0, .int .i64 0, .bool false, .int .i64 0, .int .i64 0] 34))) := kept_of_below hA
  have HO := hide (ownV_alloc w #[.string ⟨#[]⟩, .int .i64 0, .int .i64 0, .bool false, .int .i64 0, .int .i64 0] 34)
  have HB := hide fun W (hW : Cur W cb v n) k h0 h1 => l1Below_any cb n v k W hW hn h0 h1
  have HP := hide fun W (hW : Cur W cb v n) g m xs => l1PickInt_any cb n v g m xs W hW hn
  have HD := hide fun W (hW : Cur W cb v n) => l11Draw_any cb n v W hW hn
  have HT := hide fun W (hW : Cur W cb v n) => l11DrawText_any cb n v W hW hn
  clear h hA
  go_enter Try.func59, Try.ntmps59
  go_wp2_with fail
  refine (unhide HD _ (unhide HC)).mono ?_
  rintro e w1 ⟨s, wt, cl, co, fr, to, rfl, hc, hk⟩
  replace HC := hide hc
  replace HO := hide ((unhide HO).kept hk (by omega))
  replace HK := hide ((unhide HK).trans (hk.mono (fun _ _ h => Or.inl h)))
  clear hc hk HD
  unfold vBox
  have hs1 := (unhide HK).size
  have ho1 := (unhide HO).lt
  have hA := Below.alloc1 w1 (.cells #[.string s, .int .i64 wt, .int .i64 cl, .bool co, .int .i64 fr, .int .i64 to] 34)
  have HX := hide (ownV_alloc w1 #[.string s, .int .i64 wt, .int .i64 cl, .bool co, .int .i64 fr, .int .i64 to] 34)
  replace HC := hide ((unhide HC).below hA)
  replace HO := hide ((unhide HO).step hA)
  replace HK := hide ((unhide HK).trans (kept_of_below hA))
  clear hA
  have hx1 := (unhide HX).lt
  have hl1 := (unhide HC).lt
  simp only [World.size_alloc] at hx1 hl1
  go_wp2_with fail
  refine (unhide HB _ (unhide HC) _ (by omega) (by omega)).mono ?_
  rintro e w2 ⟨x2, rfl, x2a, x2b, hc, hk⟩
  replace HC := hide hc
  replace HO := hide ((unhide HO).kept hk (by omega))
  replace HX := hide ((unhide HX).kept hk (by omega))
  replace HK := hide ((unhide HK).trans (hk.mono (fun _ _ h => Or.inl h)))
  clear hc hk
  have hl2 := (unhide HC).lt
  have hx2 := (unhide HX).lt
  have ho2 := (unhide HO).lt
  have hxx : x2 = 0 ∨ x2 = 1 ∨ x2 = 2 ∨ x2 = 3 ∨ x2 = 4 ∨ 4 < x2 := by omega
  rcases hxx with rfl | rfl | rfl | rfl | rfl | hx
  · go_wp2_with fail
    refine (unhide HT _ (unhide HC)).mono ?_
    rintro e w3 ⟨y, rfl, hc, hk⟩
    replace HC := hide hc
    replace HO := hide ((unhide HO).kept hk (by omega))
    replace HX := hide ((unhide HX).kept hk (by omega))
    replace HK := hide ((unhide HK).trans (hk.mono (fun _ _ h => Or.inl h)))
    clear hc hk HB HP HT
    have kc := (unhide HX).cell (i := 0) rfl
    have kf := (unhide HX).frozen 0
    have hS := (Kept.refl (fun b => b = w1.heap.size) w3).setCell (p := ⟨w1.heap.size, 0, none⟩) rfl (.string y)
    have HX2 := hide ((unhide HX).set 0 (.string y) (by simp))
    have HO2 := hide ((unhide HO).kept hS (by omega))
    have HC2 := hide ((unhide HC).kept hS (fun b h => by omega))
    have HK2 := hide ((unhide HK).setCell (p := ⟨w1.heap.size, 0, none⟩) (Or.inr (by omega)) (.string y))
    generalize hV : w3.setCell ⟨w1.heap.size, 0, none⟩ (.string y) = V at HX2 HO2 HC2 HK2
    clear hS HX HC HK HO
    simp only [List.set_cons_zero] at HX2
    have HX := HX2
    have HO := HO2
    have HC := HC2
    have HK := HK2
    clear HX2 HO2 HC2 HK2
    have d0 := (unhide HO).cell (i := 0) rfl
    have df0 := (unhide HO).frozen 0
    have e0 := (unhide HX).cell (i := 0) rfl
    have d1 := (unhide HO).cell (i := 1) rfl
    have df1 := (unhide HO).frozen 1
    have e1 := (unhide HX).cell (i := 1) rfl
    have d2 := (unhide HO).cell (i := 2) rfl
    have df2 := (unhide HO).frozen 2
    have e2 := (unhide HX).cell (i := 2) rfl
    have d3 := (unhide HO).cell (i := 3) rfl
    have df3 := (unhide HO).frozen 3
    have e3 := (unhide HX).cell (i := 3) rfl
    have d4 := (unhide HO).cell (i := 4) rfl
    have df4 := (unhide HO).frozen 4
    have e4 := (unhide HX).cell (i := 4) rfl
    have d5 := (unhide HO).cell (i := 5) rfl
    have df5 := (unhide HO).frozen 5
    have e5 := (unhide HX).cell (i := 5) rfl
    have hKf := ((((((Kept.refl (fun b => b = w.heap.size) V).setCell (p := ⟨w.heap.size, 0, none⟩) rfl (.string y)).setCell (p := ⟨w.heap.size, 1, none⟩) rfl (.int .i64 wt)).setCell (p := ⟨w.heap.size, 2, none⟩) rfl (.int .i64 cl)).setCell (p := ⟨w.heap.size, 3, none⟩) rfl (.bool co)).setCell (p := ⟨w.heap.size, 4, none⟩) rfl (.int .i64 fr)).setCell (p := ⟨w.heap.size, 5, none⟩) rfl (.int .i64 to)
    have HOf := hide ((((((unhide HO).set 0 (.string y) (by simp)).set 1 (.int .i64 wt) (by simp)).set 2 (.int .i64 cl) (by simp)).set 3 (.bool co) (by simp)).set 4 (.int .i64 fr) (by simp) |>.set 5 (.int .i64 to) (by simp))
    have HCf := hide ((unhide HC).kept hKf (fun b h => by omega))
    have HKf := hide ((unhide HK).trans (hKf.mono (fun b _ h => Or.inr (by omega))))
    clear hKf
    have k0 := (unhide HOf).cell (i := 0) rfl
    have k1 := (unhide HOf).cell (i := 1) rfl
    have k2 := (unhide HOf).cell (i := 2) rfl
    have k3 := (unhide HOf).cell (i := 3) rfl
    have k4 := (unhide HOf).cell (i := 4) rfl
    have k5 := (unhide HOf).cell (i := 5) rfl
    go_wp2
    refine bodyPost_ret (v := vBox y wt cl co fr to) (by simp [results, Try.results59, go_sem, vBox, k0, k1, k2, k3, k4, k5]) rfl ⟨_, _, _, _, _, _, rfl, unhide HCf, (unhide HKf).mono (fun b hb h => h.resolve_right (by omega))⟩
  · have hA := Below.alloc1 w2 (.cells #[.int .i64 (0), .int .i64 (40000), .int .i64 (40001), .int .i64 (-1)] 3)
    have HY : Hid (OwnV (w2.alloc (.cells #[.int .i64 (0), .int .i64 (40000), .int .i64 (40001), .int .i64 (-1)] 3)) w2.heap.size (ints [0, 40000, 40001, -1])) := ownV_alloc w2 #[.int .i64 (0), .int .i64 (40000), .int .i64 (40001), .int .i64 (-1)] 3
    replace HC := hide ((unhide HC).below hA)
    replace HO := hide ((unhide HO).step hA)
    replace HX := hide ((unhide HX).step hA)
    replace HK := hide ((unhide HK).trans (kept_of_below hA))
    clear hA
    go_wp2_with fail
    refine (unhide HP _ (unhide HC) _ 4 _ (unhide HY) (by omega) rfl (by omega) (by omega)).mono ?_
    rintro e w3 ⟨y, rfl, hc, hk⟩
    clear HY
    replace HC := hide hc
    replace HO := hide ((unhide HO).kept hk (by omega))
    replace HX := hide ((unhide HX).kept hk (by omega))
    replace HK := hide ((unhide HK).trans (hk.mono (fun _ _ h => Or.inl h)))
    clear hc hk HB HP HT
    have kc := (unhide HX).cell (i := 1) rfl
    have kf := (unhide HX).frozen 1
    have hS := (Kept.refl (fun b => b = w1.heap.size) w3).setCell (p := ⟨w1.heap.size, 1, none⟩) rfl (.int .i64 y)
    have HX2 := hide ((unhide HX).set 1 (.int .i64 y) (by simp))
    have HO2 := hide ((unhide HO).kept hS (by omega))
    have HC2 := hide ((unhide HC).kept hS (fun b h => by omega))
    have HK2 := hide ((unhide HK).setCell (p := ⟨w1.heap.size, 1, none⟩) (Or.inr (by omega)) (.int .i64 y))
    generalize hV : w3.setCell ⟨w1.heap.size, 1, none⟩ (.int .i64 y) = V at HX2 HO2 HC2 HK2
    clear hS HX HC HK HO
    simp only [List.set_cons_zero, List.set_cons_succ] at HX2
    have HX := HX2
    have HO := HO2
    have HC := HC2
    have HK := HK2
    clear HX2 HO2 HC2 HK2
    have d0 := (unhide HO).cell (i := 0) rfl
    have df0 := (unhide HO).frozen 0
    have e0 := (unhide HX).cell (i := 0) rfl
    have d1 := (unhide HO).cell (i := 1) rfl
    have df1 := (unhide HO).frozen 1
    have e1 := (unhide HX).cell (i := 1) rfl
    have d2 := (unhide HO).cell (i := 2) rfl
    have df2 := (unhide HO).frozen 2
    have e2 := (unhide HX).cell (i := 2) rfl
    have d3 := (unhide HO).cell (i := 3) rfl
    have df3 := (unhide HO).frozen 3
    have e3 := (unhide HX).cell (i := 3) rfl
    have d4 := (unhide HO).cell (i := 4) rfl
    have df4 := (unhide HO).frozen 4
    have e4 := (unhide HX).cell (i := 4) rfl
    have d5 := (unhide HO).cell (i := 5) rfl
    have df5 := (unhide HO).frozen 5
    have e5 := (unhide HX).cell (i := 5) rfl
    have hKf := ((((((Kept.refl (fun b => b = w.heap.size) V).setCell (p := ⟨w.heap.size, 0, none⟩) rfl (.string s)).setCell (p := ⟨w.heap.size, 1, none⟩) rfl (.int .i64 y)).setCell (p := ⟨w.heap.size, 2, none⟩) rfl (.int .i64 cl)).setCell (p := ⟨w.heap.size, 3, none⟩) rfl (.bool co)).setCell (p := ⟨w.heap.size, 4, none⟩) rfl (.int .i64 fr)).setCell (p := ⟨w.heap.size, 5, none⟩) rfl (.int .i64 to)
    have HOf := hide ((((((unhide HO).set 0 (.string s) (by simp)).set 1 (.int .i64 y) (by simp)).set 2 (.int .i64 cl) (by simp)).set 3 (.bool co) (by simp)).set 4 (.int .i64 fr) (by simp) |>.set 5 (.int .i64 to) (by simp))
    have HCf := hide ((unhide HC).kept hKf (fun b h => by omega))
    have HKf := hide ((unhide HK).trans (hKf.mono (fun b _ h => Or.inr (by omega))))
    clear hKf
    have k0 := (unhide HOf).cell (i := 0) rfl
    have k1 := (unhide HOf).cell (i := 1) rfl
    have k2 := (unhide HOf).cell (i := 2) rfl
    have k3 := (unhide HOf).cell (i := 3) rfl
    have k4 := (unhide HOf).cell (i := 4) rfl
    have k5 := (unhide HOf).cell (i := 5) rfl
    go_wp2
    refine bodyPost_ret (v := vBox s y cl co fr to) (by simp [results, Try.results59, go_sem, vBox, k0, k1, k2, k3, k4, k5]) rfl ⟨_, _, _, _, _, _, rfl, unhide HCf, (unhide HKf).mono (fun b hb h => h.resolve_right (by omega))⟩
  · have hA := Below.alloc1 w2 (.cells #[.int .i64 (-1), .int .i64 (9), .int .i64 (10)] 3)
    have HY : Hid (OwnV (w2.alloc (.cells #[.int .i64 (-1), .int .i64 (9), .int .i64 (10)] 3)) w2.heap.size (ints [-1, 9, 10])) := ownV_alloc w2 #[.int .i64 (-1), .int .i64 (9), .int .i64 (10)] 3
    replace HC := hide ((unhide HC).below hA)
    replace HO := hide ((unhide HO).step hA)
    replace HX := hide ((unhide HX).step hA)
    replace HK := hide ((unhide HK).trans (kept_of_below hA))
    clear hA
    go_wp2_with fail
    refine (unhide HP _ (unhide HC) _ 3 _ (unhide HY) (by omega) rfl (by omega) (by omega)).mono ?_
    rintro e w3 ⟨y, rfl, hc, hk⟩
    clear HY
    replace HC := hide hc
    replace HO := hide ((unhide HO).kept hk (by omega))
    replace HX := hide ((unhide HX).kept hk (by omega))
    replace HK := hide ((unhide HK).trans (hk.mono (fun _ _ h => Or.inl h)))
    clear hc hk HB HP HT
    have kc := (unhide HX).cell (i := 2) rfl
    have kf := (unhide HX).frozen 2
    have hS := (Kept.refl (fun b => b = w1.heap.size) w3).setCell (p := ⟨w1.heap.size, 2, none⟩) rfl (.int .i64 y)
    have HX2 := hide ((unhide HX).set 2 (.int .i64 y) (by simp))
    have HO2 := hide ((unhide HO).kept hS (by omega))
    have HC2 := hide ((unhide HC).kept hS (fun b h => by omega))
    have HK2 := hide ((unhide HK).setCell (p := ⟨w1.heap.size, 2, none⟩) (Or.inr (by omega)) (.int .i64 y))
    generalize hV : w3.setCell ⟨w1.heap.size, 2, none⟩ (.int .i64 y) = V at HX2 HO2 HC2 HK2
    clear hS HX HC HK HO
    simp only [List.set_cons_zero, List.set_cons_succ] at HX2
    have HX := HX2
    have HO := HO2
    have HC := HC2
    have HK := HK2
    clear HX2 HO2 HC2 HK2
    have d0 := (unhide HO).cell (i := 0) rfl
    have df0 := (unhide HO).frozen 0
    have e0 := (unhide HX).cell (i := 0) rfl
    have d1 := (unhide HO).cell (i := 1) rfl
    have df1 := (unhide HO).frozen 1
    have e1 := (unhide HX).cell (i := 1) rfl
    have d2 := (unhide HO).cell (i := 2) rfl
    have df2 := (unhide HO).frozen 2
    have e2 := (unhide HX).cell (i := 2) rfl
    have d3 := (unhide HO).cell (i := 3) rfl
    have df3 := (unhide HO).frozen 3
    have e3 := (unhide HX).cell (i := 3) rfl
    have d4 := (unhide HO).cell (i := 4) rfl
    have df4 := (unhide HO).frozen 4
    have e4 := (unhide HX).cell (i := 4) rfl
    have d5 := (unhide HO).cell (i := 5) rfl
    have df5 := (unhide HO).frozen 5
    have e5 := (unhide HX).cell (i := 5) rfl
    have hKf := ((((((Kept.refl (fun b => b = w.heap.size) V).setCell (p := ⟨w.heap.size, 0, none⟩) rfl (.string s)).setCell (p := ⟨w.heap.size, 1, none⟩) rfl (.int .i64 wt)).setCell (p := ⟨w.heap.size, 2, none⟩) rfl (.int .i64 y)).setCell (p := ⟨w.heap.size, 3, none⟩) rfl (.bool co)).setCell (p := ⟨w.heap.size, 4, none⟩) rfl (.int .i64 fr)).setCell (p := ⟨w.heap.size, 5, none⟩) rfl (.int .i64 to)
    have HOf := hide ((((((unhide HO).set 0 (.string s) (by simp)).set 1 (.int .i64 wt) (by simp)).set 2 (.int .i64 y) (by simp)).set 3 (.bool co) (by simp)).set 4 (.int .i64 fr) (by simp) |>.set 5 (.int .i64 to) (by simp))
    have HCf := hide ((unhide HC).kept hKf (fun b h => by omega))
    have HKf := hide ((unhide HK).trans (hKf.mono (fun b _ h => Or.inr (by omega))))
    clear hKf
    have k0 := (unhide HOf).cell (i := 0) rfl
    have k1 := (unhide HOf).cell (i := 1) rfl
    have k2 := (unhide HOf).cell (i := 2) rfl
    have k3 := (unhide HOf).cell (i := 3) rfl
    have k4 := (unhide HOf).cell (i := 4) rfl
    have k5 := (unhide HOf).cell (i := 5) rfl
    go_wp2
    refine bodyPost_ret (v := vBox s wt y co fr to) (by simp [results, Try.results59, go_sem, vBox, k0, k1, k2, k3, k4, k5]) rfl ⟨_, _, _, _, _, _, rfl, unhide HCf, (unhide HKf).mono (fun b hb h => h.resolve_right (by omega))⟩
  · have hA := Below.alloc1 w2 (.cells #[.int .i64 (-1), .int .i64 (18), .int .i64 (19)] 3)
    have HY : Hid (OwnV (w2.alloc (.cells #[.int .i64 (-1), .int .i64 (18), .int .i64 (19)] 3)) w2.heap.size (ints [-1, 18, 19])) := ownV_alloc w2 #[.int .i64 (-1), .int .i64 (18), .int .i64 (19)] 3
    replace HC := hide ((unhide HC).below hA)
    replace HO := hide ((unhide HO).step hA)
    replace HX := hide ((unhide HX).step hA)
    replace HK := hide ((unhide HK).trans (kept_of_below hA))
    clear hA
    go_wp2_with fail
    refine (unhide HP _ (unhide HC) _ 3 _ (unhide HY) (by omega) rfl (by omega) (by omega)).mono ?_
    rintro e w3 ⟨y, rfl, hc, hk⟩
    clear HY
    replace HC := hide hc
    replace HO := hide ((unhide HO).kept hk (by omega))
    replace HX := hide ((unhide HX).kept hk (by omega))
    replace HK := hide ((unhide HK).trans (hk.mono (fun _ _ h => Or.inl h)))
    clear hc hk HB HP HT
    have kc := (unhide HX).cell (i := 4) rfl
    have kf := (unhide HX).frozen 4
    have hS := (Kept.refl (fun b => b = w1.heap.size) w3).setCell (p := ⟨w1.heap.size, 4, none⟩) rfl (.int .i64 y)
    have HX2 := hide ((unhide HX).set 4 (.int .i64 y) (by simp))
    have HO2 := hide ((unhide HO).kept hS (by omega))
    have HC2 := hide ((unhide HC).kept hS (fun b h => by omega))
    have HK2 := hide ((unhide HK).setCell (p := ⟨w1.heap.size, 4, none⟩) (Or.inr (by omega)) (.int .i64 y))
    generalize hV : w3.setCell ⟨w1.heap.size, 4, none⟩ (.int .i64 y) = V at HX2 HO2 HC2 HK2
    clear hS HX HC HK HO
    simp only [List.set_cons_zero, List.set_cons_succ] at HX2
    have HX := HX2
    have HO := HO2
    have HC := HC2
    have HK := HK2
    clear HX2 HO2 HC2 HK2
    have d0 := (unhide HO).cell (i := 0) rfl
    have df0 := (unhide HO).frozen 0
    have e0 := (unhide HX).cell (i := 0) rfl
    have d1 := (unhide HO).cell (i := 1) rfl
    have df1 := (unhide HO).frozen 1
    have e1 := (unhide HX).cell (i := 1) rfl
    have d2 := (unhide HO).cell (i := 2) rfl
    have df2 := (unhide HO).frozen 2
    have e2 := (unhide HX).cell (i := 2) rfl
    have d3 := (unhide HO).cell (i := 3) rfl
    have df3 := (unhide HO).frozen 3
    have e3 := (unhide HX).cell (i := 3) rfl
    have d4 := (unhide HO).cell (i := 4) rfl
    have df4 := (unhide HO).frozen 4
    have e4 := (unhide HX).cell (i := 4) rfl
    have d5 := (unhide HO).cell (i := 5) rfl
    have df5 := (unhide HO).frozen 5
    have e5 := (unhide HX).cell (i := 5) rfl
    have hKf := ((((((Kept.refl (fun b => b = w.heap.size) V).setCell (p := ⟨w.heap.size, 0, none⟩) rfl (.string s)).setCell (p := ⟨w.heap.size, 1, none⟩) rfl (.int .i64 wt)).setCell (p := ⟨w.heap.size, 2, none⟩) rfl (.int .i64 cl)).setCell (p := ⟨w.heap.size, 3, none⟩) rfl (.bool co)).setCell (p := ⟨w.heap.size, 4, none⟩) rfl (.int .i64 y)).setCell (p := ⟨w.heap.size, 5, none⟩) rfl (.int .i64 to)
    have HOf := hide ((((((unhide HO).set 0 (.string s) (by simp)).set 1 (.int .i64 wt) (by simp)).set 2 (.int .i64 cl) (by simp)).set 3 (.bool co) (by simp)).set 4 (.int .i64 y) (by simp) |>.set 5 (.int .i64 to) (by simp))
    have HCf := hide ((unhide HC).kept hKf (fun b h => by omega))
    have HKf := hide ((unhide HK).trans (hKf.mono (fun b _ h => Or.inr (by omega))))
    clear hKf
    have k0 := (unhide HOf).cell (i := 0) rfl
    have k1 := (unhide HOf).cell (i := 1) rfl
    have k2 := (unhide HOf).cell (i := 2) rfl
    have k3 := (unhide HOf).cell (i := 3) rfl
    have k4 := (unhide HOf).cell (i := 4) rfl
    have k5 := (unhide HOf).cell (i := 5) rfl
    go_wp2
    refine bodyPost_ret (v := vBox s wt cl co y to) (by simp [results, Try.results59, go_sem, vBox, k0, k1, k2, k3, k4, k5]) rfl ⟨_, _, _, _, _, _, rfl, unhide HCf, (unhide HKf).mono (fun b hb h => h.resolve_right (by omega))⟩
  · have hA := Below.alloc1 w2 (.cells #[.int .i64 (0), .int .i64 (19), .int .i64 (20)] 3)
    have HY : Hid (OwnV (w2.alloc (.cells #[.int .i64 (0), .int .i64 (19), .int .i64 (20)] 3)) w2.heap.size (ints [0, 19, 20])) := ownV_alloc w2 #[.int .i64 (0), .int .i64 (19), .int .i64 (20)] 3
    replace HC := hide ((unhide HC).below hA)
    replace HO := hide ((unhide HO).step hA)
    replace HX := hide ((unhide HX).step hA)
    replace HK := hide ((unhide HK).trans (kept_of_below hA))
    clear hA
    go_wp2_with fail
    refine (unhide HP _ (unhide HC) _ 3 _ (unhide HY) (by omega) rfl (by omega) (by omega)).mono ?_
    rintro e w3 ⟨y, rfl, hc, hk⟩
    clear HY
    replace HC := hide hc
    replace HO := hide ((unhide HO).kept hk (by omega))
    replace HX := hide ((unhide HX).kept hk (by omega))
    replace HK := hide ((unhide HK).trans (hk.mono (fun _ _ h => Or.inl h)))
    clear hc hk HB HP HT
    have kc := (unhide HX).cell (i := 5) rfl
    have kf := (unhide HX).frozen 5
    have hS := (Kept.refl (fun b => b = w1.heap.size) w3).setCell (p := ⟨w1.heap.size, 5, none⟩) rfl (.int .i64 y)
    have HX2 := hide ((unhide HX).set 5 (.int .i64 y) (by simp))
    have HO2 := hide ((unhide HO).kept hS (by omega))
    have HC2 := hide ((unhide HC).kept hS (fun b h => by omega))
    have HK2 := hide ((unhide HK).setCell (p := ⟨w1.heap.size, 5, none⟩) (Or.inr (by omega)) (.int .i64 y))
    generalize hV : w3.setCell ⟨w1.heap.size, 5, none⟩ (.int .i64 y) = V at HX2 HO2 HC2 HK2
    clear hS HX HC HK HO
    simp only [List.set_cons_zero, List.set_cons_succ] at HX2
    have HX := HX2
    have HO := HO2
    have HC := HC2
    have HK := HK2
    clear HX2 HO2 HC2 HK2
    have d0 := (unhide HO).cell (i := 0) rfl
    have df0 := (unhide HO).frozen 0
    have e0 := (unhide HX).cell (i := 0) rfl
    have d1 := (unhide HO).cell (i := 1) rfl
    have df1 := (unhide HO).frozen 1
    have e1 := (unhide HX).cell (i := 1) rfl
    have d2 := (unhide HO).cell (i := 2) rfl
    have df2 := (unhide HO).frozen 2
    have e2 := (unhide HX).cell (i := 2) rfl
    have d3 := (unhide HO).cell (i := 3) rfl
    have df3 := (unhide HO).frozen 3
    have e3 := (unhide HX).cell (i := 3) rfl
    have d4 := (unhide HO).cell (i := 4) rfl
    have df4 := (unhide HO).frozen 4
    have e4 := (unhide HX).cell (i := 4) rfl
    have d5 := (unhide HO).cell (i := 5) rfl
    have df5 := (unhide HO).frozen 5
    have e5 := (unhide HX).cell (i := 5) rfl
    have hKf := ((((((Kept.refl (fun b => b = w.heap.size) V).setCell (p := ⟨w.heap.size, 0, none⟩) rfl (.string s)).setCell (p := ⟨w.heap.size, 1, none⟩) rfl (.int .i64 wt)).setCell (p := ⟨w.heap.size, 2, none⟩) rfl (.int .i64 cl)).setCell (p := ⟨w.heap.size, 3, none⟩) rfl (.bool co)).setCell (p := ⟨w.heap.size, 4, none⟩) rfl (.int .i64 fr)).setCell (p := ⟨w.heap.size, 5, none⟩) rfl (.int .i64 y)
    have HOf := hide ((((((unhide HO).set 0 (.string s) (by simp)).set 1 (.int .i64 wt) (by simp)).set 2 (.int .i64 cl) (by simp)).set 3 (.bool co) (by simp)).set 4 (.int .i64 fr) (by simp) |>.set 5 (.int .i64 y) (by simp))
    have HCf := hide ((unhide HC).kept hKf (fun b h => by omega))
    have HKf := hide ((unhide HK).trans (hKf.mono (fun b _ h => Or.inr (by omega))))
    clear hKf
    have k0 := (unhide HOf).cell (i := 0) rfl
    have k1 := (unhide HOf).cell (i := 1) rfl
    have k2 := (unhide HOf).cell (i := 2) rfl
    have k3 := (unhide HOf).cell (i := 3) rfl
    have k4 := (unhide HOf).cell (i := 4) rfl
    have k5 := (unhide HOf).cell (i := 5) rfl
    go_wp2
    refine bodyPost_ret (v := vBox s wt cl co fr y) (by simp [results, Try.results59, go_sem, vBox, k0, k1, k2, k3, k4, k5]) rfl ⟨_, _, _, _, _, _, rfl, unhide HCf, (unhide HKf).mono (fun b hb h => h.resolve_right (by omega))⟩
  · have t0 : (x2 == 0) = false := by simp; omega
    have t1 : (x2 == 1) = false := by simp; omega
    have t2 : (x2 == 2) = false := by simp; omega
    have t3 : (x2 == 3) = false := by simp; omega
    have t4 : (x2 == 4) = false := by simp; omega
    obtain ⟨V, eV⟩ : ∃ V, V = w2 := ⟨_, rfl⟩
    rw [← eV] at HC HK HO HX ⊢
    clear eV
    have d0 := (unhide HO).cell (i := 0) rfl
    have df0 := (unhide HO).frozen 0
    have e0 := (unhide HX).cell (i := 0) rfl
    have d1 := (unhide HO).cell (i := 1) rfl
    have df1 := (unhide HO).frozen 1
    have e1 := (unhide HX).cell (i := 1) rfl
    have d2 := (unhide HO).cell (i := 2) rfl
    have df2 := (unhide HO).frozen 2
    have e2 := (unhide HX).cell (i := 2) rfl
    have d3 := (unhide HO).cell (i := 3) rfl
    have df3 := (unhide HO).frozen 3
    have e3 := (unhide HX).cell (i := 3) rfl
    have d4 := (unhide HO).cell (i := 4) rfl
    have df4 := (unhide HO).frozen 4
    have e4 := (unhide HX).cell (i := 4) rfl
    have d5 := (unhide HO).cell (i := 5) rfl
    have df5 := (unhide HO).frozen 5
    have e5 := (unhide HX).cell (i := 5) rfl
    have hKf := ((((((Kept.refl (fun b => b = w.heap.size) V).setCell (p := ⟨w.heap.size, 0, none⟩) rfl (.string s)).setCell (p := ⟨w.heap.size, 1, none⟩) rfl (.int .i64 wt)).setCell (p := ⟨w.heap.size, 2, none⟩) rfl (.int .i64 cl)).setCell (p := ⟨w.heap.size, 3, none⟩) rfl (.bool co)).setCell (p := ⟨w.heap.size, 4, none⟩) rfl (.int .i64 fr)).setCell (p := ⟨w.heap.size, 5, none⟩) rfl (.int .i64 to)
    have HOf := hide ((((((unhide HO).set 0 (.string s) (by simp)).set 1 (.int .i64 wt) (by simp)).set 2 (.int .i64 cl) (by simp)).set 3 (.bool co) (by simp)).set 4 (.int .i64 fr) (by simp) |>.set 5 (.int .i64 to) (by simp))
    have HCf := hide ((unhide HC).kept hKf (fun b h => by omega))
    have HKf := hide ((unhide HK).trans (hKf.mono (fun b _ h => Or.inr (by omega))))
    clear hKf
    have k0 := (unhide HOf).cell (i := 0) rfl
    have k1 := (unhide HOf).cell (i := 1) rfl
    have k2 := (unhide HOf).cell (i := 2) rfl
    have k3 := (unhide HOf).cell (i := 3) rfl
    have k4 := (unhide HOf).cell (i := 4) rfl
    have k5 := (unhide HOf).cell (i := 5) rfl
    go_wp2
    refine bodyPost_ret (v := vBox s wt cl co fr to) (by simp [results, Try.results59, go_sem, vBox, k0, k1, k2, k3, k4, k5]) rfl ⟨_, _, _, _, _, _, rfl, unhide HCf, (unhide HKf).mono (fun b hb h => h.resolve_right (by omega))⟩

end Go.Proofs.Ytmnpeljgafmnpaa

/- The law of CartsOk, walked. Written by wip/mk19.py. -/
import Derived.Test.YtnapggchejdcgaaFrlC
import Derived.Deep.RegionHeld3
import Derived.Deep.DeepCutAuto
import Derived.Deep.Cut
namespace Go.Proofs.Ytnapggchejdcgaa
open Go.RowKit

set_option maxRecDepth 100000 in
set_option maxHeartbeats 16000000 in
theorem lawCartsOk_any (s : Flr) (pv : Value) (ov : Value) (L : List CartT) (w : World) (h : IntsIn w pv s.W) (ho : RCart w ov L) :
    Calls Try.prog 6 #[vFloor s.wd s.hg pv, ov] w fun e w' => e = .returned (.bool true) ∧ Below w.heap.size w w' := by
  have HV := hide h
  obtain ⟨ao, cap, rfl, hl, hm, -⟩ := h
  unfold maxLen at hm
  have HTO0 := hide fun V (hb : Below w.heap.size w V) hs => toFloor_any s.wd s.hg ao s.W.length cap s.W V ((unhide HV).below hb) hs
  have HSZ := hide fun V (hb : Below w.heap.size w V) => szFloor_any s.wd s.hg ao s.W.length cap s.W 1048576 V ((unhide HV).below hb) (by omega) (by omega)
  have HEQ := hide fun a1 n1 c1 a2 n2 c2 V h1 h2 => eqFloor_any s.wd s.hg a1 n1 c1 a2 n2 c2 s.W V h1 h2
  have HVO := hide ho
  obtain ⟨oo, ocap, rfl, -⟩ := ho
  have HSO := hide fun V (hV : Below w.heap.size w V) l h0 h1 => szCartS_any _ L l V ((unhide HVO).below hV) h0 h1
  have HTP0 := hide fun V (hV : Below w.heap.size w V) hs => toCartS_any _ L V ((unhide HVO).below hV) hs
  obtain ⟨r, er⟩ : ∃ r, r = ctB s L := ⟨_, rfl⟩
  have HSP := hide fun V a n c cv h h2 => specCartsOk_any s a n c cv L V h h2
  have HIP := hide fun V a n c cv h h2 => implCartsOk_any s a n c cv L V h h2
  rw [← er] at HSP HIP
  clear er
  have hrr : (r != r) = false := by simp
  unfold vFloor at *
  go_enter Try.func6, Try.ntmps6
  go_upto_region 2 with (fail)
  obtain ⟨g0, eg0⟩ : ∃ z, z = w.heap.size := ⟨_, rfl⟩
  obtain ⟨W0, eW⟩ : ∃ z, z = w.alloc (.cells #[.int .i64 s.wd, .int .i64 s.hg, .slice ao s.W.length cap] 45) := ⟨_, rfl⟩
  have HW : Hid (Below w.heap.size w W0) := by rw [eW]; exact Below.alloc1 _ _
  have HB : Hid (OwnV W0 g0 [.int .i64 s.wd, .int .i64 s.hg, .slice ao s.W.length cap]) := by rw [eW, eg0]; exact ownV_alloc _ _ _
  rw [← eW, ← eg0]
  have hg0 : w.heap.size ≤ g0 := by omega
  clear eW eg0
  have b0 := (unhide HB).cell (i := 0) rfl
  have b1 := (unhide HB).cell (i := 1) rfl
  have b2 := (unhide HB).cell (i := 2) rfl
  go_wp2_with fail
  refine (unhide HSZ _ (unhide HW)).mono ?_
  rintro e V1 ⟨l0, rfl, hp0, hq0, hs, hb⟩
  replace HW := hide (Below.step (unhide HW) hb)
  replace HB := hide (OwnV.step (unhide HB) hb)
  have HS := hide hs
  clear hb b0 b1 b2 HSZ hs
  by_cases hneg0 : l0 < 0
  · clear HS
    go_wp2
    go_ret
    exact ⟨rfl, unhide HW⟩
  have hsn := unhide HS (by omega)
  clear HS
  have HTO := hide fun V hV => unhide HTO0 V hV hsn
  clear HTO0
  go_wp2_with fail
  refine (unhide HSO _ (unhide HW) _ (by omega) (by omega)).mono ?_
  rintro e V2 ⟨l1, rfl, ⟨hs0, hs1, hs2⟩, hb⟩
  replace HW := hide (Below.step (unhide HW) hb)
  replace HB := hide (OwnV.step (unhide HB) hb)
  have HR := hide hs2
  clear hb hs2 HSO
  by_cases hneg1 : l1 < 0
  · go_wp2
    go_ret
    exact ⟨rfl, unhide HW⟩
  have hOl : L.length ≤ 1048576 := unhide HR (by omega)
  clear HR
  have HTP := hide fun V hV => unhide HTP0 V hV hOl
  have HOm : Hid (L.length ≤ maxLen) := by show _ ≤ _; unfold maxLen; omega
  clear HTP0
  have b0 := (unhide HB).cell (i := 0) rfl
  have b1 := (unhide HB).cell (i := 1) rfl
  have b2 := (unhide HB).cell (i := 2) rfl
  go_wp2_with fail
  refine (unhide HTO _ (unhide HW)).mono ?_
  rintro e V3 ⟨g7, rfl, -, ho7, hb⟩
  replace HW := hide (Below.step (unhide HW) hb)
  replace HB := hide (OwnV.step (unhide HB) hb)
  have HK1 := hide (OwnV.intsIn ho7 (Nat.le_refl _) (by unfold maxLen; omega))
  clear hb ho7 b0 b1 b2
  go_wp2_with fail
  refine (unhide HTP _ (unhide HW)).mono ?_
  rintro e V4 ⟨go1, rfl, -, ho1, hb⟩
  replace HW := hide (Below.step (unhide HW) hb)
  replace HB := hide (OwnV.step (unhide HB) hb)
  replace HK1 := hide ((unhide HK1).below hb)
  have HR1 := hide (OwnV.recsIn ho1 (Nat.le_refl _) (unhide HOm))
  clear hb ho1
  go_wp2_with fail
  refine (unhide HSP _ _ _ _ _ (unhide HK1) (unhide HR1)).mono ?_
  rintro e V5 ⟨rfl, hb⟩
  replace HW := hide (Below.step (unhide HW) hb)
  replace HB := hide (OwnV.step (unhide HB) hb)
  clear hb HK1 HR1 HSP
  have b0 := (unhide HB).cell (i := 0) rfl
  have b1 := (unhide HB).cell (i := 1) rfl
  have b2 := (unhide HB).cell (i := 2) rfl
  go_wp2_with fail
  refine (unhide HTO _ (unhide HW)).mono ?_
  rintro e V6 ⟨gr, rfl, hgr, ho, hb⟩
  replace HW := hide (Below.step (unhide HW) hb)
  replace HB := hide (OwnV.step (unhide HB) hb)
  have hsV6 := hb.size
  have HX := hide ho
  have hgr2 := ho.lt
  clear hb b0 b1 b2 ho
  obtain ⟨V7, eW2⟩ : ∃ z, z = V6.alloc (.cells #[.int .i64 s.wd, .int .i64 s.hg, .slice (some ⟨gr, 0, none⟩) s.W.length s.W.length] 26) := ⟨_, rfl⟩
  have hb := Below.alloc1 V6 (.cells #[.int .i64 s.wd, .int .i64 s.hg, .slice (some ⟨gr, 0, none⟩) s.W.length s.W.length] 26)
  have Hgx := hide (ownV_alloc V6 #[.int .i64 s.wd, .int .i64 s.hg, .slice (some ⟨gr, 0, none⟩) s.W.length s.W.length] 26)
  have hsV7 : V6.heap.size < V7.heap.size := by rw [eW2, World.size_alloc]; omega
  go_upto_region 10 with (fail)
  rw [← eW2] at hb Hgx ⊢
  clear eW2
  replace HW := hide (Below.step (unhide HW) hb)
  replace HB := hide (OwnV.step (unhide HB) hb)
  replace HX := hide (OwnV.step (unhide HX) hb)
  obtain ⟨gx, egx⟩ : ∃ z, z = V6.heap.size := ⟨_, rfl⟩
  rw [← egx] at Hgx ⊢
  have hgx1 : V6.heap.size ≤ gx := by omega
  have hgx2 : gx < V7.heap.size := by omega
  clear egx hb
  go_wp2_with fail
  refine (unhide HTP _ (unhide HW)).mono ?_
  rintro e V8 ⟨gq, rfl, hgq, hoq, hb⟩
  replace HW := hide (Below.step (unhide HW) hb)
  replace HB := hide (OwnV.step (unhide HB) hb)
  replace HX := hide (OwnV.step (unhide HX) hb)
  replace Hgx := hide (OwnV.step (unhide Hgx) hb)
  have HQ := hide hoq
  clear hb hoq
  have x0 := (unhide Hgx).cell (i := 0) rfl
  have x1 := (unhide Hgx).cell (i := 1) rfl
  have x2 := (unhide Hgx).cell (i := 2) rfl
  go_wp2_with fail
  refine (unhide HIP _ _ _ _ _ (OwnV.intsIn (unhide HX) (Nat.le_refl _) (by unfold maxLen; omega)) (OwnV.recsIn (unhide HQ) (Nat.le_refl _) (unhide HOm))).mono ?_
  rintro e V9 ⟨rfl, hb⟩
  replace HW := hide (Below.step (unhide HW) hb)
  replace HB := hide (OwnV.step (unhide HB) hb)
  replace HX := hide (OwnV.step (unhide HX) hb)
  replace Hgx := hide (OwnV.step (unhide Hgx) hb)
  replace HQ := hide (OwnV.step (unhide HQ) hb)
  clear hb x0 x1 x2 HIP
  have b0 := (unhide HB).cell (i := 0) rfl
  have b1 := (unhide HB).cell (i := 1) rfl
  have b2 := (unhide HB).cell (i := 2) rfl
  have x0 := (unhide Hgx).cell (i := 0) rfl
  have x1 := (unhide Hgx).cell (i := 1) rfl
  have x2 := (unhide Hgx).cell (i := 2) rfl
  go_upto_region 14 with (fail)
  clear b0 b1 b2 x0 x1 x2
  obtain ⟨wd, ewd⟩ : ∃ z, z = V9.drew := ⟨_, rfl⟩
  have hb : Below V9.heap.size V9 wd := by rw [ewd]; exact (Below.refl _ _).drew
  replace HW := hide (Below.step (unhide HW) hb)
  replace HB := hide (OwnV.step (unhide HB) hb)
  replace HX := hide (OwnV.step (unhide HX) hb)
  replace Hgx := hide (OwnV.step (unhide Hgx) hb)
  replace HQ := hide (OwnV.step (unhide HQ) hb)
  clear hb
  refine wp_region_held_drew (S := fun w' => w'.cell? ⟨g0, 0, none⟩ = some (.int .i64 s.wd) ∧ w'.cell? ⟨g0, 1, none⟩ = some (.int .i64 s.hg) ∧ w'.cell? ⟨g0, 2, none⟩ = some (.slice ao s.W.length cap) ∧ w'.cell? ⟨gx, 0, none⟩ = some (.int .i64 s.wd) ∧ w'.cell? ⟨gx, 1, none⟩ = some (.int .i64 s.hg) ∧ w'.cell? ⟨gx, 2, none⟩ = some (.slice (some ⟨gr, 0, none⟩) s.W.length s.W.length)) (by kernel_rfl) ⟨by rw [← ewd]; exact (unhide HB).cell (i := 0) rfl, by rw [← ewd]; exact (unhide HB).cell (i := 1) rfl, by rw [← ewd]; exact (unhide HB).cell (i := 2) rfl, by rw [← ewd]; exact (unhide Hgx).cell (i := 0) rfl, by rw [← ewd]; exact (unhide Hgx).cell (i := 1) rfl, by rw [← ewd]; exact (unhide Hgx).cell (i := 2) rfl⟩ (fun hHeld => ?_)
  rw [← ewd] at hHeld ⊢
  clear ewd
  refine wpAnyH_take (i := 0) (v := ?_) rfl (by kernel_rfl) (by kernel_rfl) (by kernel_rfl) (fun _ _ _ h => h) (Or.inl ⟨by rfl, ?_⟩) (by assumption) ?_
  rotate_left
  · intro wy hSw
    obtain ⟨hS0, hS1, hS2, hS3, hS4, hS5⟩ := hSw
    go_simp
    try with_reducible rfl
  try simp only [Act.put, List.getElem_toArray, List.getElem_cons_zero, List.setIfInBounds_toArray, List.set_cons_zero, List.set_cons_succ]
  refine wpAnyH_take (i := 1) (v := ?_) rfl (by kernel_rfl) (by kernel_rfl) (by kernel_rfl) (fun _ _ _ h => h) (Or.inl ⟨by rfl, ?_⟩) (by assumption) ?_
  rotate_left
  · intro wy hSw
    obtain ⟨hS0, hS1, hS2, hS3, hS4, hS5⟩ := hSw
    go_simp
    try with_reducible rfl
  try simp only [Act.put, List.getElem_toArray, List.getElem_cons_succ, List.getElem_cons_zero, List.setIfInBounds_toArray, List.set_cons_zero, List.set_cons_succ]
  refine wpAnyH_ready (rs := [2]) (by kernel_rfl) (by simp) ?_
  refine AllReadyH.cons rfl (fun K hK => ?_) AllReadyH.nil
  go_simp
  refine (unhide HTO _ (unhide HW)).mono ?_
  rintro e VI ⟨g7, rfl, -, ho7, hb⟩
  replace HW := hide (Below.step (unhide HW) hb)
  replace HB := hide (OwnV.step (unhide HB) hb)
  replace HX := hide (OwnV.step (unhide HX) hb)
  replace Hgx := hide (OwnV.step (unhide Hgx) hb)
  replace HQ := hide (OwnV.step (unhide HQ) hb)
  have HI := hide (OwnV.intsIn ho7 (Nat.le_refl _) (by unfold maxLen; omega))
  clear hb ho7
  refine hK.out _ _ ⟨(unhide HB).cell (i := 0) rfl, (unhide HB).cell (i := 1) rfl, (unhide HB).cell (i := 2) rfl, (unhide Hgx).cell (i := 0) rfl, (unhide Hgx).cell (i := 1) rfl, (unhide Hgx).cell (i := 2) rfl⟩ (fun hHeld => ?_)
  clear hK K
  try simp only [Act.put, List.setIfInBounds_toArray, List.set_cons_zero, List.set_cons_succ]
  refine wpAnyH_ready (rs := [3]) (by kernel_rfl) (by simp) ?_
  refine AllReadyH.cons rfl (fun K hK => ?_) AllReadyH.nil
  have HEE := hide (unhide HEQ _ _ _ _ _ _ VI (OwnV.intsIn (unhide HX) (Nat.le_refl _) (by unfold maxLen; omega)) (unhide HI))
  go_simp
  refine (unhide HEE).mono ?_
  rintro e VI2 ⟨rfl, hb⟩
  replace HW := hide (Below.step (unhide HW) hb)
  replace HB := hide (OwnV.step (unhide HB) hb)
  replace HX := hide (OwnV.step (unhide HX) hb)
  replace Hgx := hide (OwnV.step (unhide Hgx) hb)
  replace HQ := hide (OwnV.step (unhide HQ) hb)
  clear hb HEE HI
  refine hK.out _ _ ⟨(unhide HB).cell (i := 0) rfl, (unhide HB).cell (i := 1) rfl, (unhide HB).cell (i := 2) rfl, (unhide Hgx).cell (i := 0) rfl, (unhide Hgx).cell (i := 1) rfl, (unhide Hgx).cell (i := 2) rfl⟩ (fun hHeld => ?_)
  clear hK K
  try simp only [Act.put, List.setIfInBounds_toArray, List.set_cons_zero, List.set_cons_succ]
  refine wpAnyH_take (i := 4) (v := ?_) rfl (by kernel_rfl) (by kernel_rfl) (by kernel_rfl) (fun _ _ _ h => h) (Or.inl ⟨by rfl, ?_⟩) (by assumption) ?_
  rotate_left
  · intro wy hSw
    obtain ⟨hS0, hS1, hS2, hS3, hS4, hS5⟩ := hSw
    go_simp
    try with_reducible rfl
  try simp only [Act.put, List.getElem_toArray, List.getElem_cons_succ, List.getElem_cons_zero, List.setIfInBounds_toArray, List.set_cons_zero, List.set_cons_succ]
  refine wpAnyH_done (by kernel_rfl) ?_ _
  go_wp2_with fail
  refine (unhide HTP _ (unhide HW)).mono ?_
  rintro e V10 ⟨go1, rfl, -, ho1, hb⟩
  replace HW := hide (Below.step (unhide HW) hb)
  replace HB := hide (OwnV.step (unhide HB) hb)
  replace HX := hide (OwnV.step (unhide HX) hb)
  replace Hgx := hide (OwnV.step (unhide Hgx) hb)
  replace HQ := hide (OwnV.step (unhide HQ) hb)
  have HR1 := hide (OwnV.recsIn ho1 (Nat.le_refl _) (unhide HOm))
  clear hb ho1
  go_wp2_with fail
  refine (eqCartS_any _ _ L _ (OwnV.recsIn (unhide HQ) (Nat.le_refl _) (unhide HOm)) (unhide HR1)).mono ?_
  rintro e V11 ⟨rfl, hb⟩
  replace HW := hide (Below.step (unhide HW) hb)
  replace HB := hide (OwnV.step (unhide HB) hb)
  replace HX := hide (OwnV.step (unhide HX) hb)
  replace Hgx := hide (OwnV.step (unhide Hgx) hb)
  replace HQ := hide (OwnV.step (unhide HQ) hb)
  clear hb HR1
  go_wp2
  go_ret
  exact ⟨rfl, unhide HW⟩

end Go.Proofs.Ytnapggchejdcgaa

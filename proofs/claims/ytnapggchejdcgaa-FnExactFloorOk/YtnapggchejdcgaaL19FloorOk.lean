/- The law of FloorOk, walked. Written by wip/mk19.py. -/
import Derived.Test.YtnapggchejdcgaaFrlB
import Derived.Deep.RegionHeld3
import Derived.Deep.DeepCutAuto
import Derived.Deep.Cut
namespace Go.Proofs.Ytnapggchejdcgaa
open Go.RowKit

set_option maxRecDepth 100000 in
set_option maxHeartbeats 16000000 in
theorem lawFloorOk_any (s : Flr) (pv : Value) (w : World) (h : IntsIn w pv s.W) :
    Calls Try.prog 5 #[vFloor s.wd s.hg pv] w fun e w' => e = .returned (.bool true) ∧ Below w.heap.size w w' := by
  have HV := hide h
  obtain ⟨ao, cap, rfl, hl, hm, -⟩ := h
  unfold maxLen at hm
  have HTO0 := hide fun V (hb : Below w.heap.size w V) hs => toFloor_any s.wd s.hg ao s.W.length cap s.W V ((unhide HV).below hb) hs
  have HSZ := hide fun V (hb : Below w.heap.size w V) => szFloor_any s.wd s.hg ao s.W.length cap s.W 1048576 V ((unhide HV).below hb) (by omega) (by omega)
  have HEQ := hide fun a1 n1 c1 a2 n2 c2 V h1 h2 => eqFloor_any s.wd s.hg a1 n1 c1 a2 n2 c2 s.W V h1 h2
  obtain ⟨r, er⟩ : ∃ r, r = flB s := ⟨_, rfl⟩
  have HSP := hide fun V a n c h => specFloorOk_any s a n c V h
  have HIP := hide fun V a n c h => implFloorOk_any s a n c V h
  rw [← er] at HSP HIP
  clear er
  have hrr : (r != r) = false := by simp
  unfold vFloor at *
  go_enter Try.func5, Try.ntmps5
  go_upto_region 2 with (fail)
  obtain ⟨g0, eg0⟩ : ∃ z, z = w.heap.size := ⟨_, rfl⟩
  obtain ⟨W0, eW⟩ : ∃ z, z = w.alloc (.cells #[.int .i64 s.wd, .int .i64 s.hg, .slice ao s.W.length cap] 45) := ⟨_, rfl⟩
  have HW : Hid (Below w.heap.size w W0) := by rw [eW]; exact Below.alloc1 _ _
  have HB : Hid (OwnV W0 g0 [.int .i64 s.wd, .int .i64 s.hg, .slice ao s.W.length cap]) := by rw [eW, eg0]; exact ownV_alloc _ _ _
  rw [← eW, ← eg0]
  have hg0 : w.heap.size ≤ g0 := by omega
  clear eW eg0
  have b0 := (unhide HB).cell (i := 0) rfl
  have b1 := (unhide HB).cell (i := 1) rfl
  have b2 := (unhide HB).cell (i := 2) rfl
  go_wp2_with fail
  refine (unhide HSZ _ (unhide HW)).mono ?_
  rintro e V1 ⟨l0, rfl, hp0, hq0, hs, hb⟩
  replace HW := hide (Below.step (unhide HW) hb)
  replace HB := hide (OwnV.step (unhide HB) hb)
  have HS := hide hs
  clear hb b0 b1 b2 HSZ hs
  by_cases hneg0 : l0 < 0
  · clear HS
    go_wp2
    go_ret
    exact ⟨rfl, unhide HW⟩
  have hsn := unhide HS (by omega)
  clear HS
  have HTO := hide fun V hV => unhide HTO0 V hV hsn
  clear HTO0
  have b0 := (unhide HB).cell (i := 0) rfl
  have b1 := (unhide HB).cell (i := 1) rfl
  have b2 := (unhide HB).cell (i := 2) rfl
  go_wp2_with fail
  refine (unhide HTO _ (unhide HW)).mono ?_
  rintro e V2 ⟨g7, rfl, -, ho7, hb⟩
  replace HW := hide (Below.step (unhide HW) hb)
  replace HB := hide (OwnV.step (unhide HB) hb)
  have HK1 := hide (OwnV.intsIn ho7 (Nat.le_refl _) (by unfold maxLen; omega))
  clear hb ho7 b0 b1 b2
  go_wp2_with fail
  refine (unhide HSP _ _ _ _ (unhide HK1)).mono ?_
  rintro e V3 ⟨rfl, hb⟩
  replace HW := hide (Below.step (unhide HW) hb)
  replace HB := hide (OwnV.step (unhide HB) hb)
  clear hb HK1 HSP
  have b0 := (unhide HB).cell (i := 0) rfl
  have b1 := (unhide HB).cell (i := 1) rfl
  have b2 := (unhide HB).cell (i := 2) rfl
  go_wp2_with fail
  refine (unhide HTO _ (unhide HW)).mono ?_
  rintro e V4 ⟨gr, rfl, hgr, ho, hb⟩
  replace HW := hide (Below.step (unhide HW) hb)
  replace HB := hide (OwnV.step (unhide HB) hb)
  have hsV4 := hb.size
  have HX := hide ho
  have hgr2 := ho.lt
  clear hb b0 b1 b2 ho
  obtain ⟨V5, eW2⟩ : ∃ z, z = V4.alloc (.cells #[.int .i64 s.wd, .int .i64 s.hg, .slice (some ⟨gr, 0, none⟩) s.W.length s.W.length] 26) := ⟨_, rfl⟩
  have hb := Below.alloc1 V4 (.cells #[.int .i64 s.wd, .int .i64 s.hg, .slice (some ⟨gr, 0, none⟩) s.W.length s.W.length] 26)
  have Hgx := hide (ownV_alloc V4 #[.int .i64 s.wd, .int .i64 s.hg, .slice (some ⟨gr, 0, none⟩) s.W.length s.W.length] 26)
  have hsV5 : V4.heap.size < V5.heap.size := by rw [eW2, World.size_alloc]; omega
  go_upto_region 7 with (fail)
  rw [← eW2] at hb Hgx ⊢
  clear eW2
  replace HW := hide (Below.step (unhide HW) hb)
  replace HB := hide (OwnV.step (unhide HB) hb)
  replace HX := hide (OwnV.step (unhide HX) hb)
  obtain ⟨gx, egx⟩ : ∃ z, z = V4.heap.size := ⟨_, rfl⟩
  rw [← egx] at Hgx ⊢
  have hgx1 : V4.heap.size ≤ gx := by omega
  have hgx2 : gx < V5.heap.size := by omega
  clear egx hb
  have x0 := (unhide Hgx).cell (i := 0) rfl
  have x1 := (unhide Hgx).cell (i := 1) rfl
  have x2 := (unhide Hgx).cell (i := 2) rfl
  go_wp2_with fail
  refine (unhide HIP _ _ _ _ (OwnV.intsIn (unhide HX) (Nat.le_refl _) (by unfold maxLen; omega))).mono ?_
  rintro e V6 ⟨rfl, hb⟩
  replace HW := hide (Below.step (unhide HW) hb)
  replace HB := hide (OwnV.step (unhide HB) hb)
  replace HX := hide (OwnV.step (unhide HX) hb)
  replace Hgx := hide (OwnV.step (unhide Hgx) hb)
  clear hb x0 x1 x2 HIP
  have b0 := (unhide HB).cell (i := 0) rfl
  have b1 := (unhide HB).cell (i := 1) rfl
  have b2 := (unhide HB).cell (i := 2) rfl
  have x0 := (unhide Hgx).cell (i := 0) rfl
  have x1 := (unhide Hgx).cell (i := 1) rfl
  have x2 := (unhide Hgx).cell (i := 2) rfl
  go_upto_region 10 with (fail)
  clear b0 b1 b2 x0 x1 x2
  obtain ⟨wd, ewd⟩ : ∃ z, z = V6.drew := ⟨_, rfl⟩
  have hb : Below V6.heap.size V6 wd := by rw [ewd]; exact (Below.refl _ _).drew
  replace HW := hide (Below.step (unhide HW) hb)
  replace HB := hide (OwnV.step (unhide HB) hb)
  replace HX := hide (OwnV.step (unhide HX) hb)
  replace Hgx := hide (OwnV.step (unhide Hgx) hb)
  clear hb
  refine wp_region_held_drew (S := fun w' => w'.cell? ⟨g0, 0, none⟩ = some (.int .i64 s.wd) ∧ w'.cell? ⟨g0, 1, none⟩ = some (.int .i64 s.hg) ∧ w'.cell? ⟨g0, 2, none⟩ = some (.slice ao s.W.length cap) ∧ w'.cell? ⟨gx, 0, none⟩ = some (.int .i64 s.wd) ∧ w'.cell? ⟨gx, 1, none⟩ = some (.int .i64 s.hg) ∧ w'.cell? ⟨gx, 2, none⟩ = some (.slice (some ⟨gr, 0, none⟩) s.W.length s.W.length)) (by kernel_rfl) ⟨by rw [← ewd]; exact (unhide HB).cell (i := 0) rfl, by rw [← ewd]; exact (unhide HB).cell (i := 1) rfl, by rw [← ewd]; exact (unhide HB).cell (i := 2) rfl, by rw [← ewd]; exact (unhide Hgx).cell (i := 0) rfl, by rw [← ewd]; exact (unhide Hgx).cell (i := 1) rfl, by rw [← ewd]; exact (unhide Hgx).cell (i := 2) rfl⟩ (fun hHeld => ?_)
  rw [← ewd] at hHeld ⊢
  clear ewd
  refine wpAnyH_take (i := 0) (v := ?_) rfl (by kernel_rfl) (by kernel_rfl) (by kernel_rfl) (fun _ _ _ h => h) (Or.inl ⟨by rfl, ?_⟩) (by assumption) ?_
  rotate_left
  · intro wy hSw
    obtain ⟨hS0, hS1, hS2, hS3, hS4, hS5⟩ := hSw
    go_simp
    try with_reducible rfl
  try simp only [Act.put, List.getElem_toArray, List.getElem_cons_zero, List.setIfInBounds_toArray, List.set_cons_zero, List.set_cons_succ]
  refine wpAnyH_take (i := 1) (v := ?_) rfl (by kernel_rfl) (by kernel_rfl) (by kernel_rfl) (fun _ _ _ h => h) (Or.inl ⟨by rfl, ?_⟩) (by assumption) ?_
  rotate_left
  · intro wy hSw
    obtain ⟨hS0, hS1, hS2, hS3, hS4, hS5⟩ := hSw
    go_simp
    try with_reducible rfl
  try simp only [Act.put, List.getElem_toArray, List.getElem_cons_succ, List.getElem_cons_zero, List.setIfInBounds_toArray, List.set_cons_zero, List.set_cons_succ]
  refine wpAnyH_ready (rs := [2]) (by kernel_rfl) (by simp) ?_
  refine AllReadyH.cons rfl (fun K hK => ?_) AllReadyH.nil
  go_simp
  refine (unhide HTO _ (unhide HW)).mono ?_
  rintro e VI ⟨g7, rfl, -, ho7, hb⟩
  replace HW := hide (Below.step (unhide HW) hb)
  replace HB := hide (OwnV.step (unhide HB) hb)
  replace HX := hide (OwnV.step (unhide HX) hb)
  replace Hgx := hide (OwnV.step (unhide Hgx) hb)
  have HI := hide (OwnV.intsIn ho7 (Nat.le_refl _) (by unfold maxLen; omega))
  clear hb ho7
  refine hK.out _ _ ⟨(unhide HB).cell (i := 0) rfl, (unhide HB).cell (i := 1) rfl, (unhide HB).cell (i := 2) rfl, (unhide Hgx).cell (i := 0) rfl, (unhide Hgx).cell (i := 1) rfl, (unhide Hgx).cell (i := 2) rfl⟩ (fun hHeld => ?_)
  clear hK K
  try simp only [Act.put, List.setIfInBounds_toArray, List.set_cons_zero, List.set_cons_succ]
  refine wpAnyH_ready (rs := [3]) (by kernel_rfl) (by simp) ?_
  refine AllReadyH.cons rfl (fun K hK => ?_) AllReadyH.nil
  have HEE := hide (unhide HEQ _ _ _ _ _ _ VI (OwnV.intsIn (unhide HX) (Nat.le_refl _) (by unfold maxLen; omega)) (unhide HI))
  go_simp
  refine (unhide HEE).mono ?_
  rintro e VI2 ⟨rfl, hb⟩
  replace HW := hide (Below.step (unhide HW) hb)
  replace HB := hide (OwnV.step (unhide HB) hb)
  replace HX := hide (OwnV.step (unhide HX) hb)
  replace Hgx := hide (OwnV.step (unhide Hgx) hb)
  clear hb HEE HI
  refine hK.out _ _ ⟨(unhide HB).cell (i := 0) rfl, (unhide HB).cell (i := 1) rfl, (unhide HB).cell (i := 2) rfl, (unhide Hgx).cell (i := 0) rfl, (unhide Hgx).cell (i := 1) rfl, (unhide Hgx).cell (i := 2) rfl⟩ (fun hHeld => ?_)
  clear hK K
  try simp only [Act.put, List.setIfInBounds_toArray, List.set_cons_zero, List.set_cons_succ]
  refine wpAnyH_take (i := 4) (v := ?_) rfl (by kernel_rfl) (by kernel_rfl) (by kernel_rfl) (fun _ _ _ h => h) (Or.inl ⟨by rfl, ?_⟩) (by assumption) ?_
  rotate_left
  · intro wy hSw
    obtain ⟨hS0, hS1, hS2, hS3, hS4, hS5⟩ := hSw
    go_simp
    try with_reducible rfl
  try simp only [Act.put, List.getElem_toArray, List.getElem_cons_succ, List.getElem_cons_zero, List.setIfInBounds_toArray, List.set_cons_zero, List.set_cons_succ]
  refine wpAnyH_done (by kernel_rfl) ?_ _
  go_wp2
  go_ret
  exact ⟨rfl, unhide HW⟩

end Go.Proofs.Ytnapggchejdcgaa

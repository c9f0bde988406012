/- The law of Hops, walked. Written by wip/mk19.py. -/
import Derived.Test.YtnapggchejdcgaaFrlF
import Derived.Test.YtnapggchejdcgaaOwnInts
import Derived.Test.YtnapggchejdcgaaWalkQ
import Derived.Deep.RegionHeld3
import Derived.Deep.DeepCutAuto
import Derived.Deep.Cut
namespace Go.Proofs.Ytnapggchejdcgaa
open Go.RowKit

theorem markInts_k (B U : Nat) (ao : Option Addr) (n cap : Nat) (xs : List Int) (k : Int) (w : World) (h : OwnIntsU B U w (.slice ao n cap) xs) (hn : xs.length ≤ 1048576) (hk0 : 0 ≤ k) (hk1 : k ≤ 4611686018427387904) :
    Calls Try.prog 34 #[.slice ao n cap, .int .i64 k] w fun e w' => e = .returned (.int .i64 (k + xs.length)) ∧ Kept (fun b => B ≤ b ∧ b < U) w w' ∧ OwnIntsU B U w' (.slice ao n cap) (marks k xs.length) := by
  obtain ⟨ao', cap', e, h1, h2, h3⟩ := h
  simp only [Value.slice.injEq] at e
  obtain ⟨rfl, rfl, rfl⟩ := e
  by_cases hne : xs = []
  · subst hne
    refine (markIntS_any ao cap [] k 0 w (fun h => absurd rfl h) hn hk0 hk1).mono ?_
    rintro e w' ⟨rfl, hk, _⟩
    exact ⟨rfl, hk.mono (fun b _ hb => absurd rfl hb.2), ao, cap, by rw [marks_len], by rw [marks_len]; exact h1, h2, fun h => absurd rfl h⟩
  · obtain ⟨g, rfl, hg, hu, ho⟩ := h3 hne
    refine (markIntS_any _ cap xs k g w (fun _ => ⟨rfl, ho⟩) hn hk0 hk1).mono ?_
    rintro e w' ⟨rfl, hk, ho'⟩
    exact ⟨rfl, hk.mono (fun b _ hb => by rw [hb.1]; exact ⟨hg, hu⟩), _, cap, by rw [marks_len], by rw [marks_len]; exact h1, h2, fun _ => ⟨g, rfl, hg, hu, ho' hne⟩⟩
theorem heldInts_k (v : Value) (n : Nat) (k : Int) (W : World) (hW : IntsIn W v (marks k n)) (hn : n ≤ 1048576) (hk0 : 0 ≤ k) (hk1 : k ≤ 4611686018427387904) :
    Calls Try.prog 35 #[v, .int .i64 k] W fun e w' => e = .returned (.int .i64 (k + (n : Int))) ∧ Below W.heap.size W w' := by
  refine (heldIntS_any v (marks k n) k W hW (by rw [marks_len]) (by rw [marks_len]; exact hn) hk0 hk1).mono ?_
  rintro e w' ⟨rfl, rfl⟩
  rw [marks_len]
  exact ⟨rfl, Below.refl _ _⟩
theorem eqIntS_c (v v' : Value) (xs : List Int) (w : World) (h : IntsIn w v xs) (h' : IntsIn w v' xs) :
    Calls Try.prog 32 #[v, v'] w fun e w' => e = .returned (.bool true) ∧ Below w.heap.size w w' := by
  refine (eqIntS_any v v' xs w h h').mono ?_
  rintro e w' ⟨rfl, n, rfl⟩
  exact ⟨rfl, below_drewN (Below.refl _ _) n⟩
theorem markFloor_o (wd hg : Int) (dao : Option Addr) (dc : Nat) (D : List Int) (g1 : Nat) (k : Int) (w : World) (h1 : D ≠ [] → dao = some ⟨g1, 0, none⟩ ∧ OwnV w g1 (ints D))
    (hD : D.length ≤ 1048576) (hk0 : 0 ≤ k) (hk1 : k ≤ 1073741824) :
    Calls Try.prog 33 #[vFloor wd hg (.slice dao D.length dc), .int .i64 k] w fun e w' => e = .returned (.int .i64 (k + D.length)) ∧ Kept (fun b => b = g1) w w' := by
  refine (markFloor_any wd hg dao dc D g1 k w h1 hD hk0 hk1).mono ?_
  rintro e w' ⟨rfl, hk, _⟩
  exact ⟨rfl, hk.mono fun b _ h => h.1⟩
theorem markFloor_u (B U : Nat) (wd hg : Int) (ao : Option Addr) (n cap : Nat) (xs : List Int) (k : Int) (w : World) (h : OwnIntsU B U w (.slice ao n cap) xs) (hn : xs.length ≤ 1048576) (hk0 : 0 ≤ k) (hk1 : k ≤ 1073741824) :
    Calls Try.prog 33 #[vFloor wd hg (.slice ao n cap), .int .i64 k] w fun e w' => e = .returned (.int .i64 (k + xs.length)) ∧ Kept (fun b => B ≤ b ∧ b < U) w w' ∧ OwnIntsU B U w' (.slice ao n cap) (marks k xs.length) := by
  obtain ⟨ao', cap', e, h1, h2, h3⟩ := h
  simp only [Value.slice.injEq] at e
  obtain ⟨rfl, rfl, rfl⟩ := e
  by_cases hne : xs = []
  · subst hne
    refine (markFloor_any wd hg ao cap [] 0 k w (fun h => absurd rfl h) hn hk0 hk1).mono ?_
    rintro e w' ⟨rfl, hk, _⟩
    exact ⟨rfl, hk.mono (fun b _ hb => absurd rfl hb.2), ao, cap, by rw [marks_len], by rw [marks_len]; exact h1, h2, fun h => absurd rfl h⟩
  · obtain ⟨g, rfl, hgB, hu, ho⟩ := h3 hne
    refine (markFloor_any wd hg _ cap xs g k w (fun _ => ⟨rfl, ho⟩) hn hk0 hk1).mono ?_
    rintro e w' ⟨rfl, hk, ho'⟩
    exact ⟨rfl, hk.mono (fun b _ hb => by rw [hb.1]; exact ⟨hgB, hu⟩), _, cap, by rw [marks_len], by rw [marks_len]; exact h1, h2, fun _ => ⟨g, rfl, hgB, hu, ho' hne⟩⟩
set_option maxRecDepth 100000 in
set_option maxHeartbeats 16000000 in
theorem hopsV_len (s : Flr) (p : Int) : (hopsV s p).length ≤ 1048576 := by
  unfold hopsV
  cases h : flB s && onF s p with
  | false => simp
  | true =>
    rw [Bool.and_eq_true] at h
    have hn := flB_n h.1
    have hl := hn.le
    rw [cond_true]
    unfold hopL
    split
    · rename_i hex
      have h1 := (Classical.choose_spec hex).len
      omega
    · simp
set_option maxRecDepth 100000 in
set_option maxHeartbeats 16000000 in
theorem lawHops_any (s : Flr) (pv : Value) (p : Int) (w : World) (h : IntsIn w pv s.W) :
    Calls Try.prog 7 #[vFloor s.wd s.hg pv, .int .i64 p] w fun e w' => e = .returned (.bool true) ∧ Below w.heap.size w w' := by
  have HV := hide h
  obtain ⟨ao, cap, rfl, hl, hm, -⟩ := h
  unfold maxLen at hm
  have HTO0 := hide fun V (hb : Below w.heap.size w V) hs => toFloor_any s.wd s.hg ao s.W.length cap s.W V ((unhide HV).below hb) hs
  have HSZ := hide fun V (hb : Below w.heap.size w V) => szFloor_any s.wd s.hg ao s.W.length cap s.W 1048576 V ((unhide HV).below hb) (by omega) (by omega)
  have HEQ := hide fun a1 n1 c1 a2 n2 c2 V h1 h2 => eqFloor_any s.wd s.hg a1 n1 c1 a2 n2 c2 s.W V h1 h2
  have HSP := hide fun V a n c h => specHops_any s a n c p V h
  have HIP := hide fun V a n c h => implHops_any s a n c p V h
  have hRl := hopsV_len s p
  obtain ⟨R, eR⟩ : ∃ r, r = hopsV s p := ⟨_, rfl⟩
  obtain ⟨r, er⟩ : ∃ r, r = hopsB s p := ⟨_, rfl⟩
  rw [← eR, ← er] at HSP HIP
  rw [← eR] at hRl
  clear eR er
  have hrr : (r != r) = false := by simp
  have HEI := hide fun v1 v2 V (h1 : IntsIn V v1 R) (h2 : IntsIn V v2 R) => eqIntS_c v1 v2 R V h1 h2
  unfold vFloor at *
  go_enter Try.func7, Try.ntmps7
  go_upto_region 2 with (fail)
  obtain ⟨g0, eg0⟩ : ∃ z, z = w.heap.size := ⟨_, rfl⟩
  obtain ⟨W0, eW⟩ : ∃ z, z = w.alloc (.cells #[.int .i64 s.wd, .int .i64 s.hg, .slice ao s.W.length cap] 45) := ⟨_, rfl⟩
  have HW : Hid (Below w.heap.size w W0) := by rw [eW]; exact Below.alloc1 _ _
  have HB : Hid (OwnV W0 g0 [.int .i64 s.wd, .int .i64 s.hg, .slice ao s.W.length cap]) := by rw [eW, eg0]; exact ownV_alloc _ _ _
  rw [← eW, ← eg0]
  have hg0 : w.heap.size ≤ g0 := by omega
  clear eW eg0
  have b0 := (unhide HB).cell (i := 0) rfl
  have b1 := (unhide HB).cell (i := 1) rfl
  have b2 := (unhide HB).cell (i := 2) rfl
  go_wp2_with fail
  refine (unhide HSZ _ (unhide HW)).mono ?_
  rintro e V1 ⟨l0, rfl, hp0, hq0, hs, hb⟩
  replace HW := hide (Below.step (unhide HW) hb)
  replace HB := hide (OwnV.step (unhide HB) hb)
  have HS := hide hs
  clear hb b0 b1 b2 HSZ hs
  by_cases hneg0 : l0 < 0
  · clear HS
    go_wp2
    go_ret
    exact ⟨rfl, unhide HW⟩
  have hsn := unhide HS (by omega)
  clear HS
  have HTO := hide fun V hV => unhide HTO0 V hV hsn
  clear HTO0
  have b0 := (unhide HB).cell (i := 0) rfl
  have b1 := (unhide HB).cell (i := 1) rfl
  have b2 := (unhide HB).cell (i := 2) rfl
  go_wp2_with fail
  refine (unhide HTO _ (unhide HW)).mono ?_
  rintro e V2 ⟨g7, rfl, -, ho7, hb⟩
  replace HW := hide (Below.step (unhide HW) hb)
  replace HB := hide (OwnV.step (unhide HB) hb)
  have HK1 := hide (OwnV.intsIn ho7 (Nat.le_refl _) (by unfold maxLen; omega))
  clear hb ho7 b0 b1 b2
  go_wp2_with fail
  refine (unhide HSP _ _ _ _ (unhide HK1)).mono ?_
  rintro e V3 ⟨wo, wn, wc, rfl, hO, hb⟩
  replace HW := hide (Below.step (unhide HW) hb)
  replace HB := hide (OwnV.step (unhide HB) hb)
  have HKW := hide hO.upto.inn
  clear hb hO HK1 HSP
  have HZ := hide (Below.refl V3.heap.size V3)
  have hlz := (unhide HB).lt
  have b0 := (unhide HB).cell (i := 0) rfl
  have b1 := (unhide HB).cell (i := 1) rfl
  have b2 := (unhide HB).cell (i := 2) rfl
  go_wp2_with fail
  refine (unhide HTO _ (unhide HW)).mono ?_
  rintro e V4 ⟨gr, rfl, hgr, ho, hb⟩
  replace HW := hide (Below.step (unhide HW) hb)
  replace HB := hide (OwnV.step (unhide HB) hb)
  replace HZ := hide (Below.step (unhide HZ) hb)
  have hsV4 := hb.size
  have HX := hide ho
  have hgr2 := ho.lt
  clear hb b0 b1 b2 ho
  obtain ⟨V5, eW2⟩ : ∃ z, z = V4.alloc (.cells #[.int .i64 s.wd, .int .i64 s.hg, .slice (some ⟨gr, 0, none⟩) s.W.length s.W.length] 26) := ⟨_, rfl⟩
  have hb := Below.alloc1 V4 (.cells #[.int .i64 s.wd, .int .i64 s.hg, .slice (some ⟨gr, 0, none⟩) s.W.length s.W.length] 26)
  have Hgx := hide (ownV_alloc V4 #[.int .i64 s.wd, .int .i64 s.hg, .slice (some ⟨gr, 0, none⟩) s.W.length s.W.length] 26)
  have hsV5 : V4.heap.size < V5.heap.size := by rw [eW2, World.size_alloc]; omega
  go_upto_region 7 with (fail)
  rw [← eW2] at hb Hgx ⊢
  clear eW2
  replace HW := hide (Below.step (unhide HW) hb)
  replace HB := hide (OwnV.step (unhide HB) hb)
  replace HZ := hide (Below.step (unhide HZ) hb)
  replace HX := hide (OwnV.step (unhide HX) hb)
  obtain ⟨gx, egx⟩ : ∃ z, z = V4.heap.size := ⟨_, rfl⟩
  rw [← egx] at Hgx ⊢
  have hgx1 : V4.heap.size ≤ gx := by omega
  have hgx2 : gx < V5.heap.size := by omega
  clear egx hb
  have x0 := (unhide Hgx).cell (i := 0) rfl
  have x1 := (unhide Hgx).cell (i := 1) rfl
  have x2 := (unhide Hgx).cell (i := 2) rfl
  go_wp2_with fail
  refine (unhide HIP _ _ _ _ (OwnV.intsIn (unhide HX) (Nat.le_refl _) (by unfold maxLen; omega))).mono ?_
  rintro e V6 ⟨go, gn, gc, rfl, hO, hb⟩
  replace HW := hide (Below.step (unhide HW) hb)
  replace HB := hide (OwnV.step (unhide HB) hb)
  replace HZ := hide (Below.step (unhide HZ) hb)
  replace HX := hide (OwnV.step (unhide HX) hb)
  replace Hgx := hide (OwnV.step (unhide Hgx) hb)
  have hsV6 := hb.size
  have HG := hide hO.upto
  clear hb x0 x1 x2 hO
  have HKWd := hide ((unhide HKW).below (unhide HZ))
  go_wp2_with fail
  refine (unhide HEI _ _ _ (unhide HG).inn (unhide HKWd)).mono ?_
  rintro e V7 ⟨rfl, hb⟩
  replace HW := hide (Below.step (unhide HW) hb)
  replace HB := hide (OwnV.step (unhide HB) hb)
  replace HZ := hide (Below.step (unhide HZ) hb)
  replace HX := hide (OwnV.step (unhide HX) hb)
  replace Hgx := hide (OwnV.step (unhide Hgx) hb)
  replace HG := hide ((unhide HG).below hb)
  clear hb HKWd
  have b0 := (unhide HB).cell (i := 0) rfl
  have b1 := (unhide HB).cell (i := 1) rfl
  have b2 := (unhide HB).cell (i := 2) rfl
  have x0 := (unhide Hgx).cell (i := 0) rfl
  have x1 := (unhide Hgx).cell (i := 1) rfl
  have x2 := (unhide Hgx).cell (i := 2) rfl
  go_upto_region 10 with (fail)
  clear b0 b1 b2 x0 x1 x2
  obtain ⟨wd, ewd⟩ : ∃ z, z = V7.drew := ⟨_, rfl⟩
  have hb : Below V7.heap.size V7 wd := by rw [ewd]; exact (Below.refl _ _).drew
  replace HW := hide (Below.step (unhide HW) hb)
  replace HB := hide (OwnV.step (unhide HB) hb)
  replace HZ := hide (Below.step (unhide HZ) hb)
  replace HX := hide (OwnV.step (unhide HX) hb)
  replace Hgx := hide (OwnV.step (unhide Hgx) hb)
  replace HG := hide ((unhide HG).below hb)
  clear hb
  refine wp_region_held_drew (S := fun w' => w'.cell? ⟨g0, 0, none⟩ = some (.int .i64 s.wd) ∧ w'.cell? ⟨g0, 1, none⟩ = some (.int .i64 s.hg) ∧ w'.cell? ⟨g0, 2, none⟩ = some (.slice ao s.W.length cap) ∧ w'.cell? ⟨gx, 0, none⟩ = some (.int .i64 s.wd) ∧ w'.cell? ⟨gx, 1, none⟩ = some (.int .i64 s.hg) ∧ w'.cell? ⟨gx, 2, none⟩ = some (.slice (some ⟨gr, 0, none⟩) s.W.length s.W.length)) (by kernel_rfl) ⟨by rw [← ewd]; exact (unhide HB).cell (i := 0) rfl, by rw [← ewd]; exact (unhide HB).cell (i := 1) rfl, by rw [← ewd]; exact (unhide HB).cell (i := 2) rfl, by rw [← ewd]; exact (unhide Hgx).cell (i := 0) rfl, by rw [← ewd]; exact (unhide Hgx).cell (i := 1) rfl, by rw [← ewd]; exact (unhide Hgx).cell (i := 2) rfl⟩ (fun hHeld => ?_)
  rw [← ewd] at hHeld ⊢
  clear ewd
  refine wpAnyH_take (i := 0) (v := ?_) rfl (by kernel_rfl) (by kernel_rfl) (by kernel_rfl) (fun _ _ _ h => h) (Or.inl ⟨by rfl, ?_⟩) (by assumption) ?_
  rotate_left
  · intro wy hSw
    obtain ⟨hS0, hS1, hS2, hS3, hS4, hS5⟩ := hSw
    go_simp
    try with_reducible rfl
  try simp only [Act.put, List.getElem_toArray, List.getElem_cons_zero, List.setIfInBounds_toArray, List.set_cons_zero, List.set_cons_succ]
  refine wpAnyH_take (i := 1) (v := ?_) rfl (by kernel_rfl) (by kernel_rfl) (by kernel_rfl) (fun _ _ _ h => h) (Or.inl ⟨by rfl, ?_⟩) (by assumption) ?_
  rotate_left
  · intro wy hSw
    obtain ⟨hS0, hS1, hS2, hS3, hS4, hS5⟩ := hSw
    go_simp
    try with_reducible rfl
  try simp only [Act.put, List.getElem_toArray, List.getElem_cons_succ, List.getElem_cons_zero, List.setIfInBounds_toArray, List.set_cons_zero, List.set_cons_succ]
  refine wpAnyH_ready (rs := [2]) (by kernel_rfl) (by simp) ?_
  refine AllReadyH.cons rfl (fun K hK => ?_) AllReadyH.nil
  go_simp
  refine (unhide HTO _ (unhide HW)).mono ?_
  rintro e VI ⟨g7, rfl, -, ho7, hb⟩
  replace HW := hide (Below.step (unhide HW) hb)
  replace HB := hide (OwnV.step (unhide HB) hb)
  replace HZ := hide (Below.step (unhide HZ) hb)
  replace HX := hide (OwnV.step (unhide HX) hb)
  replace Hgx := hide (OwnV.step (unhide Hgx) hb)
  replace HG := hide ((unhide HG).below hb)
  have HI := hide (OwnV.intsIn ho7 (Nat.le_refl _) (by unfold maxLen; omega))
  clear hb ho7
  refine hK.out _ _ ⟨(unhide HB).cell (i := 0) rfl, (unhide HB).cell (i := 1) rfl, (unhide HB).cell (i := 2) rfl, (unhide Hgx).cell (i := 0) rfl, (unhide Hgx).cell (i := 1) rfl, (unhide Hgx).cell (i := 2) rfl⟩ (fun hHeld => ?_)
  clear hK K
  try simp only [Act.put, List.setIfInBounds_toArray, List.set_cons_zero, List.set_cons_succ]
  refine wpAnyH_ready (rs := [3]) (by kernel_rfl) (by simp) ?_
  refine AllReadyH.cons rfl (fun K hK => ?_) AllReadyH.nil
  have HEE := hide (unhide HEQ _ _ _ _ _ _ VI (OwnV.intsIn (unhide HX) (Nat.le_refl _) (by unfold maxLen; omega)) (unhide HI))
  go_simp
  refine (unhide HEE).mono ?_
  rintro e VI2 ⟨rfl, hb⟩
  replace HW := hide (Below.step (unhide HW) hb)
  replace HB := hide (OwnV.step (unhide HB) hb)
  replace HZ := hide (Below.step (unhide HZ) hb)
  replace HX := hide (OwnV.step (unhide HX) hb)
  replace Hgx := hide (OwnV.step (unhide Hgx) hb)
  replace HG := hide ((unhide HG).below hb)
  clear hb HEE HI
  refine hK.out _ _ ⟨(unhide HB).cell (i := 0) rfl, (unhide HB).cell (i := 1) rfl, (unhide HB).cell (i := 2) rfl, (unhide Hgx).cell (i := 0) rfl, (unhide Hgx).cell (i := 1) rfl, (unhide Hgx).cell (i := 2) rfl⟩ (fun hHeld => ?_)
  clear hK K
  try simp only [Act.put, List.setIfInBounds_toArray, List.set_cons_zero, List.set_cons_succ]
  refine wpAnyH_take (i := 4) (v := ?_) rfl (by kernel_rfl) (by kernel_rfl) (by kernel_rfl) (fun _ _ _ h => h) (Or.inl ⟨by rfl, ?_⟩) (by assumption) ?_
  rotate_left
  · intro wy hSw
    obtain ⟨hS0, hS1, hS2, hS3, hS4, hS5⟩ := hSw
    go_simp
    try with_reducible rfl
  try simp only [Act.put, List.getElem_toArray, List.getElem_cons_succ, List.getElem_cons_zero, List.setIfInBounds_toArray, List.set_cons_zero, List.set_cons_succ]
  refine wpAnyH_done (by kernel_rfl) ?_ _
  obtain ⟨N1, eN1⟩ : ∃ z : Int, z = 1 + (s.W.length : Int) := ⟨_, rfl⟩
  have HM1 := hide fun V h => markFloor_o s.wd s.hg (some ⟨gr, 0, none⟩) s.W.length s.W gr 1 V h hsn (by omega) (by omega)
  rw [← eN1] at HM1
  have dn1 : decide (N1 < 0) = false := by simp; omega
  clear eN1
  unfold vFloor at HM1
  have x0 := (unhide Hgx).cell (i := 0) rfl
  have x1 := (unhide Hgx).cell (i := 1) rfl
  have x2 := (unhide Hgx).cell (i := 2) rfl
  go_wp2_with fail
  refine (unhide HM1 _ (fun _ => ⟨by trivial, unhide HX⟩)).mono ?_
  rintro e VM ⟨rfl, hk⟩
  have hzs := (unhide HZ).size
  clear HX
  have hWB := unhide HW
  replace HW := hide (hWB.trans (hk.below hWB.size (fun b e => by omega)))
  clear hWB
  replace HB := hide ((unhide HB).kept hk (fun e => by omega))
  have hWB := unhide HZ
  replace HZ := hide (hWB.trans (hk.below hWB.size (fun b e => by omega)))
  clear hWB
  replace Hgx := hide ((unhide Hgx).kept hk (fun e => by omega))
  replace HG := hide ((unhide HG).kept hk (fun b h1 h2 e => by omega))
  clear hk x0 x1 x2 HM1
  clear Hgx
  have HKWd := hide ((unhide HKW).below (unhide HZ))
  go_wp2_with fail
  refine (unhide HEI _ _ _ (unhide HG).inn (unhide HKWd)).mono ?_
  rintro e V8 ⟨rfl, hb⟩
  replace HW := hide (Below.step (unhide HW) hb)
  replace HB := hide (OwnV.step (unhide HB) hb)
  replace HZ := hide (Below.step (unhide HZ) hb)
  replace HG := hide ((unhide HG).below hb)
  clear hb HKWd
  have hR := unhide HG
  obtain ⟨go', gc', eg, hrl, hrc, -⟩ := hR
  simp only [Value.slice.injEq] at eg
  obtain ⟨rfl, rfl, rfl⟩ := eg
  unfold maxLen at hrc

  have HMG := hide fun V h => markInts_k V5.heap.size V6.heap.size go R.length gc R 1 V h hRl (by omega) (by omega)
  have HHG := hide fun v V h => heldInts_k v R.length 1 V h hRl (by omega) (by omega)
  obtain ⟨N2, eN2⟩ : ∃ z : Int, z = 1 + (R.length : Int) := ⟨_, rfl⟩
  rw [← eN2] at HMG HHG
  have dn2 : decide (N2 < 0) = false := by simp; omega
  have hnn : (N2 != N2) = false := by simp
  clear eN2
  go_wp2_with fail
  refine (unhide HMG _ (unhide HG)).mono ?_
  rintro e VN ⟨rfl, hk, hom⟩
  clear HG
  have hWB := unhide HW
  replace HW := hide (hWB.trans (hk.below hWB.size (fun b e => by omega)))
  clear hWB
  replace HB := hide ((unhide HB).kept hk (fun e => by omega))
  have hWB := unhide HZ
  replace HZ := hide (hWB.trans (hk.below hWB.size (fun b e => by omega)))
  clear hWB
  have HGM := hide hom
  clear hk hom HMG
  go_wp2_with fail
  refine (unhide HHG _ _ (unhide HGM).inn).mono ?_
  rintro e V9 ⟨rfl, hb⟩
  replace HW := hide (Below.step (unhide HW) hb)
  replace HB := hide (OwnV.step (unhide HB) hb)
  replace HZ := hide (Below.step (unhide HZ) hb)
  replace HGM := hide ((unhide HGM).below hb)
  clear hb
  have b0 := (unhide HB).cell (i := 0) rfl
  have b1 := (unhide HB).cell (i := 1) rfl
  have b2 := (unhide HB).cell (i := 2) rfl
  go_wp2_with fail
  refine (unhide HTO _ (unhide HW)).mono ?_
  rintro e V10 ⟨g7, rfl, -, ho7, hb⟩
  replace HW := hide (Below.step (unhide HW) hb)
  replace HB := hide (OwnV.step (unhide HB) hb)
  replace HZ := hide (Below.step (unhide HZ) hb)
  replace HGM := hide ((unhide HGM).below hb)
  have HK1 := hide (OwnV.intsIn ho7 (Nat.le_refl _) (by unfold maxLen; omega))
  clear hb ho7 b0 b1 b2
  go_wp2_with fail
  refine (unhide HIP _ _ _ _ (unhide HK1)).mono ?_
  rintro e V11 ⟨ho, hn, hc, rfl, hO, hb⟩
  replace HW := hide (Below.step (unhide HW) hb)
  replace HB := hide (OwnV.step (unhide HB) hb)
  replace HZ := hide (Below.step (unhide HZ) hb)
  replace HGM := hide ((unhide HGM).below hb)
  have HH := hide hO.upto.inn
  clear hb hO HK1 HIP
  have HKWd := hide ((unhide HKW).below (unhide HZ))
  go_wp2_with fail
  refine (unhide HEI _ _ _ (unhide HH) (unhide HKWd)).mono ?_
  rintro e V12 ⟨rfl, hb⟩
  replace HW := hide (Below.step (unhide HW) hb)
  replace HB := hide (OwnV.step (unhide HB) hb)
  replace HZ := hide (Below.step (unhide HZ) hb)
  replace HGM := hide ((unhide HGM).below hb)
  replace HH := hide ((unhide HH).below hb)
  clear hb HKWd
  go_wp2_with fail
  refine (unhide HHG _ _ (unhide HGM).inn).mono ?_
  rintro e V13 ⟨rfl, hb⟩
  replace HW := hide (Below.step (unhide HW) hb)
  replace HB := hide (OwnV.step (unhide HB) hb)
  replace HZ := hide (Below.step (unhide HZ) hb)
  replace HGM := hide ((unhide HGM).below hb)
  replace HH := hide ((unhide HH).below hb)
  clear hb
  go_wp2
  go_ret
  exact ⟨rfl, unhide HW⟩

end Go.Proofs.Ytnapggchejdcgaa

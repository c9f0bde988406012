/- The law of OneWay, walked. Written by wip/mk19.py. -/
import Derived.Test.YtnapggchejdcgaaFrlG
import Derived.Test.YtnapggchejdcgaaOwnInts
import Derived.Test.YtnapggchejdcgaaWalkQ
import Derived.Deep.RegionHeld3
import Derived.Deep.DeepCutAuto
import Derived.Deep.Cut
namespace Go.Proofs.Ytnapggchejdcgaa
open Go.RowKit

theorem markInts_k (B U : Nat) (ao : Option Addr) (n cap : Nat) (xs : List Int) (k : Int) (w : World) (h : OwnIntsU B U w (.slice ao n cap) xs) (hn : xs.length ≤ 1048576) (hk0 : 0 ≤ k) (hk1 : k ≤ 4611686018427387904) :
    Calls Try.prog 34 #[.slice ao n cap, .int .i64 k] w fun e w' => e = .returned (.int .i64 (k + xs.length)) ∧ Kept (fun b => B ≤ b ∧ b < U) w w' ∧ OwnIntsU B U w' (.slice ao n cap) (marks k xs.length) := by
  obtain ⟨ao', cap', e, h1, h2, h3⟩ := h
  simp only [Value.slice.injEq] at e
  obtain ⟨rfl, rfl, rfl⟩ := e
  by_cases hne : xs = []
  · subst hne
    refine (markIntS_any ao cap [] k 0 w (fun h => absurd rfl h) hn hk0 hk1).mono ?_
    rintro e w' ⟨rfl, hk, _⟩
    exact ⟨rfl, hk.mono (fun b _ hb => absurd rfl hb.2), ao, cap, by rw [marks_len], by rw [marks_len]; exact h1, h2, fun h => absurd rfl h⟩
  · obtain ⟨g, rfl, hg, hu, ho⟩ := h3 hne
    refine (markIntS_any _ cap xs k g w (fun _ => ⟨rfl, ho⟩) hn hk0 hk1).mono ?_
    rintro e w' ⟨rfl, hk, ho'⟩
    exact ⟨rfl, hk.mono (fun b _ hb => by rw [hb.1]; exact ⟨hg, hu⟩), _, cap, by rw [marks_len], by rw [marks_len]; exact h1, h2, fun _ => ⟨g, rfl, hg, hu, ho' hne⟩⟩
theorem heldInts_k (v : Value) (n : Nat) (k : Int) (W : World) (hW : IntsIn W v (marks k n)) (hn : n ≤ 1048576) (hk0 : 0 ≤ k) (hk1 : k ≤ 4611686018427387904) :
    Calls Try.prog 35 #[v, .int .i64 k] W fun e w' => e = .returned (.int .i64 (k + (n : Int))) ∧ Below W.heap.size W w' := by
  refine (heldIntS_any v (marks k n) k W hW (by rw [marks_len]) (by rw [marks_len]; exact hn) hk0 hk1).mono ?_
  rintro e w' ⟨rfl, rfl⟩
  rw [marks_len]
  exact ⟨rfl, Below.refl _ _⟩
theorem eqIntS_c (v v' : Value) (xs : List Int) (w : World) (h : IntsIn w v xs) (h' : IntsIn w v' xs) :
    Calls Try.prog 32 #[v, v'] w fun e w' => e = .returned (.bool true) ∧ Below w.heap.size w w' := by
  refine (eqIntS_any v v' xs w h h').mono ?_
  rintro e w' ⟨rfl, n, rfl⟩
  exact ⟨rfl, below_drewN (Below.refl _ _) n⟩
theorem markFloor_o (wd hg : Int) (dao : Option Addr) (dc : Nat) (D : List Int) (g1 : Nat) (k : Int) (w : World) (h1 : D ≠ [] → dao = some ⟨g1, 0, none⟩ ∧ OwnV w g1 (ints D))
    (hD : D.length ≤ 1048576) (hk0 : 0 ≤ k) (hk1 : k ≤ 1073741824) :
    Calls Try.prog 33 #[vFloor wd hg (.slice dao D.length dc), .int .i64 k] w fun e w' => e = .returned (.int .i64 (k + D.length)) ∧ Kept (fun b => b = g1) w w' := by
  refine (markFloor_any wd hg dao dc D g1 k w h1 hD hk0 hk1).mono ?_
  rintro e w' ⟨rfl, hk, _⟩
  exact ⟨rfl, hk.mono fun b _ h => h.1⟩
theorem markFloor_u (B U : Nat) (wd hg : Int) (ao : Option Addr) (n cap : Nat) (xs : List Int) (k : Int) (w : World) (h : OwnIntsU B U w (.slice ao n cap) xs) (hn : xs.length ≤ 1048576) (hk0 : 0 ≤ k) (hk1 : k ≤ 1073741824) :
    Calls Try.prog 33 #[vFloor wd hg (.slice ao n cap), .int .i64 k] w fun e w' => e = .returned (.int .i64 (k + xs.length)) ∧ Kept (fun b => B ≤ b ∧ b < U) w w' ∧ OwnIntsU B U w' (.slice ao n cap) (marks k xs.length) := by
  obtain ⟨ao', cap', e, h1, h2, h3⟩ := h
  simp only [Value.slice.injEq] at e
  obtain ⟨rfl, rfl, rfl⟩ := e
  by_cases hne : xs = []
  · subst hne
    refine (markFloor_any wd hg ao cap [] 0 k w (fun h => absurd rfl h) hn hk0 hk1).mono ?_
    rintro e w' ⟨rfl, hk, _⟩
    exact ⟨rfl, hk.mono (fun b _ hb => absurd rfl hb.2), ao, cap, by rw [marks_len], by rw [marks_len]; exact h1, h2, fun h => absurd rfl h⟩
  · obtain ⟨g, rfl, hgB, hu, ho⟩ := h3 hne
    refine (markFloor_any wd hg _ cap xs g k w (fun _ => ⟨rfl, ho⟩) hn hk0 hk1).mono ?_
    rintro e w' ⟨rfl, hk, ho'⟩
    exact ⟨rfl, hk.mono (fun b _ hb => by rw [hb.1]; exact ⟨hgB, hu⟩), _, cap, by rw [marks_len], by rw [marks_len]; exact h1, h2, fun _ => ⟨g, rfl, hgB, hu, ho' hne⟩⟩
set_option maxRecDepth 100000 in
set_option maxHeartbeats 16000000 in
theorem oneL_len (a b : Int) : (oneL a b).length ≤ 1048576 := by
  unfold oneL
  cases h : oneB a b with
  | false => simp
  | true =>
    unfold oneB at h
    rw [Bool.and_eq_true] at h
    have h1 := inB_true h.1
    have h2 := inB_true h.2
    rw [cond_true, ringL_len]
    have := mul_n10 (a := a.toNat) (b := b.toNat) (by omega) (by omega)
    omega
set_option maxRecDepth 100000 in
set_option maxHeartbeats 16000000 in
theorem lawOneWay_any (a b : Int) (w : World) :
    Calls Try.prog 11 #[.int .i64 a, .int .i64 b] w fun e w' => e = .returned (.bool true) ∧ Below w.heap.size w w' := by
  have HSP := hide fun V => specOneWay_any a b V
  have HIP := hide fun V => implOneWay_any a b V
  have hRl : (oneL a b).length ≤ 1048576 := oneL_len a b
  obtain ⟨R, eR⟩ : ∃ r, r = oneL a b := ⟨_, rfl⟩
  obtain ⟨r, er⟩ : ∃ r, r = oneB a b := ⟨_, rfl⟩
  obtain ⟨z1, ez1⟩ : ∃ r, r = oneZ a b a := ⟨_, rfl⟩
  obtain ⟨z2, ez2⟩ : ∃ r, r = oneZ a b b := ⟨_, rfl⟩
  rw [← eR, ← er, ← ez1, ← ez2] at HSP HIP
  rw [← eR] at hRl
  clear eR er ez1 ez2
  have hrr : (r != r) = false := by simp
  have HW := hide (Below.refl w.heap.size w)
  have HEQ := hide fun a1 n1 c1 a2 n2 c2 V h1 h2 => eqFloor_any z1 z2 a1 n1 c1 a2 n2 c2 R V h1 h2
  unfold vFloor at *
  go_enter Try.func11, Try.ntmps11
  go_wp2_with fail
  refine (unhide HSP _).mono ?_
  rintro e V1 ⟨wo, wn, wc, rfl, hO, hb⟩
  replace HW := hide (Below.step (unhide HW) hb)
  have hsV1 := hb.size
  have HwI := hide hO.upto.inn
  clear hb hO
  obtain ⟨V2, eW2⟩ : ∃ z, z = V1.alloc (.cells #[.int .i64 z1, .int .i64 z2, .slice wo wn wc] 26) := ⟨_, rfl⟩
  have hb := Below.alloc1 V1 (.cells #[.int .i64 z1, .int .i64 z2, .slice wo wn wc] 26)
  have Hgw := hide (ownV_alloc V1 #[.int .i64 z1, .int .i64 z2, .slice wo wn wc] 26)
  have hsV2 : V1.heap.size < V2.heap.size := by rw [eW2, World.size_alloc]; omega
  go_upto_region 2 with (fail)
  rw [← eW2] at hb Hgw ⊢
  clear eW2
  replace HW := hide (Below.step (unhide HW) hb)
  replace HwI := hide ((unhide HwI).below hb)
  obtain ⟨gw, egw⟩ : ∃ z, z = V1.heap.size := ⟨_, rfl⟩
  rw [← egw] at Hgw ⊢
  have hgw1 : V1.heap.size ≤ gw := by omega
  have hgw2 : gw < V2.heap.size := by omega
  clear egw hb
  have HwA := HwI
  have HZ := hide (Below.refl V2.heap.size V2)
  go_wp2_with fail
  refine (unhide HIP _).mono ?_
  rintro e V3 ⟨go, gn, gc, rfl, hO, hb⟩
  replace HW := hide (Below.step (unhide HW) hb)
  replace HZ := hide (Below.step (unhide HZ) hb)
  replace HwI := hide ((unhide HwI).below hb)
  replace Hgw := hide (OwnV.step (unhide Hgw) hb)
  have hsV3 := hb.size
  have HgI := hide hO.upto
  clear hb hO
  obtain ⟨V4, eW2⟩ : ∃ z, z = V3.alloc (.cells #[.int .i64 z1, .int .i64 z2, .slice go gn gc] 26) := ⟨_, rfl⟩
  have hb := Below.alloc1 V3 (.cells #[.int .i64 z1, .int .i64 z2, .slice go gn gc] 26)
  have Hgg := hide (ownV_alloc V3 #[.int .i64 z1, .int .i64 z2, .slice go gn gc] 26)
  have hsV4 : V3.heap.size < V4.heap.size := by rw [eW2, World.size_alloc]; omega
  go_upto_region 3 with (fail)
  rw [← eW2] at hb Hgg ⊢
  clear eW2
  replace HW := hide (Below.step (unhide HW) hb)
  replace HZ := hide (Below.step (unhide HZ) hb)
  replace HwI := hide ((unhide HwI).below hb)
  replace Hgw := hide (OwnV.step (unhide Hgw) hb)
  replace HgI := hide ((unhide HgI).below hb)
  obtain ⟨gg, egg⟩ : ∃ z, z = V3.heap.size := ⟨_, rfl⟩
  rw [← egg] at Hgg ⊢
  have hgg1 : V3.heap.size ≤ gg := by omega
  have hgg2 : gg < V4.heap.size := by omega
  clear egg hb
  have x0 := (unhide Hgg).cell (i := 0) rfl
  have x1 := (unhide Hgg).cell (i := 1) rfl
  have x2 := (unhide Hgg).cell (i := 2) rfl
  have u0 := (unhide Hgw).cell (i := 0) rfl
  have u1 := (unhide Hgw).cell (i := 1) rfl
  have u2 := (unhide Hgw).cell (i := 2) rfl
  go_wp2_with fail
  refine (unhide HEQ _ _ _ _ _ _ _ (unhide HgI).inn (unhide HwI)).mono ?_
  rintro e V5 ⟨rfl, hb⟩
  replace HW := hide (Below.step (unhide HW) hb)
  replace HZ := hide (Below.step (unhide HZ) hb)
  replace HwI := hide ((unhide HwI).below hb)
  replace Hgw := hide (OwnV.step (unhide Hgw) hb)
  replace HgI := hide ((unhide HgI).below hb)
  replace Hgg := hide (OwnV.step (unhide Hgg) hb)
  clear hb x0 x1 x2 u0 u1 u2
  have hR := unhide HgI
  obtain ⟨go', gc', eg, hrl, hrc, -⟩ := hR
  simp only [Value.slice.injEq] at eg
  obtain ⟨rfl, rfl, rfl⟩ := eg
  unfold maxLen at hrc
  have HMG := hide fun V h => markFloor_u V2.heap.size V3.heap.size z1 z2 go R.length gc R 1 V h hRl (by omega) (by omega)
  have HHG := hide fun V h => heldFloor_any z1 z2 go R.length gc R.length 1 V h hRl (by omega) (by omega)
  unfold vFloor at HMG HHG
  obtain ⟨N2, eN2⟩ : ∃ z : Int, z = 1 + (R.length : Int) := ⟨_, rfl⟩
  rw [← eN2] at HMG HHG
  have dn2 : decide (N2 < 0) = false := by simp; omega
  have hnn : (N2 != N2) = false := by simp
  clear eN2
  have x0 := (unhide Hgg).cell (i := 0) rfl
  have x1 := (unhide Hgg).cell (i := 1) rfl
  have x2 := (unhide Hgg).cell (i := 2) rfl
  go_wp2_with fail
  refine (unhide HMG _ (unhide HgI)).mono ?_
  rintro e VN ⟨rfl, hk, hom⟩
  clear HgI
  clear HwI
  have hwsz := (unhide HW).size
  have hzs := (unhide HZ).size
  replace HZ := hide ((unhide HZ).trans (hk.below (unhide HZ).size (fun b e => by omega)))
  have hWB := unhide HW
  replace HW := hide (hWB.trans (hk.below hWB.size (fun b e => by omega)))
  clear hWB
  replace Hgw := hide ((unhide Hgw).kept hk (fun e => by omega))
  replace Hgg := hide ((unhide Hgg).kept hk (fun e => by omega))
  have HGM := hide hom
  clear hk hom HMG x0 x1 x2
  have x0 := (unhide Hgg).cell (i := 0) rfl
  have x1 := (unhide Hgg).cell (i := 1) rfl
  have x2 := (unhide Hgg).cell (i := 2) rfl
  go_wp2_with fail
  refine (unhide HHG _ (unhide HGM).inn).mono ?_
  rintro e V6 ⟨rfl, hb⟩
  replace HW := hide (Below.step (unhide HW) hb)
  replace HZ := hide (Below.step (unhide HZ) hb)
  replace Hgw := hide (OwnV.step (unhide Hgw) hb)
  replace Hgg := hide (OwnV.step (unhide Hgg) hb)
  replace HGM := hide ((unhide HGM).below hb)
  clear hb x0 x1 x2
  have HwI := hide ((unhide HwA).below (unhide HZ))
  go_wp2_with fail
  refine (unhide HIP _).mono ?_
  rintro e V7 ⟨ho, hn, hc, rfl, hO, hb⟩
  replace HW := hide (Below.step (unhide HW) hb)
  replace HZ := hide (Below.step (unhide HZ) hb)
  replace Hgw := hide (OwnV.step (unhide Hgw) hb)
  replace Hgg := hide (OwnV.step (unhide Hgg) hb)
  replace HGM := hide ((unhide HGM).below hb)
  replace HwI := hide ((unhide HwI).below hb)
  have hsV7 := hb.size
  have HhI := hide hO.upto.inn
  clear hb hO
  obtain ⟨V8, eW2⟩ : ∃ z, z = V7.alloc (.cells #[.int .i64 z1, .int .i64 z2, .slice ho hn hc] 26) := ⟨_, rfl⟩
  have hb := Below.alloc1 V7 (.cells #[.int .i64 z1, .int .i64 z2, .slice ho hn hc] 26)
  have Hgh := hide (ownV_alloc V7 #[.int .i64 z1, .int .i64 z2, .slice ho hn hc] 26)
  have hsV8 : V7.heap.size < V8.heap.size := by rw [eW2, World.size_alloc]; omega
  go_upto_region 14 with (fail)
  rw [← eW2] at hb Hgh ⊢
  clear eW2
  replace HW := hide (Below.step (unhide HW) hb)
  replace HZ := hide (Below.step (unhide HZ) hb)
  replace Hgw := hide (OwnV.step (unhide Hgw) hb)
  replace Hgg := hide (OwnV.step (unhide Hgg) hb)
  replace HGM := hide ((unhide HGM).below hb)
  replace HwI := hide ((unhide HwI).below hb)
  replace HhI := hide ((unhide HhI).below hb)
  obtain ⟨gh, egh⟩ : ∃ z, z = V7.heap.size := ⟨_, rfl⟩
  rw [← egh] at Hgh ⊢
  have hgh1 : V7.heap.size ≤ gh := by omega
  have hgh2 : gh < V8.heap.size := by omega
  clear egh hb
  have x0 := (unhide Hgh).cell (i := 0) rfl
  have x1 := (unhide Hgh).cell (i := 1) rfl
  have x2 := (unhide Hgh).cell (i := 2) rfl
  have u0 := (unhide Hgw).cell (i := 0) rfl
  have u1 := (unhide Hgw).cell (i := 1) rfl
  have u2 := (unhide Hgw).cell (i := 2) rfl
  go_wp2_with fail
  refine (unhide HEQ _ _ _ _ _ _ _ (unhide HhI) (unhide HwI)).mono ?_
  rintro e V9 ⟨rfl, hb⟩
  replace HW := hide (Below.step (unhide HW) hb)
  replace HZ := hide (Below.step (unhide HZ) hb)
  replace Hgw := hide (OwnV.step (unhide Hgw) hb)
  replace Hgg := hide (OwnV.step (unhide Hgg) hb)
  replace HGM := hide ((unhide HGM).below hb)
  replace HwI := hide ((unhide HwI).below hb)
  replace HhI := hide ((unhide HhI).below hb)
  replace Hgh := hide (OwnV.step (unhide Hgh) hb)
  clear hb x0 x1 x2 u0 u1 u2
  have x0 := (unhide Hgg).cell (i := 0) rfl
  have x1 := (unhide Hgg).cell (i := 1) rfl
  have x2 := (unhide Hgg).cell (i := 2) rfl
  go_wp2_with fail
  refine (unhide HHG _ (unhide HGM).inn).mono ?_
  rintro e V10 ⟨rfl, hb⟩
  replace HW := hide (Below.step (unhide HW) hb)
  replace HZ := hide (Below.step (unhide HZ) hb)
  replace Hgw := hide (OwnV.step (unhide Hgw) hb)
  replace Hgg := hide (OwnV.step (unhide Hgg) hb)
  replace HGM := hide ((unhide HGM).below hb)
  replace HwI := hide ((unhide HwI).below hb)
  replace HhI := hide ((unhide HhI).below hb)
  replace Hgh := hide (OwnV.step (unhide Hgh) hb)
  clear hb x0 x1 x2
  go_wp2
  go_ret
  exact ⟨rfl, unhide HW⟩

end Go.Proofs.Ytnapggchejdcgaa

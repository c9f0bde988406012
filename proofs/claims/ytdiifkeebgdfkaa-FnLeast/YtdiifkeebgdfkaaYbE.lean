/- The program's boxGround, turnGround and Blocking. Written by wip/mkybe.py. -/
import Derived.Test.YtdiifkeebgdfkaaYbD
import Derived.Test.YtdiifkeebgdfkaaYbS
import Derived.Test.YtdiifkeebgdfkaaYaD
namespace Go.Proofs.Ytdiifkeebgdfkaa
open Go.RowKit

set_option maxRecDepth 10000 in
set_option maxHeartbeats 3200000 in
theorem turnGround_any (H : Int) (v : Value) (R : List (List Int)) (ov : Value) (O : List Int) (w : World) (h : RowsIn w v R) (hO : IntsIn w ov O) (hy : YOk H R) :
    Calls Try.prog 60 #[yardV H v, ov] w fun e w' => ∃ g Z, e = .returned (gndV H g R.length R.length) ∧ w.heap.size ≤ g ∧ Gnd w' g Z (pilF (trn O) R) ∧ Below w.heap.size w w' := by
  have HV := hide h
  have HVO := hide hO
  have HY := hide hy
  obtain ⟨oo, ocap, rfl, -⟩ := hO
  clear h hy
  obtain ⟨P, eP⟩ : ∃ P, P = pilF (trn O) R := ⟨_, rfl⟩
  have EP := hide eP
  rw [← eP]
  clear eP
  unfold yardV gndV
  go_enter Try.func60, Try.ntmps60
  go_upto_region 1 with (fail)
  obtain ⟨g0, eg0⟩ : ∃ z, z = w.heap.size := ⟨_, rfl⟩
  obtain ⟨W, eW⟩ : ∃ z, z = ((w.alloc (.cells #[.int .i64 H, v] 26)).alloc (.cells #[.slice oo O.length ocap] 30)).alloc (.cells #[.int .i64 0, .slice none 0 0] 90) := ⟨_, rfl⟩
  have HW : Hid (Below w.heap.size w W) := by rw [eW]; exact Below.step (Below.step (Below.alloc1 _ _) (Below.alloc1 _ _)) (Below.alloc1 _ _)
  have HB : Hid (OwnV W g0 [.int .i64 H, v]) := by rw [eW, eg0]; exact ((ownV_alloc _ _ _).step (Below.alloc1 _ _)).step (Below.alloc1 _ _)
  have HB2 : Hid (OwnV W (g0 + 1) [.slice oo O.length ocap]) := by rw [eW, eg0]; exact (own_new _ _ _ _ (by simp)).step (Below.alloc1 _ _)
  have HA : Hid (OwnV W (g0 + 1 + 1) [.int .i64 0, .slice none 0 0]) := by rw [eW, eg0]; exact own_new _ _ _ _ (by simp)
  rw [← eW, ← eg0]
  have hg0 : w.heap.size ≤ g0 := by omega
  clear eW eg0
  have HQ := hide (groundOfT_any H v R (g0 + 1) (.slice oo O.length ocap) O W ((unhide HV).below (unhide HW)) (unhide HY) ((unhide HB2).cell (i := 0) rfl) ((unhide HVO).below (unhide HW)))
  rw [← unhide EP] at HQ
  unfold yardV gndV at HQ
  have b0 := (unhide HB).cell (i := 0) rfl
  have b1 := (unhide HB).cell (i := 1) rfl
  go_wp2_with fail
  refine (unhide HQ).mono ?_
  rintro e w9 ⟨gp, Z, rfl, hgp, hG, hb⟩
  have HG := hide hG
  have hal := (unhide HA).lt
  replace HA := hide ((unhide HA).step hb)
  replace HW := hide (Below.step (unhide HW) hb)
  clear b0 b1 hG HQ
  have HKS : Hid (Kept (fun b => b = g0 + 1 + 1) w9 ((w9.setCell ⟨g0 + 1 + 1, 0, none⟩ (.int .i64 H)).setCell ⟨g0 + 1 + 1, 1, none⟩ (.slice (some ⟨gp, 0, none⟩) R.length R.length))) := ((Kept.refl (fun b => b = g0 + 1 + 1) _).setCell (p := ⟨g0 + 1 + 1, 0, none⟩) rfl _).setCell (p := ⟨g0 + 1 + 1, 1, none⟩) rfl _
  have rf0 := (unhide HA).frozen 0
  have rf1 := (unhide HA).frozen 1
  have r0 := (unhide HA).cell (i := 0) rfl
  have r1 := (unhide HA).cell (i := 1) rfl
  have f0 := (((unhide HA).set 0 (.int .i64 H) (by simp)).set 1 (.slice (some ⟨gp, 0, none⟩) R.length R.length) (by simp)).cell (i := 0) rfl
  have f1 := (((unhide HA).set 0 (.int .i64 H) (by simp)).set 1 (.slice (some ⟨gp, 0, none⟩) R.length R.length) (by simp)).cell (i := 1) rfl
  have HT : Hid (∀ k, k = g0 + 1 + 1 → NoLink w9 k) := fun k e => e ▸ noLink_own (unhide HA) (fun q e => by cases e)
  have hWB : Below w.heap.size w w9 := unhide HW
  go_wp2
  refine bodyPost_ret (v := .agg #[.int .i64 H, .slice (some ⟨gp, 0, none⟩) R.length R.length]) (by simp [results, Try.results60, go_sem, f0, f1]) rfl ?_
  exact ⟨gp, Z, rfl, by omega, (unhide HG).kept (unhide HKS) (by omega) (unhide HT), below_kept hWB (unhide HKS) hWB.size (fun b e => by omega)⟩

set_option maxRecDepth 10000 in
set_option maxHeartbeats 3200000 in
theorem boxGround_any (H : Int) (v : Value) (R : List (List Int)) (w : World) (h : RowsIn w v R) (hy : YOk H R) :
    Calls Try.prog 48 #[yardV H v] w fun e w' => ∃ g Z, e = .returned (gndV H g R.length R.length) ∧ w.heap.size ≤ g ∧ Gnd w' g Z (pilF idF R) ∧ Below w.heap.size w w' := by
  have HV := hide h
  have HY := hide hy
  clear h hy
  obtain ⟨P, eP⟩ : ∃ P, P = pilF idF R := ⟨_, rfl⟩
  have EP := hide eP
  rw [← eP]
  clear eP
  unfold yardV gndV
  go_enter Try.func48, Try.ntmps48
  go_upto_region 1 with (fail)
  obtain ⟨g0, eg0⟩ : ∃ z, z = w.heap.size := ⟨_, rfl⟩
  obtain ⟨W, eW⟩ : ∃ z, z = (w.alloc (.cells #[.int .i64 H, v] 26)).alloc (.cells #[.int .i64 0, .slice none 0 0] 73) := ⟨_, rfl⟩
  have HW : Hid (Below w.heap.size w W) := by rw [eW]; exact Below.step (Below.alloc1 _ _) (Below.alloc1 _ _)
  have HB : Hid (OwnV W g0 [.int .i64 H, v]) := by rw [eW, eg0]; exact (ownV_alloc _ _ _).step (Below.alloc1 _ _)
  have HA : Hid (OwnV W (g0 + 1) [.int .i64 0, .slice none 0 0]) := by rw [eW, eg0]; exact own_new _ _ _ _ (by simp)
  rw [← eW, ← eg0]
  have hg0 : w.heap.size ≤ g0 := by omega
  clear eW eg0
  have HQ := hide (groundOfI_any H v R W ((unhide HV).below (unhide HW)) (unhide HY))
  rw [← unhide EP] at HQ
  unfold yardV gndV at HQ
  have b0 := (unhide HB).cell (i := 0) rfl
  have b1 := (unhide HB).cell (i := 1) rfl
  go_wp2_with fail
  refine (unhide HQ).mono ?_
  rintro e w9 ⟨gp, Z, rfl, hgp, hG, hb⟩
  have HG := hide hG
  have hal := (unhide HA).lt
  replace HA := hide ((unhide HA).step hb)
  replace HW := hide (Below.step (unhide HW) hb)
  clear b0 b1 hG HQ
  have HKS : Hid (Kept (fun b => b = g0 + 1) w9 ((w9.setCell ⟨g0 + 1, 0, none⟩ (.int .i64 H)).setCell ⟨g0 + 1, 1, none⟩ (.slice (some ⟨gp, 0, none⟩) R.length R.length))) := ((Kept.refl (fun b => b = g0 + 1) _).setCell (p := ⟨g0 + 1, 0, none⟩) rfl _).setCell (p := ⟨g0 + 1, 1, none⟩) rfl _
  have rf0 := (unhide HA).frozen 0
  have rf1 := (unhide HA).frozen 1
  have r0 := (unhide HA).cell (i := 0) rfl
  have r1 := (unhide HA).cell (i := 1) rfl
  have f0 := (((unhide HA).set 0 (.int .i64 H) (by simp)).set 1 (.slice (some ⟨gp, 0, none⟩) R.length R.length) (by simp)).cell (i := 0) rfl
  have f1 := (((unhide HA).set 0 (.int .i64 H) (by simp)).set 1 (.slice (some ⟨gp, 0, none⟩) R.length R.length) (by simp)).cell (i := 1) rfl
  have HT : Hid (∀ k, k = g0 + 1 → NoLink w9 k) := fun k e => e ▸ noLink_own (unhide HA) (fun q e => by cases e)
  have hWB : Below w.heap.size w w9 := unhide HW
  go_wp2
  refine bodyPost_ret (v := .agg #[.int .i64 H, .slice (some ⟨gp, 0, none⟩) R.length R.length]) (by simp [results, Try.results48, go_sem, f0, f1]) rfl ?_
  exact ⟨gp, Z, rfl, by omega, (unhide HG).kept (unhide HKS) (by omega) (unhide HT), below_kept hWB (unhide HKS) hWB.size (fun b e => by omega)⟩

theorem pilF_turns (O : List Int) (R : List (List Int)) : pilF (trn O) R = pilesOf O R := rfl

set_option maxRecDepth 10000 in
set_option maxHeartbeats 8000000 in
theorem implBlocking_a (H : Int) (v : Value) (R : List (List Int)) (ov : Value) (O : List Int) (w : World) (h : RowsIn w v R) (hO : IntsIn w ov O) :
    Calls Try.prog 21 #[yardV H v, ov] w fun e w' => e = .returned (blkA H R O) ∧ Below w.heap.size w w' := by
  obtain ⟨A, eA⟩ : ∃ A, A = blkA H R O := ⟨_, rfl⟩
  rw [← eA]
  have EA := hide eA
  clear eA
  have HVO := hide hO
  obtain ⟨oo, ocap, rfl, hol, hom, -⟩ := hO
  unfold maxLen at hom
  have HV := hide h
  obtain ⟨ao, cap, rfl, hc1, hc2⟩ := rows_cap h
  clear h
  have HB := hide (ownV_alloc w #[.int .i64 H, .slice ao R.length cap] 26)
  have HW := hide (Below.alloc1 w (.cells #[.int .i64 H, .slice ao R.length cap] 26))
  obtain ⟨g, eg⟩ : ∃ g, g = w.heap.size := ⟨_, rfl⟩
  have HYK := hide fun W (hb : Below w.heap.size w W) => implYardOk_any H (.slice ao R.length cap) R W ((unhide HV).below hb)
  have HYT : Hid (yardB H R = true → YOk H R) := fun h => of_decide_eq_true h
  have HYF : Hid (yardB H R = false → ¬ YOk H R) := fun h => of_decide_eq_false h
  generalize yardB H R = r at HYK HYT HYF
  unfold yardV at HYK ⊢
  go_enter Try.func21, Try.ntmps21
  go_upto_region 1 with (fail)
  obtain ⟨W0, eW⟩ : ∃ z, z = w.alloc (.cells #[.int .i64 H, .slice ao R.length cap] 26) := ⟨_, rfl⟩
  rw [← eW] at HB HW ⊢
  rw [← eg] at HB ⊢
  clear eW eg
  have b0 := (unhide HB).cell (i := 0) rfl
  have b1 := (unhide HB).cell (i := 1) rfl
  go_wp2_with fail
  refine (unhide HYK _ (unhide HW)).mono ?_
  rintro e w9 ⟨rfl, hb⟩
  replace HW := hide (Below.step (unhide HW) hb)
  replace HB := hide ((unhide HB).step hb)
  clear hb b0 b1 HYK
  have b0 := (unhide HB).cell (i := 0) rfl
  have b1 := (unhide HB).cell (i := 1) rfl
  cases r with
  | false =>
    have HEV := hide ((unhide EA).trans (blkA_bad fun h => unhide HYF (by first | rfl | trivial) h.1))
    go_wp2
    go_ret2
    exact ⟨by rw [unhide HEV]; rfl, unhide HW⟩
  | true =>
  have hy := unhide HYT (by first | rfl | trivial)
  have HY := hide hy
  clear hy HYT HYF
  by_cases h72 : O.length ≤ 72
  · have HTW := hide fun W (hb : Below w.heap.size w W) => hasTwice_any oo O.length ocap O W ((unhide HVO).below hb) (by omega)
    have HNT : Hid ((!decide O.Nodup) = true → ¬ O.Nodup) := fun h hn => by simp [hn] at h
    have HNF : Hid ((!decide O.Nodup) = false → O.Nodup) := fun h => by simpa using h
    generalize (!decide O.Nodup) = q at HTW HNT HNF
    cases q with
    | true =>
      have HEV := hide ((unhide EA).trans (blkA_bad fun h => unhide HNT (by first | rfl | trivial) h.2.2))
      go_wp2_with fail
      refine (unhide HTW _ (unhide HW)).mono ?_
      rintro e w8 ⟨rfl, hb⟩
      replace HW := hide (Below.step (unhide HW) hb)
      clear hb b0 b1
      go_wp2
      go_ret2
      exact ⟨by rw [unhide HEV]; rfl, unhide HW⟩
    | false =>
      have HEV := hide ((unhide EA).trans (blkA_ok ⟨unhide HY, h72, unhide HNF (by first | rfl | trivial)⟩))
      go_wp2_with fail
      refine (unhide HTW _ (unhide HW)).mono ?_
      rintro e w8 ⟨rfl, hb⟩
      replace HW := hide (Below.step (unhide HW) hb)
      replace HB := hide ((unhide HB).step hb)
      clear hb b0 b1
      have b0 := (unhide HB).cell (i := 0) rfl
      have b1 := (unhide HB).cell (i := 1) rfl
      have HQ := hide (turnGround_any H (.slice ao R.length cap) R (.slice oo O.length ocap) O w8 ((unhide HV).below (unhide HW)) ((unhide HVO).below (unhide HW)) (unhide HY))
      unfold yardV gndV at HQ
      go_wp2_with fail
      refine (unhide HQ).mono ?_
      rintro e w7 ⟨gp, Z, rfl, hgp, hG, hb⟩
      replace HW := hide (Below.step (unhide HW) hb)
      have HL : Hid (∀ s, s < (pilF (trn O) R).length → ((pilF (trn O) R).getD s []).length ≤ 6) := fun s hs => by
        rw [pilF_len] at hs
        rw [pilF_get _ hs, pil_len]
        have h1 := (unhide HY).low s hs
        have h2 := (unhide HY).h2
        omega
      have HBK := hide (blockers_any H gp R.length Z (pilF (trn O) R) w7 hG (by rw [pilF_len]; exact (unhide HY).n2) (by rw [pilF_len]; exact Nat.le_refl _) (by unfold maxLen; omega) (unhide HL))
      rw [pilF_len, pilF_turns] at HBK
      unfold gndV at HBK
      generalize blkP (pilesOf O R) = bb at HBK HEV
      clear hb hG b0 b1 HQ
      go_wp2_with fail
      refine (unhide HBK).mono ?_
      rintro e w6 ⟨rfl, hb⟩
      replace HW := hide (Below.step (unhide HW) hb)
      clear hb
      go_wp2
      go_ret2
      exact ⟨by rw [unhide HEV]; rfl, unhide HW⟩
  · have HEV := hide ((unhide EA).trans (blkA_bad fun h => h72 h.2.1))
    have h72i : (72 : Int) < (O.length : Int) := by omega
    go_wp2
    go_ret2
    exact ⟨by rw [unhide HEV]; rfl, unhide HW⟩

theorem specBlocking_any (H : Int) (v : Value) (R : List (List Int)) (ov : Value) (O : List Int) (w : World) (h : RowsIn w v R) (hO : IntsIn w ov O) :
    Calls Try.prog 39 #[yardV H v, ov] w fun e w' => e = .returned (.tuple #[.int .i64 (blkV H R O).1, .bool (blkV H R O).2]) ∧ Below w.heap.size w w' := specBlocking_a H v R ov O w h hO
theorem implBlocking_any (H : Int) (v : Value) (R : List (List Int)) (ov : Value) (O : List Int) (w : World) (h : RowsIn w v R) (hO : IntsIn w ov O) :
    Calls Try.prog 21 #[yardV H v, ov] w fun e w' => e = .returned (.tuple #[.int .i64 (blkV H R O).1, .bool (blkV H R O).2]) ∧ Below w.heap.size w w' := implBlocking_a H v R ov O w h hO

end Go.Proofs.Ytdiifkeebgdfkaa

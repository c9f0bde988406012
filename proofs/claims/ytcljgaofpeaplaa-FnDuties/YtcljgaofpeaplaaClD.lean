/- What is drawn for FnClosest and FnDuties: two ships that are right. Written by wip/mkcld.py. No statement about the program stands here. -/
import Derived.Test.YtcljgaofpeaplaaRrA
import Derived.Test.YtcljgaofpeaplaaDrE
import Derived.Deep.DeepCutAuto
import Derived.Deep.Cut
import Derived.BigRegion
import Derived.Deep.RegionHeld3
namespace Go.Proofs.Ytcljgaofpeaplaa
open Go.RowKit

abbrev KC (cb : Nat) (w W : World) : Prop := Kept (fun b => b = cb) w W
theorem Kept.own {T P : Nat → Prop} {w W V : World} (h : Kept T w W) (k : Kept P W V) (hp : ∀ b, P b → w.heap.size ≤ b) : Kept T w V :=
  ⟨k.os.trans h.os, k.tape.trans h.tape, k.output.trans h.output, Nat.le_trans h.size k.size, fun i hi ht => (k.block i (Nat.lt_of_lt_of_le hi h.size) (fun hb => by have := hp i hb; omega)).trans (h.block i hi ht)⟩
theorem kept1 (W : World) (g j : Nat) (x : Value) : Kept (fun b => b = g) W (W.setCell ⟨g, j, none⟩ x) := Kept.setCell (T := fun b => b = g) (Kept.refl _ W) (p := ⟨g, j, none⟩) rfl x
theorem own6 {W : World} {g : Nat} {a0 a1 a2 a3 a4 a5 : Value} (h : OwnV W g [a0, a1, a2, a3, a4, a5]) (X Y U Vy K D : Int) : OwnV ((((((W.setCell ⟨g, 0, none⟩ (.int .i64 X)).setCell ⟨g, 1, none⟩ (.int .i64 Y)).setCell ⟨g, 2, none⟩ (.int .i64 U)).setCell ⟨g, 3, none⟩ (.int .i64 Vy)).setCell ⟨g, 4, none⟩ (.int .i64 K)).setCell ⟨g, 5, none⟩ (.int .i64 D)) g [.int .i64 X, .int .i64 Y, .int .i64 U, .int .i64 Vy, .int .i64 K, .int .i64 D] :=
  (((((h.set 0 _ (by simp)).set 1 _ (by simp)).set 2 _ (by simp)).set 3 _ (by simp)).set 4 _ (by simp)).set 5 _ (by simp)
theorem kept6 (W : World) (g : Nat) (X Y U Vy K D : Int) : Kept (fun b => b = g) W ((((((W.setCell ⟨g, 0, none⟩ (.int .i64 X)).setCell ⟨g, 1, none⟩ (.int .i64 Y)).setCell ⟨g, 2, none⟩ (.int .i64 U)).setCell ⟨g, 3, none⟩ (.int .i64 Vy)).setCell ⟨g, 4, none⟩ (.int .i64 K)).setCell ⟨g, 5, none⟩ (.int .i64 D)) :=
  (((((kept1 W g 0 _).trans (kept1 _ g 1 _)).trans (kept1 _ g 2 _)).trans (kept1 _ g 3 _)).trans (kept1 _ g 4 _)).trans (kept1 _ g 5 _)
theorem ship_ok {X Y U V K D : Int} (h1 : -20 ≤ X ∧ X ≤ 20) (h2 : -20 ≤ Y ∧ Y ≤ 20) (h3 : -5 ≤ U ∧ U ≤ 5) (h4 : -5 ≤ V ∧ V ≤ 5) (h5 : U ≠ 0 ∨ V ≠ 0) (h6 : 1 ≤ K ∧ K ≤ 5) (h7 : 0 ≤ D ∧ D ≤ 3) : shipB X Y U V K D = true := by
  unfold shipB
  rw [inB_mk (by omega) (by omega), inB_mk (by omega) (by omega), inB_mk (by omega) (by omega), inB_mk (by omega) (by omega), inB_mk (by omega) (by omega), inB_mk (by omega) (by omega)]
  have : (U != 0 || V != 0) = true := by
    rcases h5 with e | e <;> simp [e]
  rw [this]
  rfl

set_option maxRecDepth 100000 in
set_option maxHeartbeats 8000000 in
theorem l8Draw_any (cb n : Nat) (v : Value) (w : World) (h : Cur w cb v n) (hn : n ≤ 1048576) :
    Calls Try.prog 16 #[.pointer (some ⟨cb, 0, none⟩)] w fun e w' => ∃ X Y U V K D, e = .returned (vShip X Y U V K D) ∧ shipB X Y U V K D = true ∧ Cur w' cb v n ∧ KC cb w w' := by
  have QB := hide fun W (hW : Cur W cb v n) k h0 h1 => l1BelowV_any cb n v k W hW hn h0 h1
  have QO := hide fun W (hW : Cur W cb v n) k h0 h1 => l1Once_any cb n v k W hW hn h0 h1
  have hcb := h.lt
  have hA := Below.alloc1 w (.cells #[.int .i64 0, .int .i64 0, .int .i64 0, .int .i64 0, .int .i64 0, .int .i64 0] 25)
  have HG := hide (ownV_alloc w #[.int .i64 0, .int .i64 0, .int .i64 0, .int .i64 0, .int .i64 0, .int .i64 0] 25)
  obtain ⟨V0, eV0⟩ : ∃ V, V = w.alloc (.cells #[.int .i64 0, .int .i64 0, .int .i64 0, .int .i64 0, .int .i64 0, .int .i64 0] 25) := ⟨_, rfl⟩
  rw [← eV0] at hA HG
  have HC := hide (h.below hA)
  have HK := hide (kept_of_below (T := fun b => b = cb) hA)
  obtain ⟨g2, eg2⟩ : ∃ g, g = w.heap.size := ⟨_, rfl⟩
  rw [← eg2] at HG
  have hg2 : cb < g2 := by omega
  have hg2w : w.heap.size ≤ g2 := by omega
  clear h hA
  go_enter Try.func16, Try.ntmps16
  go_wp2_with fail
  rw [← eV0, ← eg2]
  clear eV0 eg2
  refine (unhide QB _ (unhide HC) 41 (by omega) (by omega)).mono ?_
  rintro e W1 ⟨x, rfl, hx0, hx1, hC, hK⟩
  replace HC := hide hC
  replace HG := hide ((unhide HG).kept hK (fun e => by have e : g2 = cb := e; omega))
  replace HK := hide ((unhide HK).trans hK)
  clear hC hK
  obtain ⟨X, eX⟩ : ∃ z, z = x - 20 := ⟨_, rfl⟩
  have qX : IntKind.i64.wrap (x - 20) = X := by rw [← eX, IntKind.wrap_i64]; omega
  have pX : x - 20 = X := eX.symm
  have hX : -20 ≤ X ∧ X ≤ 20 := by omega
  clear eX
  go_wp2_with fail
  refine (unhide QB _ (unhide HC) 41 (by omega) (by omega)).mono ?_
  rintro e W2 ⟨y, rfl, hy0, hy1, hC, hK⟩
  replace HC := hide hC
  replace HG := hide ((unhide HG).kept hK (fun e => by have e : g2 = cb := e; omega))
  replace HK := hide ((unhide HK).trans hK)
  clear hC hK
  obtain ⟨Y, eY⟩ : ∃ z, z = y - 20 := ⟨_, rfl⟩
  have qY : IntKind.i64.wrap (y - 20) = Y := by rw [← eY, IntKind.wrap_i64]; omega
  have pY : y - 20 = Y := eY.symm
  have hY : -20 ≤ Y ∧ Y ≤ 20 := by omega
  clear eY
  go_wp2_with fail
  refine (unhide QB _ (unhide HC) 11 (by omega) (by omega)).mono ?_
  rintro e W3 ⟨u, rfl, hu0, hu1, hC, hK⟩
  replace HC := hide hC
  replace HG := hide ((unhide HG).kept hK (fun e => by have e : g2 = cb := e; omega))
  replace HK := hide ((unhide HK).trans hK)
  clear hC hK
  obtain ⟨U, eU⟩ : ∃ z, z = u - 5 := ⟨_, rfl⟩
  have qU : IntKind.i64.wrap (u - 5) = U := by rw [← eU, IntKind.wrap_i64]; omega
  have pU : u - 5 = U := eU.symm
  have hU : -5 ≤ U ∧ U ≤ 5 := by omega
  clear eU
  go_wp2_with fail
  refine (unhide QB _ (unhide HC) 11 (by omega) (by omega)).mono ?_
  rintro e W4 ⟨t, rfl, ht0, ht1, hC, hK⟩
  replace HC := hide hC
  replace HG := hide ((unhide HG).kept hK (fun e => by have e : g2 = cb := e; omega))
  replace HK := hide ((unhide HK).trans hK)
  clear hC hK
  obtain ⟨Vy, eVy⟩ : ∃ z, z = t - 5 := ⟨_, rfl⟩
  have qVy : IntKind.i64.wrap (t - 5) = Vy := by rw [← eVy, IntKind.wrap_i64]; omega
  have pVy : t - 5 = Vy := eVy.symm
  have hVy : -5 ≤ Vy ∧ Vy ≤ 5 := by omega
  clear eVy
  go_wp2_with fail
  refine (unhide QB _ (unhide HC) 3 (by omega) (by omega)).mono ?_
  rintro e W5 ⟨d, rfl, hd0, hd1, hC, hK⟩
  replace HC := hide hC
  replace HG := hide ((unhide HG).kept hK (fun e => by have e : g2 = cb := e; omega))
  replace HK := hide ((unhide HK).trans hK)
  clear hC hK
  have hd2 : 0 ≤ d ∧ d ≤ 3 := by omega
  obtain ⟨gs, egs⟩ : ∃ q, q = W5.heap.size := ⟨_, rfl⟩
  have hgs : g2 < gs := by have := (unhide HG).lt; omega
  obtain ⟨V5, eV5⟩ : ∃ V, V = W5.alloc (.cells #[.int .i64 X, .int .i64 Y, .int .i64 U, .int .i64 Vy, .int .i64 1, .int .i64 d] 25) := ⟨_, rfl⟩
  have hA5 : Below W5.heap.size W5 V5 := by rw [eV5]; exact Below.alloc1 _ _
  have HS : Hid (OwnV V5 gs [.int .i64 X, .int .i64 Y, .int .i64 U, .int .i64 Vy, .int .i64 1, .int .i64 d]) := by show OwnV _ _ _; rw [eV5, egs]; exact ownV_alloc _ _ _
  replace HG := hide ((unhide HG).step hA5)
  replace HC := hide ((unhide HC).below hA5)
  replace HK := hide ((unhide HK).trans (kept_of_below hA5))
  go_upto_region 2 with (fail)
  rw [← eV5, ← egs]
  clear eV5 egs hA5 qX qY qU qVy pX pY pU pVy
  go_wp2_with fail
  refine (unhide QO _ (unhide HC) 3 (by omega) (by omega)).mono ?_
  rintro e W6 ⟨b, rfl, hC, hK⟩
  replace HC := hide hC
  replace HG := hide ((unhide HG).kept hK (fun e => by have e : g2 = cb := e; omega))
  replace HS := hide ((unhide HS).kept hK (fun e => by have e : gs = cb := e; omega))
  replace HK := hide ((unhide HK).trans hK)
  clear hC hK
  cases b with
  | false =>
    go_upto_region 4 with (fail)
    have hK0 : (1 : Int) ≤ 1 ∧ (1 : Int) ≤ 5 := by omega
    have s2 := (unhide HS).cell (i := 2) rfl
    have s3 := (unhide HS).cell (i := 3) rfl
    have sf := (unhide HS).frozen 2
    by_cases hu0 : U = 0
    · by_cases hv0 : Vy = 0
      · have dU : (U == 0) = true := by simp [hu0]
        have dV : (Vy == 0) = true := by simp [hv0]
        obtain ⟨WZ, eWZ⟩ : ∃ V, V = W6.setCell ⟨gs, 2, none⟩ (.int .i64 1) := ⟨_, rfl⟩
        have hkp := kept1 W6 gs 2 (.int .i64 1)
        rw [← eWZ] at hkp
        have HS2 : Hid (OwnV WZ gs [.int .i64 X, .int .i64 Y, .int .i64 1, .int .i64 Vy, .int .i64 1, .int .i64 d]) := by show OwnV _ _ _; rw [eWZ]; exact (unhide HS).set 2 _ (by simp)
        replace HG := hide ((unhide HG).kept hkp (fun e => by have e : g2 = gs := e; omega))
        replace HC := hide ((unhide HC).kept hkp (fun b hb => by have hb : b = gs := hb; omega))
        replace HK := hide ((unhide HK).own hkp (fun b hb => by have hb : b = gs := hb; omega))
        go_upto_region 6 with (fail)
        rw [← eWZ]
        clear eWZ hkp s2 s3 sf HS
        have HS := HS2
        clear HS2
        clear hu0 hv0 dU dV
        have s0 := (unhide HS).cell (i := 0) rfl
        have s1 := (unhide HS).cell (i := 1) rfl
        have s2 := (unhide HS).cell (i := 2) rfl
        have s3 := (unhide HS).cell (i := 3) rfl
        have s4 := (unhide HS).cell (i := 4) rfl
        have s5 := (unhide HS).cell (i := 5) rfl
        have c0 := (unhide HG).cell (i := 0) rfl
        have f0 := (unhide HG).frozen 0
        have c1 := (unhide HG).cell (i := 1) rfl
        have f1 := (unhide HG).frozen 1
        have c2 := (unhide HG).cell (i := 2) rfl
        have f2 := (unhide HG).frozen 2
        have c3 := (unhide HG).cell (i := 3) rfl
        have f3 := (unhide HG).frozen 3
        have c4 := (unhide HG).cell (i := 4) rfl
        have f4 := (unhide HG).frozen 4
        have c5 := (unhide HG).cell (i := 5) rfl
        have f5 := (unhide HG).frozen 5
        obtain ⟨V9, eV9⟩ : ∃ V, V = (((((WZ.setCell ⟨g2, 0, none⟩ (.int .i64 X)).setCell ⟨g2, 1, none⟩ (.int .i64 Y)).setCell ⟨g2, 2, none⟩ (.int .i64 1)).setCell ⟨g2, 3, none⟩ (.int .i64 Vy)).setCell ⟨g2, 4, none⟩ (.int .i64 1)).setCell ⟨g2, 5, none⟩ (.int .i64 d) := ⟨_, rfl⟩
        have HG9 : Hid (OwnV V9 g2 [.int .i64 X, .int .i64 Y, .int .i64 1, .int .i64 Vy, .int .i64 1, .int .i64 d]) := by show OwnV _ _ _; rw [eV9]; exact own6 (unhide HG) (X) (Y) (1) (Vy) (1) (d)
        have hkp : Kept (fun b => b = g2) WZ V9 := by rw [eV9]; exact kept6 _ _ (X) (Y) (1) (Vy) (1) (d)
        have HC9 := hide ((unhide HC).kept hkp (fun b hb => by have hb : b = g2 := hb; omega))
        have HK9 := hide ((unhide HK).own hkp (fun b hb => by have hb : b = g2 := hb; omega))
        clear hkp
        go_wp2
        rw [← eV9]
        have k0 := (unhide HG9).cell (i := 0) rfl
        have k1 := (unhide HG9).cell (i := 1) rfl
        have k2 := (unhide HG9).cell (i := 2) rfl
        have k3 := (unhide HG9).cell (i := 3) rfl
        have k4 := (unhide HG9).cell (i := 4) rfl
        have k5 := (unhide HG9).cell (i := 5) rfl
        refine bodyPost_ret (v := vShip (X) (Y) (1) (Vy) (1) (d)) (by simp [results, Try.results16, go_sem, vShip, k0, k1, k2, k3, k4, k5]) rfl ⟨X, Y, 1, Vy, 1, d, rfl, ship_ok hX hY (by omega) hVy (Or.inl (by omega)) hK0 hd2, unhide HC9, unhide HK9⟩
      · have dU : (U == 0) = true := by simp [hu0]
        have dV : (Vy == 0) = false := by simp [hv0]
        obtain ⟨WZ, eWZ⟩ : ∃ V, V = W6 := ⟨_, rfl⟩
        go_upto_region 6 with (fail)
        rw [← eWZ] at HS HG HC HK ⊢
        clear eWZ s2 s3 sf
        clear hu0 dU dV
        have s0 := (unhide HS).cell (i := 0) rfl
        have s1 := (unhide HS).cell (i := 1) rfl
        have s2 := (unhide HS).cell (i := 2) rfl
        have s3 := (unhide HS).cell (i := 3) rfl
        have s4 := (unhide HS).cell (i := 4) rfl
        have s5 := (unhide HS).cell (i := 5) rfl
        have c0 := (unhide HG).cell (i := 0) rfl
        have f0 := (unhide HG).frozen 0
        have c1 := (unhide HG).cell (i := 1) rfl
        have f1 := (unhide HG).frozen 1
        have c2 := (unhide HG).cell (i := 2) rfl
        have f2 := (unhide HG).frozen 2
        have c3 := (unhide HG).cell (i := 3) rfl
        have f3 := (unhide HG).frozen 3
        have c4 := (unhide HG).cell (i := 4) rfl
        have f4 := (unhide HG).frozen 4
        have c5 := (unhide HG).cell (i := 5) rfl
        have f5 := (unhide HG).frozen 5
        obtain ⟨V9, eV9⟩ : ∃ V, V = (((((WZ.setCell ⟨g2, 0, none⟩ (.int .i64 X)).setCell ⟨g2, 1, none⟩ (.int .i64 Y)).setCell ⟨g2, 2, none⟩ (.int .i64 U)).setCell ⟨g2, 3, none⟩ (.int .i64 Vy)).setCell ⟨g2, 4, none⟩ (.int .i64 1)).setCell ⟨g2, 5, none⟩ (.int .i64 d) := ⟨_, rfl⟩
        have HG9 : Hid (OwnV V9 g2 [.int .i64 X, .int .i64 Y, .int .i64 U, .int .i64 Vy, .int .i64 1, .int .i64 d]) := by show OwnV _ _ _; rw [eV9]; exact own6 (unhide HG) (X) (Y) (U) (Vy) (1) (d)
        have hkp : Kept (fun b => b = g2) WZ V9 := by rw [eV9]; exact kept6 _ _ (X) (Y) (U) (Vy) (1) (d)
        have HC9 := hide ((unhide HC).kept hkp (fun b hb => by have hb : b = g2 := hb; omega))
        have HK9 := hide ((unhide HK).own hkp (fun b hb => by have hb : b = g2 := hb; omega))
        clear hkp
        go_wp2
        rw [← eV9]
        have k0 := (unhide HG9).cell (i := 0) rfl
        have k1 := (unhide HG9).cell (i := 1) rfl
        have k2 := (unhide HG9).cell (i := 2) rfl
        have k3 := (unhide HG9).cell (i := 3) rfl
        have k4 := (unhide HG9).cell (i := 4) rfl
        have k5 := (unhide HG9).cell (i := 5) rfl
        refine bodyPost_ret (v := vShip (X) (Y) (U) (Vy) (1) (d)) (by simp [results, Try.results16, go_sem, vShip, k0, k1, k2, k3, k4, k5]) rfl ⟨X, Y, U, Vy, 1, d, rfl, ship_ok hX hY hU hVy (Or.inr hv0) hK0 hd2, unhide HC9, unhide HK9⟩
    · have dU : (U == 0) = false := by simp [hu0]
      obtain ⟨WZ, eWZ⟩ : ∃ V, V = W6 := ⟨_, rfl⟩
      go_upto_region 6 with (fail)
      rw [← eWZ] at HS HG HC HK ⊢
      clear eWZ s2 s3 sf
      have s0 := (unhide HS).cell (i := 0) rfl
      have s1 := (unhide HS).cell (i := 1) rfl
      have s2 := (unhide HS).cell (i := 2) rfl
      have s3 := (unhide HS).cell (i := 3) rfl
      have s4 := (unhide HS).cell (i := 4) rfl
      have s5 := (unhide HS).cell (i := 5) rfl
      have c0 := (unhide HG).cell (i := 0) rfl
      have f0 := (unhide HG).frozen 0
      have c1 := (unhide HG).cell (i := 1) rfl
      have f1 := (unhide HG).frozen 1
      have c2 := (unhide HG).cell (i := 2) rfl
      have f2 := (unhide HG).frozen 2
      have c3 := (unhide HG).cell (i := 3) rfl
      have f3 := (unhide HG).frozen 3
      have c4 := (unhide HG).cell (i := 4) rfl
      have f4 := (unhide HG).frozen 4
      have c5 := (unhide HG).cell (i := 5) rfl
      have f5 := (unhide HG).frozen 5
      obtain ⟨V9, eV9⟩ : ∃ V, V = (((((WZ.setCell ⟨g2, 0, none⟩ (.int .i64 X)).setCell ⟨g2, 1, none⟩ (.int .i64 Y)).setCell ⟨g2, 2, none⟩ (.int .i64 U)).setCell ⟨g2, 3, none⟩ (.int .i64 Vy)).setCell ⟨g2, 4, none⟩ (.int .i64 1)).setCell ⟨g2, 5, none⟩ (.int .i64 d) := ⟨_, rfl⟩
      have HG9 : Hid (OwnV V9 g2 [.int .i64 X, .int .i64 Y, .int .i64 U, .int .i64 Vy, .int .i64 1, .int .i64 d]) := by show OwnV _ _ _; rw [eV9]; exact own6 (unhide HG) (X) (Y) (U) (Vy) (1) (d)
      have hkp : Kept (fun b => b = g2) WZ V9 := by rw [eV9]; exact kept6 _ _ (X) (Y) (U) (Vy) (1) (d)
      have HC9 := hide ((unhide HC).kept hkp (fun b hb => by have hb : b = g2 := hb; omega))
      have HK9 := hide ((unhide HK).own hkp (fun b hb => by have hb : b = g2 := hb; omega))
      clear hkp
      go_wp2
      rw [← eV9]
      have k0 := (unhide HG9).cell (i := 0) rfl
      have k1 := (unhide HG9).cell (i := 1) rfl
      have k2 := (unhide HG9).cell (i := 2) rfl
      have k3 := (unhide HG9).cell (i := 3) rfl
      have k4 := (unhide HG9).cell (i := 4) rfl
      have k5 := (unhide HG9).cell (i := 5) rfl
      refine bodyPost_ret (v := vShip (X) (Y) (U) (Vy) (1) (d)) (by simp [results, Try.results16, go_sem, vShip, k0, k1, k2, k3, k4, k5]) rfl ⟨X, Y, U, Vy, 1, d, rfl, ship_ok hX hY hU hVy (Or.inl hu0) hK0 hd2, unhide HC9, unhide HK9⟩
  | true =>
    go_wp2_with fail
    refine (unhide QB _ (unhide HC) 5 (by omega) (by omega)).mono ?_
    rintro e W7 ⟨k, rfl, hk0, hk1, hC, hK⟩
    replace HC := hide hC
    replace HG := hide ((unhide HG).kept hK (fun e => by have e : g2 = cb := e; omega))
    replace HS := hide ((unhide HS).kept hK (fun e => by have e : gs = cb := e; omega))
    replace HK := hide ((unhide HK).trans hK)
    clear hC hK
    obtain ⟨K, eK⟩ : ∃ z, z = 1 + k := ⟨_, rfl⟩
    have qK : IntKind.i64.wrap (1 + k) = K := by rw [← eK, IntKind.wrap_i64]; omega
    have pK : 1 + k = K := eK.symm
    have hK0 : 1 ≤ K ∧ K ≤ 5 := by omega
    clear eK
    have s4 := (unhide HS).cell (i := 4) rfl
    have sf4 := (unhide HS).frozen 4
    obtain ⟨W8, eW8⟩ : ∃ V, V = W7.setCell ⟨gs, 4, none⟩ (.int .i64 K) := ⟨_, rfl⟩
    have hkp := kept1 W7 gs 4 (.int .i64 K)
    rw [← eW8] at hkp
    have HS2 : Hid (OwnV W8 gs [.int .i64 X, .int .i64 Y, .int .i64 U, .int .i64 Vy, .int .i64 K, .int .i64 d]) := by show OwnV _ _ _; rw [eW8]; exact (unhide HS).set 4 _ (by simp)
    replace HG := hide ((unhide HG).kept hkp (fun e => by have e : g2 = gs := e; omega))
    replace HC := hide ((unhide HC).kept hkp (fun b hb => by have hb : b = gs := hb; omega))
    replace HK := hide ((unhide HK).own hkp (fun b hb => by have hb : b = gs := hb; omega))
    go_upto_region 4 with (fail)
    rw [← eW8]
    clear eW8 hkp s4 sf4 HS qK pK
    have HS := HS2
    clear HS2
    have s2 := (unhide HS).cell (i := 2) rfl
    have s3 := (unhide HS).cell (i := 3) rfl
    have sf := (unhide HS).frozen 2
    by_cases hu0 : U = 0
    · by_cases hv0 : Vy = 0
      · have dU : (U == 0) = true := by simp [hu0]
        have dV : (Vy == 0) = true := by simp [hv0]
        obtain ⟨WZ, eWZ⟩ : ∃ V, V = W8.setCell ⟨gs, 2, none⟩ (.int .i64 1) := ⟨_, rfl⟩
        have hkp := kept1 W8 gs 2 (.int .i64 1)
        rw [← eWZ] at hkp
        have HS2 : Hid (OwnV WZ gs [.int .i64 X, .int .i64 Y, .int .i64 1, .int .i64 Vy, .int .i64 K, .int .i64 d]) := by show OwnV _ _ _; rw [eWZ]; exact (unhide HS).set 2 _ (by simp)
        replace HG := hide ((unhide HG).kept hkp (fun e => by have e : g2 = gs := e; omega))
        replace HC := hide ((unhide HC).kept hkp (fun b hb => by have hb : b = gs := hb; omega))
        replace HK := hide ((unhide HK).own hkp (fun b hb => by have hb : b = gs := hb; omega))
        go_upto_region 6 with (fail)
        rw [← eWZ]
        clear eWZ hkp s2 s3 sf HS
        have HS := HS2
        clear HS2
        clear hu0 hv0 dU dV
        have s0 := (unhide HS).cell (i := 0) rfl
        have s1 := (unhide HS).cell (i := 1) rfl
        have s2 := (unhide HS).cell (i := 2) rfl
        have s3 := (unhide HS).cell (i := 3) rfl
        have s4 := (unhide HS).cell (i := 4) rfl
        have s5 := (unhide HS).cell (i := 5) rfl
        have c0 := (unhide HG).cell (i := 0) rfl
        have f0 := (unhide HG).frozen 0
        have c1 := (unhide HG).cell (i := 1) rfl
        have f1 := (unhide HG).frozen 1
        have c2 := (unhide HG).cell (i := 2) rfl
        have f2 := (unhide HG).frozen 2
        have c3 := (unhide HG).cell (i := 3) rfl
        have f3 := (unhide HG).frozen 3
        have c4 := (unhide HG).cell (i := 4) rfl
        have f4 := (unhide HG).frozen 4
        have c5 := (unhide HG).cell (i := 5) rfl
        have f5 := (unhide HG).frozen 5
        obtain ⟨V9, eV9⟩ : ∃ V, V = (((((WZ.setCell ⟨g2, 0, none⟩ (.int .i64 X)).setCell ⟨g2, 1, none⟩ (.int .i64 Y)).setCell ⟨g2, 2, none⟩ (.int .i64 1)).setCell ⟨g2, 3, none⟩ (.int .i64 Vy)).setCell ⟨g2, 4, none⟩ (.int .i64 K)).setCell ⟨g2, 5, none⟩ (.int .i64 d) := ⟨_, rfl⟩
        have HG9 : Hid (OwnV V9 g2 [.int .i64 X, .int .i64 Y, .int .i64 1, .int .i64 Vy, .int .i64 K, .int .i64 d]) := by show OwnV _ _ _; rw [eV9]; exact own6 (unhide HG) (X) (Y) (1) (Vy) (K) (d)
        have hkp : Kept (fun b => b = g2) WZ V9 := by rw [eV9]; exact kept6 _ _ (X) (Y) (1) (Vy) (K) (d)
        have HC9 := hide ((unhide HC).kept hkp (fun b hb => by have hb : b = g2 := hb; omega))
        have HK9 := hide ((unhide HK).own hkp (fun b hb => by have hb : b = g2 := hb; omega))
        clear hkp
        go_wp2
        rw [← eV9]
        have k0 := (unhide HG9).cell (i := 0) rfl
        have k1 := (unhide HG9).cell (i := 1) rfl
        have k2 := (unhide HG9).cell (i := 2) rfl
        have k3 := (unhide HG9).cell (i := 3) rfl
        have k4 := (unhide HG9).cell (i := 4) rfl
        have k5 := (unhide HG9).cell (i := 5) rfl
        refine bodyPost_ret (v := vShip (X) (Y) (1) (Vy) (K) (d)) (by simp [results, Try.results16, go_sem, vShip, k0, k1, k2, k3, k4, k5]) rfl ⟨X, Y, 1, Vy, K, d, rfl, ship_ok hX hY (by omega) hVy (Or.inl (by omega)) hK0 hd2, unhide HC9, unhide HK9⟩
      · have dU : (U == 0) = true := by simp [hu0]
        have dV : (Vy == 0) = false := by simp [hv0]
        obtain ⟨WZ, eWZ⟩ : ∃ V, V = W8 := ⟨_, rfl⟩
        go_upto_region 6 with (fail)
        rw [← eWZ] at HS HG HC HK ⊢
        clear eWZ s2 s3 sf
        clear hu0 dU dV
        have s0 := (unhide HS).cell (i := 0) rfl
        have s1 := (unhide HS).cell (i := 1) rfl
        have s2 := (unhide HS).cell (i := 2) rfl
        have s3 := (unhide HS).cell (i := 3) rfl
        have s4 := (unhide HS).cell (i := 4) rfl
        have s5 := (unhide HS).cell (i := 5) rfl
        have c0 := (unhide HG).cell (i := 0) rfl
        have f0 := (unhide HG).frozen 0
        have c1 := (unhide HG).cell (i := 1) rfl
        have f1 := (unhide HG).frozen 1
        have c2 := (unhide HG).cell (i := 2) rfl
        have f2 := (unhide HG).frozen 2
        have c3 := (unhide HG).cell (i := 3) rfl
        have f3 := (unhide HG).frozen 3
        have c4 := (unhide HG).cell (i := 4) rfl
        have f4 := (unhide HG).frozen 4
        have c5 := (unhide HG).cell (i := 5) rfl
        have f5 := (unhide HG).frozen 5
        obtain ⟨V9, eV9⟩ : ∃ V, V = (((((WZ.setCell ⟨g2, 0, none⟩ (.int .i64 X)).setCell ⟨g2, 1, none⟩ (.int .i64 Y)).setCell ⟨g2, 2, none⟩ (.int .i64 U)).setCell ⟨g2, 3, none⟩ (.int .i64 Vy)).setCell ⟨g2, 4, none⟩ (.int .i64 K)).setCell ⟨g2, 5, none⟩ (.int .i64 d) := ⟨_, rfl⟩
        have HG9 : Hid (OwnV V9 g2 [.int .i64 X, .int .i64 Y, .int .i64 U, .int .i64 Vy, .int .i64 K, .int .i64 d]) := by show OwnV _ _ _; rw [eV9]; exact own6 (unhide HG) (X) (Y) (U) (Vy) (K) (d)
        have hkp : Kept (fun b => b = g2) WZ V9 := by rw [eV9]; exact kept6 _ _ (X) (Y) (U) (Vy) (K) (d)
        have HC9 := hide ((unhide HC).kept hkp (fun b hb => by have hb : b = g2 := hb; omega))
        have HK9 := hide ((unhide HK).own hkp (fun b hb => by have hb : b = g2 := hb; omega))
        clear hkp
        go_wp2
        rw [← eV9]
        have k0 := (unhide HG9).cell (i := 0) rfl
        have k1 := (unhide HG9).cell (i := 1) rfl
        have k2 := (unhide HG9).cell (i := 2) rfl
        have k3 := (unhide HG9).cell (i := 3) rfl
        have k4 := (unhide HG9).cell (i := 4) rfl
        have k5 := (unhide HG9).cell (i := 5) rfl
        refine bodyPost_ret (v := vShip (X) (Y) (U) (Vy) (K) (d)) (by simp [results, Try.results16, go_sem, vShip, k0, k1, k2, k3, k4, k5]) rfl ⟨X, Y, U, Vy, K, d, rfl, ship_ok hX hY hU hVy (Or.inr hv0) hK0 hd2, unhide HC9, unhide HK9⟩
    · have dU : (U == 0) = false := by simp [hu0]
      obtain ⟨WZ, eWZ⟩ : ∃ V, V = W8 := ⟨_, rfl⟩
      go_upto_region 6 with (fail)
      rw [← eWZ] at HS HG HC HK ⊢
      clear eWZ s2 s3 sf
      have s0 := (unhide HS).cell (i := 0) rfl
      have s1 := (unhide HS).cell (i := 1) rfl
      have s2 := (unhide HS).cell (i := 2) rfl
      have s3 := (unhide HS).cell (i := 3) rfl
      have s4 := (unhide HS).cell (i := 4) rfl
      have s5 := (unhide HS).cell (i := 5) rfl
      have c0 := (unhide HG).cell (i := 0) rfl
      have f0 := (unhide HG).frozen 0
      have c1 := (unhide HG).cell (i := 1) rfl
      have f1 := (unhide HG).frozen 1
      have c2 := (unhide HG).cell (i := 2) rfl
      have f2 := (unhide HG).frozen 2
      have c3 := (unhide HG).cell (i := 3) rfl
      have f3 := (unhide HG).frozen 3
      have c4 := (unhide HG).cell (i := 4) rfl
      have f4 := (unhide HG).frozen 4
      have c5 := (unhide HG).cell (i := 5) rfl
      have f5 := (unhide HG).frozen 5
      obtain ⟨V9, eV9⟩ : ∃ V, V = (((((WZ.setCell ⟨g2, 0, none⟩ (.int .i64 X)).setCell ⟨g2, 1, none⟩ (.int .i64 Y)).setCell ⟨g2, 2, none⟩ (.int .i64 U)).setCell ⟨g2, 3, none⟩ (.int .i64 Vy)).setCell ⟨g2, 4, none⟩ (.int .i64 K)).setCell ⟨g2, 5, none⟩ (.int .i64 d) := ⟨_, rfl⟩
      have HG9 : Hid (OwnV V9 g2 [.int .i64 X, .int .i64 Y, .int .i64 U, .int .i64 Vy, .int .i64 K, .int .i64 d]) := by show OwnV _ _ _; rw [eV9]; exact own6 (unhide HG) (X) (Y) (U) (Vy) (K) (d)
      have hkp : Kept (fun b => b = g2) WZ V9 := by rw [eV9]; exact kept6 _ _ (X) (Y) (U) (Vy) (K) (d)
      have HC9 := hide ((unhide HC).kept hkp (fun b hb => by have hb : b = g2 := hb; omega))
      have HK9 := hide ((unhide HK).own hkp (fun b hb => by have hb : b = g2 := hb; omega))
      clear hkp
      go_wp2
      rw [← eV9]
      have k0 := (unhide HG9).cell (i := 0) rfl
      have k1 := (unhide HG9).cell (i := 1) rfl
      have k2 := (unhide HG9).cell (i := 2) rfl
      have k3 := (unhide HG9).cell (i := 3) rfl
      have k4 := (unhide HG9).cell (i := 4) rfl
      have k5 := (unhide HG9).cell (i := 5) rfl
      refine bodyPost_ret (v := vShip (X) (Y) (U) (Vy) (K) (d)) (by simp [results, Try.results16, go_sem, vShip, k0, k1, k2, k3, k4, k5]) rfl ⟨X, Y, U, Vy, K, d, rfl, ship_ok hX hY hU hVy (Or.inl hu0) hK0 hd2, unhide HC9, unhide HK9⟩

set_option maxRecDepth 100000 in
set_option maxHeartbeats 8000000 in
theorem l8DrawAny_any (cb n : Nat) (v : Value) (w : World) (h : Cur w cb v n) (hn : n ≤ 1048576) :
    Calls Try.prog 33 #[.pointer (some ⟨cb, 0, none⟩)] w fun e w' => ∃ X Y U V K D, e = .returned (vShip X Y U V K D) ∧ Cur w' cb v n ∧ KC cb w w' := by
  have QB := hide fun W (hW : Cur W cb v n) k h0 h1 => l1BelowV_any cb n v k W hW hn h0 h1
  have QO := hide fun W (hW : Cur W cb v n) k h0 h1 => l1Once_any cb n v k W hW hn h0 h1
  have hcb := h.lt
  have hA := Below.alloc1 w (.cells #[.int .i64 0, .int .i64 0, .int .i64 0, .int .i64 0, .int .i64 0, .int .i64 0] 25)
  have HG := hide (ownV_alloc w #[.int .i64 0, .int .i64 0, .int .i64 0, .int .i64 0, .int .i64 0, .int .i64 0] 25)
  obtain ⟨V0, eV0⟩ : ∃ V, V = w.alloc (.cells #[.int .i64 0, .int .i64 0, .int .i64 0, .int .i64 0, .int .i64 0, .int .i64 0] 25) := ⟨_, rfl⟩
  rw [← eV0] at hA HG
  have HC := hide (h.below hA)
  have HK := hide (kept_of_below (T := fun b => b = cb) hA)
  obtain ⟨g2, eg2⟩ : ∃ g, g = w.heap.size := ⟨_, rfl⟩
  rw [← eg2] at HG
  have hg2 : cb < g2 := by omega
  have hg2w : w.heap.size ≤ g2 := by omega
  clear h hA
  go_enter Try.func33, Try.ntmps33
  have QD := hide fun W (hW : Cur W cb v n) => l8Draw_any cb n v W hW hn
  go_wp2_with fail
  rw [← eV0, ← eg2]
  clear eV0 eg2
  refine (unhide QD _ (unhide HC)).mono ?_
  rintro e W1 ⟨X, Y, U, Vy, K, D, rfl, -, hC, hK⟩
  replace HC := hide hC
  replace HG := hide ((unhide HG).kept hK (fun e => by have e : g2 = cb := e; omega))
  replace HK := hide ((unhide HK).trans hK)
  clear hC hK
  unfold vShip
  obtain ⟨gs, egs⟩ : ∃ q, q = W1.heap.size := ⟨_, rfl⟩
  have hgs : g2 < gs := by have := (unhide HG).lt; omega
  obtain ⟨V5, eV5⟩ : ∃ V, V = W1.alloc (.cells #[.int .i64 X, .int .i64 Y, .int .i64 U, .int .i64 Vy, .int .i64 K, .int .i64 D] 25) := ⟨_, rfl⟩
  have hA5 : Below W1.heap.size W1 V5 := by rw [eV5]; exact Below.alloc1 _ _
  have HS : Hid (OwnV V5 gs [.int .i64 X, .int .i64 Y, .int .i64 U, .int .i64 Vy, .int .i64 K, .int .i64 D]) := by show OwnV _ _ _; rw [eV5, egs]; exact ownV_alloc _ _ _
  replace HG := hide ((unhide HG).step hA5)
  replace HC := hide ((unhide HC).below hA5)
  replace HK := hide ((unhide HK).trans (kept_of_below hA5))
  go_upto_region 2 with (fail)
  rw [← eV5, ← egs]
  clear eV5 egs hA5
  go_wp2_with fail
  refine (unhide QB _ (unhide HC) 25 (by omega) (by omega)).mono ?_
  rintro e W2 ⟨x, rfl, hx0, hx1, hC, hK⟩
  replace HC := hide hC
  replace HG := hide ((unhide HG).kept hK (fun e => by have e : g2 = cb := e; omega))
  replace HS := hide ((unhide HS).kept hK (fun e => by have e : gs = cb := e; omega))
  replace HK := hide ((unhide HK).trans hK)
  clear hC hK
  by_cases e0 : x = 0
  case pos =>
    subst e0
    clear hx0 hx1
    go_upto_region 4 with (fail)
    have hA := Below.alloc1 W2 (.cells #[.int .i64 (-100001), .int .i64 (-100000), .int .i64 100000, .int .i64 100001] 3)
    have HI := hide (ownV_alloc W2 #[.int .i64 (-100001), .int .i64 (-100000), .int .i64 100000, .int .i64 100001] 3)
    have hne : ¬ W2.heap.size = cb := by have := (unhide HC).lt; omega
    replace HG := hide ((unhide HG).step hA)
    replace HS := hide ((unhide HS).step hA)
    replace HC := hide ((unhide HC).below hA)
    replace HK := hide ((unhide HK).trans (kept_of_below hA))
    clear hA
    go_wp2_with fail
    refine (l1PickInt_any cb n v _ 4 [-100001, -100000, 100000, 100001] _ (unhide HC) hn (unhide HI) hne rfl (by omega) (by omega)).mono ?_
    rintro e W2p ⟨z0, rfl, hC, hK⟩
    clear HI hne
    replace HC := hide hC
    replace HG := hide ((unhide HG).kept hK (fun e => by have e : g2 = cb := e; omega))
    replace HS := hide ((unhide HS).kept hK (fun e => by have e : gs = cb := e; omega))
    replace HK := hide ((unhide HK).trans hK)
    clear hC hK
    have s0 := (unhide HS).cell (i := 0) rfl
    have sf := (unhide HS).frozen 0
    obtain ⟨Y0, eWn⟩ : ∃ Wq, Wq = W2p.setCell ⟨gs, 0, none⟩ (.int .i64 (z0)) := ⟨_, rfl⟩
    have hkp := kept1 W2p gs 0 (.int .i64 (z0))
    rw [← eWn] at hkp
    replace HS : Hid (OwnV Y0 gs [.int .i64 z0, .int .i64 Y, .int .i64 U, .int .i64 Vy, .int .i64 K, .int .i64 D]) := by show OwnV _ _ _; rw [eWn]; exact (unhide HS).set 0 _ (by simp)
    replace HG := hide ((unhide HG).kept hkp (fun e => by have e : g2 = gs := e; omega))
    replace HC := hide ((unhide HC).kept hkp (fun b hb => by have hb : b = gs := hb; omega))
    replace HK := hide ((unhide HK).own hkp (fun b hb => by have hb : b = gs := hb; omega))
    go_upto_region 5 with (fail)
    rw [← eWn]
    clear eWn hkp s0 sf
    have hA := Below.alloc1 Y0 (.cells #[.int .i64 (-100000), .int .i64 100000, .int .i64 0] 3)
    have HI := hide (ownV_alloc Y0 #[.int .i64 (-100000), .int .i64 100000, .int .i64 0] 3)
    have hne : ¬ Y0.heap.size = cb := by have := (unhide HC).lt; omega
    replace HG := hide ((unhide HG).step hA)
    replace HS := hide ((unhide HS).step hA)
    replace HC := hide ((unhide HC).below hA)
    replace HK := hide ((unhide HK).trans (kept_of_below hA))
    clear hA
    go_wp2_with fail
    refine (l1PickInt_any cb n v _ 3 [-100000, 100000, 0] _ (unhide HC) hn (unhide HI) hne rfl (by omega) (by omega)).mono ?_
    rintro e Y0p ⟨z1, rfl, hC, hK⟩
    clear HI hne
    replace HC := hide hC
    replace HG := hide ((unhide HG).kept hK (fun e => by have e : g2 = cb := e; omega))
    replace HS := hide ((unhide HS).kept hK (fun e => by have e : gs = cb := e; omega))
    replace HK := hide ((unhide HK).trans hK)
    clear hC hK
    have s0 := (unhide HS).cell (i := 1) rfl
    have sf := (unhide HS).frozen 1
    obtain ⟨Y1, eWn⟩ : ∃ Wq, Wq = Y0p.setCell ⟨gs, 1, none⟩ (.int .i64 (z1)) := ⟨_, rfl⟩
    have hkp := kept1 Y0p gs 1 (.int .i64 (z1))
    rw [← eWn] at hkp
    replace HS : Hid (OwnV Y1 gs [.int .i64 z0, .int .i64 z1, .int .i64 U, .int .i64 Vy, .int .i64 K, .int .i64 D]) := by show OwnV _ _ _; rw [eWn]; exact (unhide HS).set 1 _ (by simp)
    replace HG := hide ((unhide HG).kept hkp (fun e => by have e : g2 = gs := e; omega))
    replace HC := hide ((unhide HC).kept hkp (fun b hb => by have hb : b = gs := hb; omega))
    replace HK := hide ((unhide HK).own hkp (fun b hb => by have hb : b = gs := hb; omega))
    go_upto_region 6 with (fail)
    rw [← eWn]
    clear eWn hkp s0 sf
    have hA := Below.alloc1 Y1 (.cells #[.int .i64 (-1000), .int .i64 1000, .int .i64 999] 3)
    have HI := hide (ownV_alloc Y1 #[.int .i64 (-1000), .int .i64 1000, .int .i64 999] 3)
    have hne : ¬ Y1.heap.size = cb := by have := (unhide HC).lt; omega
    replace HG := hide ((unhide HG).step hA)
    replace HS := hide ((unhide HS).step hA)
    replace HC := hide ((unhide HC).below hA)
    replace HK := hide ((unhide HK).trans (kept_of_below hA))
    clear hA
    go_wp2_with fail
    refine (l1PickInt_any cb n v _ 3 [-1000, 1000, 999] _ (unhide HC) hn (unhide HI) hne rfl (by omega) (by omega)).mono ?_
    rintro e Y1p ⟨z2, rfl, hC, hK⟩
    clear HI hne
    replace HC := hide hC
    replace HG := hide ((unhide HG).kept hK (fun e => by have e : g2 = cb := e; omega))
    replace HS := hide ((unhide HS).kept hK (fun e => by have e : gs = cb := e; omega))
    replace HK := hide ((unhide HK).trans hK)
    clear hC hK
    have s0 := (unhide HS).cell (i := 2) rfl
    have sf := (unhide HS).frozen 2
    obtain ⟨Y2, eWn⟩ : ∃ Wq, Wq = Y1p.setCell ⟨gs, 2, none⟩ (.int .i64 (z2)) := ⟨_, rfl⟩
    have hkp := kept1 Y1p gs 2 (.int .i64 (z2))
    rw [← eWn] at hkp
    replace HS : Hid (OwnV Y2 gs [.int .i64 z0, .int .i64 z1, .int .i64 z2, .int .i64 Vy, .int .i64 K, .int .i64 D]) := by show OwnV _ _ _; rw [eWn]; exact (unhide HS).set 2 _ (by simp)
    replace HG := hide ((unhide HG).kept hkp (fun e => by have e : g2 = gs := e; omega))
    replace HC := hide ((unhide HC).kept hkp (fun b hb => by have hb : b = gs := hb; omega))
    replace HK := hide ((unhide HK).own hkp (fun b hb => by have hb : b = gs := hb; omega))
    go_upto_region 7 with (fail)
    rw [← eWn]
    clear eWn hkp s0 sf
    have hA := Below.alloc1 Y2 (.cells #[.int .i64 (-1000), .int .i64 1000, .int .i64 998] 3)
    have HI := hide (ownV_alloc Y2 #[.int .i64 (-1000), .int .i64 1000, .int .i64 998] 3)
    have hne : ¬ Y2.heap.size = cb := by have := (unhide HC).lt; omega
    replace HG := hide ((unhide HG).step hA)
    replace HS := hide ((unhide HS).step hA)
    replace HC := hide ((unhide HC).below hA)
    replace HK := hide ((unhide HK).trans (kept_of_below hA))
    clear hA
    go_wp2_with fail
    refine (l1PickInt_any cb n v _ 3 [-1000, 1000, 998] _ (unhide HC) hn (unhide HI) hne rfl (by omega) (by omega)).mono ?_
    rintro e Y2p ⟨z3, rfl, hC, hK⟩
    clear HI hne
    replace HC := hide hC
    replace HG := hide ((unhide HG).kept hK (fun e => by have e : g2 = cb := e; omega))
    replace HS := hide ((unhide HS).kept hK (fun e => by have e : gs = cb := e; omega))
    replace HK := hide ((unhide HK).trans hK)
    clear hC hK
    have s0 := (unhide HS).cell (i := 3) rfl
    have sf := (unhide HS).frozen 3
    obtain ⟨Y3, eWn⟩ : ∃ Wq, Wq = Y2p.setCell ⟨gs, 3, none⟩ (.int .i64 (z3)) := ⟨_, rfl⟩
    have hkp := kept1 Y2p gs 3 (.int .i64 (z3))
    rw [← eWn] at hkp
    replace HS : Hid (OwnV Y3 gs [.int .i64 z0, .int .i64 z1, .int .i64 z2, .int .i64 z3, .int .i64 K, .int .i64 D]) := by show OwnV _ _ _; rw [eWn]; exact (unhide HS).set 3 _ (by simp)
    replace HG := hide ((unhide HG).kept hkp (fun e => by have e : g2 = gs := e; omega))
    replace HC := hide ((unhide HC).kept hkp (fun b hb => by have hb : b = gs := hb; omega))
    replace HK := hide ((unhide HK).own hkp (fun b hb => by have hb : b = gs := hb; omega))
    go_upto_region 17 with (fail)
    rw [← eWn]
    clear eWn hkp s0 sf
    have s0 := (unhide HS).cell (i := 0) rfl
    have s1 := (unhide HS).cell (i := 1) rfl
    have s2 := (unhide HS).cell (i := 2) rfl
    have s3 := (unhide HS).cell (i := 3) rfl
    have s4 := (unhide HS).cell (i := 4) rfl
    have s5 := (unhide HS).cell (i := 5) rfl
    have c0 := (unhide HG).cell (i := 0) rfl
    have f0 := (unhide HG).frozen 0
    have c1 := (unhide HG).cell (i := 1) rfl
    have f1 := (unhide HG).frozen 1
    have c2 := (unhide HG).cell (i := 2) rfl
    have f2 := (unhide HG).frozen 2
    have c3 := (unhide HG).cell (i := 3) rfl
    have f3 := (unhide HG).frozen 3
    have c4 := (unhide HG).cell (i := 4) rfl
    have f4 := (unhide HG).frozen 4
    have c5 := (unhide HG).cell (i := 5) rfl
    have f5 := (unhide HG).frozen 5
    obtain ⟨V9, eV9⟩ : ∃ V, V = (((((Y3.setCell ⟨g2, 0, none⟩ (.int .i64 z0)).setCell ⟨g2, 1, none⟩ (.int .i64 z1)).setCell ⟨g2, 2, none⟩ (.int .i64 z2)).setCell ⟨g2, 3, none⟩ (.int .i64 z3)).setCell ⟨g2, 4, none⟩ (.int .i64 K)).setCell ⟨g2, 5, none⟩ (.int .i64 D) := ⟨_, rfl⟩
    have HG9 : Hid (OwnV V9 g2 [.int .i64 z0, .int .i64 z1, .int .i64 z2, .int .i64 z3, .int .i64 K, .int .i64 D]) := by show OwnV _ _ _; rw [eV9]; exact own6 (unhide HG) (z0) (z1) (z2) (z3) (K) (D)
    have hkp : Kept (fun b => b = g2) Y3 V9 := by rw [eV9]; exact kept6 _ _ (z0) (z1) (z2) (z3) (K) (D)
    have HC9 := hide ((unhide HC).kept hkp (fun b hb => by have hb : b = g2 := hb; omega))
    have HK9 := hide ((unhide HK).own hkp (fun b hb => by have hb : b = g2 := hb; omega))
    clear hkp
    go_wp2
    rw [← eV9]
    have k0 := (unhide HG9).cell (i := 0) rfl
    have k1 := (unhide HG9).cell (i := 1) rfl
    have k2 := (unhide HG9).cell (i := 2) rfl
    have k3 := (unhide HG9).cell (i := 3) rfl
    have k4 := (unhide HG9).cell (i := 4) rfl
    have k5 := (unhide HG9).cell (i := 5) rfl
    refine bodyPost_ret (v := vShip (z0) (z1) (z2) (z3) (K) (D)) (by simp [results, Try.results33, go_sem, vShip, k0, k1, k2, k3, k4, k5]) rfl ⟨_, _, _, _, _, _, rfl, unhide HC9, unhide HK9⟩
  have d0 : (x == 0) = false := by simp [e0]
  by_cases e1 : x = 1
  case pos =>
    subst e1
    clear hx0 hx1
    go_upto_region 9 with (fail)
    have hA := Below.alloc1 W2 (.cells #[.int .i64 (-1001), .int .i64 1001, .int .i64 1000] 3)
    have HI := hide (ownV_alloc W2 #[.int .i64 (-1001), .int .i64 1001, .int .i64 1000] 3)
    have hne : ¬ W2.heap.size = cb := by have := (unhide HC).lt; omega
    replace HG := hide ((unhide HG).step hA)
    replace HS := hide ((unhide HS).step hA)
    replace HC := hide ((unhide HC).below hA)
    replace HK := hide ((unhide HK).trans (kept_of_below hA))
    clear hA
    go_wp2_with fail
    refine (l1PickInt_any cb n v _ 3 [-1001, 1001, 1000] _ (unhide HC) hn (unhide HI) hne rfl (by omega) (by omega)).mono ?_
    rintro e W2p ⟨z0, rfl, hC, hK⟩
    clear HI hne
    replace HC := hide hC
    replace HG := hide ((unhide HG).kept hK (fun e => by have e : g2 = cb := e; omega))
    replace HS := hide ((unhide HS).kept hK (fun e => by have e : gs = cb := e; omega))
    replace HK := hide ((unhide HK).trans hK)
    clear hC hK
    have s0 := (unhide HS).cell (i := 2) rfl
    have sf := (unhide HS).frozen 2
    obtain ⟨Y0, eWn⟩ : ∃ Wq, Wq = W2p.setCell ⟨gs, 2, none⟩ (.int .i64 (z0)) := ⟨_, rfl⟩
    have hkp := kept1 W2p gs 2 (.int .i64 (z0))
    rw [← eWn] at hkp
    replace HS : Hid (OwnV Y0 gs [.int .i64 X, .int .i64 Y, .int .i64 z0, .int .i64 Vy, .int .i64 K, .int .i64 D]) := by show OwnV _ _ _; rw [eWn]; exact (unhide HS).set 2 _ (by simp)
    replace HG := hide ((unhide HG).kept hkp (fun e => by have e : g2 = gs := e; omega))
    replace HC := hide ((unhide HC).kept hkp (fun b hb => by have hb : b = gs := hb; omega))
    replace HK := hide ((unhide HK).own hkp (fun b hb => by have hb : b = gs := hb; omega))
    go_upto_region 17 with (fail)
    rw [← eWn]
    clear eWn hkp s0 sf
    have s0 := (unhide HS).cell (i := 0) rfl
    have s1 := (unhide HS).cell (i := 1) rfl
    have s2 := (unhide HS).cell (i := 2) rfl
    have s3 := (unhide HS).cell (i := 3) rfl
    have s4 := (unhide HS).cell (i := 4) rfl
    have s5 := (unhide HS).cell (i := 5) rfl
    have c0 := (unhide HG).cell (i := 0) rfl
    have f0 := (unhide HG).frozen 0
    have c1 := (unhide HG).cell (i := 1) rfl
    have f1 := (unhide HG).frozen 1
    have c2 := (unhide HG).cell (i := 2) rfl
    have f2 := (unhide HG).frozen 2
    have c3 := (unhide HG).cell (i := 3) rfl
    have f3 := (unhide HG).frozen 3
    have c4 := (unhide HG).cell (i := 4) rfl
    have f4 := (unhide HG).frozen 4
    have c5 := (unhide HG).cell (i := 5) rfl
    have f5 := (unhide HG).frozen 5
    obtain ⟨V9, eV9⟩ : ∃ V, V = (((((Y0.setCell ⟨g2, 0, none⟩ (.int .i64 X)).setCell ⟨g2, 1, none⟩ (.int .i64 Y)).setCell ⟨g2, 2, none⟩ (.int .i64 z0)).setCell ⟨g2, 3, none⟩ (.int .i64 Vy)).setCell ⟨g2, 4, none⟩ (.int .i64 K)).setCell ⟨g2, 5, none⟩ (.int .i64 D) := ⟨_, rfl⟩
    have HG9 : Hid (OwnV V9 g2 [.int .i64 X, .int .i64 Y, .int .i64 z0, .int .i64 Vy, .int .i64 K, .int .i64 D]) := by show OwnV _ _ _; rw [eV9]; exact own6 (unhide HG) (X) (Y) (z0) (Vy) (K) (D)
    have hkp : Kept (fun b => b = g2) Y0 V9 := by rw [eV9]; exact kept6 _ _ (X) (Y) (z0) (Vy) (K) (D)
    have HC9 := hide ((unhide HC).kept hkp (fun b hb => by have hb : b = g2 := hb; omega))
    have HK9 := hide ((unhide HK).own hkp (fun b hb => by have hb : b = g2 := hb; omega))
    clear hkp
    go_wp2
    rw [← eV9]
    have k0 := (unhide HG9).cell (i := 0) rfl
    have k1 := (unhide HG9).cell (i := 1) rfl
    have k2 := (unhide HG9).cell (i := 2) rfl
    have k3 := (unhide HG9).cell (i := 3) rfl
    have k4 := (unhide HG9).cell (i := 4) rfl
    have k5 := (unhide HG9).cell (i := 5) rfl
    refine bodyPost_ret (v := vShip (X) (Y) (z0) (Vy) (K) (D)) (by simp [results, Try.results33, go_sem, vShip, k0, k1, k2, k3, k4, k5]) rfl ⟨_, _, _, _, _, _, rfl, unhide HC9, unhide HK9⟩
  have d1 : (x == 1) = false := by simp [e1]
  by_cases e2 : x = 2
  case pos =>
    subst e2
    clear hx0 hx1
    go_upto_region 11 with (fail)
    have s0 := (unhide HS).cell (i := 2) rfl
    have sf := (unhide HS).frozen 2
    obtain ⟨Y0, eWn⟩ : ∃ Wq, Wq = W2.setCell ⟨gs, 2, none⟩ (.int .i64 (0)) := ⟨_, rfl⟩
    have hkp := kept1 W2 gs 2 (.int .i64 (0))
    rw [← eWn] at hkp
    replace HS : Hid (OwnV Y0 gs [.int .i64 X, .int .i64 Y, .int .i64 0, .int .i64 Vy, .int .i64 K, .int .i64 D]) := by show OwnV _ _ _; rw [eWn]; exact (unhide HS).set 2 _ (by simp)
    replace HG := hide ((unhide HG).kept hkp (fun e => by have e : g2 = gs := e; omega))
    replace HC := hide ((unhide HC).kept hkp (fun b hb => by have hb : b = gs := hb; omega))
    replace HK := hide ((unhide HK).own hkp (fun b hb => by have hb : b = gs := hb; omega))
    go_upto_region 12 with (fail)
    rw [← eWn]
    clear eWn hkp s0 sf
    have s0 := (unhide HS).cell (i := 3) rfl
    have sf := (unhide HS).frozen 3
    obtain ⟨Y1, eWn⟩ : ∃ Wq, Wq = Y0.setCell ⟨gs, 3, none⟩ (.int .i64 (0)) := ⟨_, rfl⟩
    have hkp := kept1 Y0 gs 3 (.int .i64 (0))
    rw [← eWn] at hkp
    replace HS : Hid (OwnV Y1 gs [.int .i64 X, .int .i64 Y, .int .i64 0, .int .i64 0, .int .i64 K, .int .i64 D]) := by show OwnV _ _ _; rw [eWn]; exact (unhide HS).set 3 _ (by simp)
    replace HG := hide ((unhide HG).kept hkp (fun e => by have e : g2 = gs := e; omega))
    replace HC := hide ((unhide HC).kept hkp (fun b hb => by have hb : b = gs := hb; omega))
    replace HK := hide ((unhide HK).own hkp (fun b hb => by have hb : b = gs := hb; omega))
    go_upto_region 17 with (fail)
    rw [← eWn]
    clear eWn hkp s0 sf
    have s0 := (unhide HS).cell (i := 0) rfl
    have s1 := (unhide HS).cell (i := 1) rfl
    have s2 := (unhide HS).cell (i := 2) rfl
    have s3 := (unhide HS).cell (i := 3) rfl
    have s4 := (unhide HS).cell (i := 4) rfl
    have s5 := (unhide HS).cell (i := 5) rfl
    have c0 := (unhide HG).cell (i := 0) rfl
    have f0 := (unhide HG).frozen 0
    have c1 := (unhide HG).cell (i := 1) rfl
    have f1 := (unhide HG).frozen 1
    have c2 := (unhide HG).cell (i := 2) rfl
    have f2 := (unhide HG).frozen 2
    have c3 := (unhide HG).cell (i := 3) rfl
    have f3 := (unhide HG).frozen 3
    have c4 := (unhide HG).cell (i := 4) rfl
    have f4 := (unhide HG).frozen 4
    have c5 := (unhide HG).cell (i := 5) rfl
    have f5 := (unhide HG).frozen 5
    obtain ⟨V9, eV9⟩ : ∃ V, V = (((((Y1.setCell ⟨g2, 0, none⟩ (.int .i64 X)).setCell ⟨g2, 1, none⟩ (.int .i64 Y)).setCell ⟨g2, 2, none⟩ (.int .i64 0)).setCell ⟨g2, 3, none⟩ (.int .i64 0)).setCell ⟨g2, 4, none⟩ (.int .i64 K)).setCell ⟨g2, 5, none⟩ (.int .i64 D) := ⟨_, rfl⟩
    have HG9 : Hid (OwnV V9 g2 [.int .i64 X, .int .i64 Y, .int .i64 0, .int .i64 0, .int .i64 K, .int .i64 D]) := by show OwnV _ _ _; rw [eV9]; exact own6 (unhide HG) (X) (Y) (0) (0) (K) (D)
    have hkp : Kept (fun b => b = g2) Y1 V9 := by rw [eV9]; exact kept6 _ _ (X) (Y) (0) (0) (K) (D)
    have HC9 := hide ((unhide HC).kept hkp (fun b hb => by have hb : b = g2 := hb; omega))
    have HK9 := hide ((unhide HK).own hkp (fun b hb => by have hb : b = g2 := hb; omega))
    clear hkp
    go_wp2
    rw [← eV9]
    have k0 := (unhide HG9).cell (i := 0) rfl
    have k1 := (unhide HG9).cell (i := 1) rfl
    have k2 := (unhide HG9).cell (i := 2) rfl
    have k3 := (unhide HG9).cell (i := 3) rfl
    have k4 := (unhide HG9).cell (i := 4) rfl
    have k5 := (unhide HG9).cell (i := 5) rfl
    refine bodyPost_ret (v := vShip (X) (Y) (0) (0) (K) (D)) (by simp [results, Try.results33, go_sem, vShip, k0, k1, k2, k3, k4, k5]) rfl ⟨_, _, _, _, _, _, rfl, unhide HC9, unhide HK9⟩
  have d2 : (x == 2) = false := by simp [e2]
  by_cases e3 : x = 3
  case pos =>
    subst e3
    clear hx0 hx1
    go_upto_region 14 with (fail)
    have hA := Below.alloc1 W2 (.cells #[.int .i64 0, .int .i64 6] 3)
    have HI := hide (ownV_alloc W2 #[.int .i64 0, .int .i64 6] 3)
    have hne : ¬ W2.heap.size = cb := by have := (unhide HC).lt; omega
    replace HG := hide ((unhide HG).step hA)
    replace HS := hide ((unhide HS).step hA)
    replace HC := hide ((unhide HC).below hA)
    replace HK := hide ((unhide HK).trans (kept_of_below hA))
    clear hA
    go_wp2_with fail
    refine (l1PickInt_any cb n v _ 2 [0, 6] _ (unhide HC) hn (unhide HI) hne rfl (by omega) (by omega)).mono ?_
    rintro e W2p ⟨z0, rfl, hC, hK⟩
    clear HI hne
    replace HC := hide hC
    replace HG := hide ((unhide HG).kept hK (fun e => by have e : g2 = cb := e; omega))
    replace HS := hide ((unhide HS).kept hK (fun e => by have e : gs = cb := e; omega))
    replace HK := hide ((unhide HK).trans hK)
    clear hC hK
    have s0 := (unhide HS).cell (i := 4) rfl
    have sf := (unhide HS).frozen 4
    obtain ⟨Y0, eWn⟩ : ∃ Wq, Wq = W2p.setCell ⟨gs, 4, none⟩ (.int .i64 (z0)) := ⟨_, rfl⟩
    have hkp := kept1 W2p gs 4 (.int .i64 (z0))
    rw [← eWn] at hkp
    replace HS : Hid (OwnV Y0 gs [.int .i64 X, .int .i64 Y, .int .i64 U, .int .i64 Vy, .int .i64 z0, .int .i64 D]) := by show OwnV _ _ _; rw [eWn]; exact (unhide HS).set 4 _ (by simp)
    replace HG := hide ((unhide HG).kept hkp (fun e => by have e : g2 = gs := e; omega))
    replace HC := hide ((unhide HC).kept hkp (fun b hb => by have hb : b = gs := hb; omega))
    replace HK := hide ((unhide HK).own hkp (fun b hb => by have hb : b = gs := hb; omega))
    go_upto_region 17 with (fail)
    rw [← eWn]
    clear eWn hkp s0 sf
    have s0 := (unhide HS).cell (i := 0) rfl
    have s1 := (unhide HS).cell (i := 1) rfl
    have s2 := (unhide HS).cell (i := 2) rfl
    have s3 := (unhide HS).cell (i := 3) rfl
    have s4 := (unhide HS).cell (i := 4) rfl
    have s5 := (unhide HS).cell (i := 5) rfl
    have c0 := (unhide HG).cell (i := 0) rfl
    have f0 := (unhide HG).frozen 0
    have c1 := (unhide HG).cell (i := 1) rfl
    have f1 := (unhide HG).frozen 1
    have c2 := (unhide HG).cell (i := 2) rfl
    have f2 := (unhide HG).frozen 2
    have c3 := (unhide HG).cell (i := 3) rfl
    have f3 := (unhide HG).frozen 3
    have c4 := (unhide HG).cell (i := 4) rfl
    have f4 := (unhide HG).frozen 4
    have c5 := (unhide HG).cell (i := 5) rfl
    have f5 := (unhide HG).frozen 5
    obtain ⟨V9, eV9⟩ : ∃ V, V = (((((Y0.setCell ⟨g2, 0, none⟩ (.int .i64 X)).setCell ⟨g2, 1, none⟩ (.int .i64 Y)).setCell ⟨g2, 2, none⟩ (.int .i64 U)).setCell ⟨g2, 3, none⟩ (.int .i64 Vy)).setCell ⟨g2, 4, none⟩ (.int .i64 z0)).setCell ⟨g2, 5, none⟩ (.int .i64 D) := ⟨_, rfl⟩
    have HG9 : Hid (OwnV V9 g2 [.int .i64 X, .int .i64 Y, .int .i64 U, .int .i64 Vy, .int .i64 z0, .int .i64 D]) := by show OwnV _ _ _; rw [eV9]; exact own6 (unhide HG) (X) (Y) (U) (Vy) (z0) (D)
    have hkp : Kept (fun b => b = g2) Y0 V9 := by rw [eV9]; exact kept6 _ _ (X) (Y) (U) (Vy) (z0) (D)
    have HC9 := hide ((unhide HC).kept hkp (fun b hb => by have hb : b = g2 := hb; omega))
    have HK9 := hide ((unhide HK).own hkp (fun b hb => by have hb : b = g2 := hb; omega))
    clear hkp
    go_wp2
    rw [← eV9]
    have k0 := (unhide HG9).cell (i := 0) rfl
    have k1 := (unhide HG9).cell (i := 1) rfl
    have k2 := (unhide HG9).cell (i := 2) rfl
    have k3 := (unhide HG9).cell (i := 3) rfl
    have k4 := (unhide HG9).cell (i := 4) rfl
    have k5 := (unhide HG9).cell (i := 5) rfl
    refine bodyPost_ret (v := vShip (X) (Y) (U) (Vy) (z0) (D)) (by simp [results, Try.results33, go_sem, vShip, k0, k1, k2, k3, k4, k5]) rfl ⟨_, _, _, _, _, _, rfl, unhide HC9, unhide HK9⟩
  have d3 : (x == 3) = false := by simp [e3]
  by_cases e4 : x = 4
  case pos =>
    subst e4
    clear hx0 hx1
    go_upto_region 16 with (fail)
    have hA := Below.alloc1 W2 (.cells #[.int .i64 (-1), .int .i64 1000, .int .i64 1001] 3)
    have HI := hide (ownV_alloc W2 #[.int .i64 (-1), .int .i64 1000, .int .i64 1001] 3)
    have hne : ¬ W2.heap.size = cb := by have := (unhide HC).lt; omega
    replace HG := hide ((unhide HG).step hA)
    replace HS := hide ((unhide HS).step hA)
    replace HC := hide ((unhide HC).below hA)
    replace HK := hide ((unhide HK).trans (kept_of_below hA))
    clear hA
    go_wp2_with fail
    refine (l1PickInt_any cb n v _ 3 [-1, 1000, 1001] _ (unhide HC) hn (unhide HI) hne rfl (by omega) (by omega)).mono ?_
    rintro e W2p ⟨z0, rfl, hC, hK⟩
    clear HI hne
    replace HC := hide hC
    replace HG := hide ((unhide HG).kept hK (fun e => by have e : g2 = cb := e; omega))
    replace HS := hide ((unhide HS).kept hK (fun e => by have e : gs = cb := e; omega))
    replace HK := hide ((unhide HK).trans hK)
    clear hC hK
    have s0 := (unhide HS).cell (i := 5) rfl
    have sf := (unhide HS).frozen 5
    obtain ⟨Y0, eWn⟩ : ∃ Wq, Wq = W2p.setCell ⟨gs, 5, none⟩ (.int .i64 (z0)) := ⟨_, rfl⟩
    have hkp := kept1 W2p gs 5 (.int .i64 (z0))
    rw [← eWn] at hkp
    replace HS : Hid (OwnV Y0 gs [.int .i64 X, .int .i64 Y, .int .i64 U, .int .i64 Vy, .int .i64 K, .int .i64 z0]) := by show OwnV _ _ _; rw [eWn]; exact (unhide HS).set 5 _ (by simp)
    replace HG := hide ((unhide HG).kept hkp (fun e => by have e : g2 = gs := e; omega))
    replace HC := hide ((unhide HC).kept hkp (fun b hb => by have hb : b = gs := hb; omega))
    replace HK := hide ((unhide HK).own hkp (fun b hb => by have hb : b = gs := hb; omega))
    go_upto_region 17 with (fail)
    rw [← eWn]
    clear eWn hkp s0 sf
    have s0 := (unhide HS).cell (i := 0) rfl
    have s1 := (unhide HS).cell (i := 1) rfl
    have s2 := (unhide HS).cell (i := 2) rfl
    have s3 := (unhide HS).cell (i := 3) rfl
    have s4 := (unhide HS).cell (i := 4) rfl
    have s5 := (unhide HS).cell (i := 5) rfl
    have c0 := (unhide HG).cell (i := 0) rfl
    have f0 := (unhide HG).frozen 0
    have c1 := (unhide HG).cell (i := 1) rfl
    have f1 := (unhide HG).frozen 1
    have c2 := (unhide HG).cell (i := 2) rfl
    have f2 := (unhide HG).frozen 2
    have c3 := (unhide HG).cell (i := 3) rfl
    have f3 := (unhide HG).frozen 3
    have c4 := (unhide HG).cell (i := 4) rfl
    have f4 := (unhide HG).frozen 4
    have c5 := (unhide HG).cell (i := 5) rfl
    have f5 := (unhide HG).frozen 5
    obtain ⟨V9, eV9⟩ : ∃ V, V = (((((Y0.setCell ⟨g2, 0, none⟩ (.int .i64 X)).setCell ⟨g2, 1, none⟩ (.int .i64 Y)).setCell ⟨g2, 2, none⟩ (.int .i64 U)).setCell ⟨g2, 3, none⟩ (.int .i64 Vy)).setCell ⟨g2, 4, none⟩ (.int .i64 K)).setCell ⟨g2, 5, none⟩ (.int .i64 z0) := ⟨_, rfl⟩
    have HG9 : Hid (OwnV V9 g2 [.int .i64 X, .int .i64 Y, .int .i64 U, .int .i64 Vy, .int .i64 K, .int .i64 z0]) := by show OwnV _ _ _; rw [eV9]; exact own6 (unhide HG) (X) (Y) (U) (Vy) (K) (z0)
    have hkp : Kept (fun b => b = g2) Y0 V9 := by rw [eV9]; exact kept6 _ _ (X) (Y) (U) (Vy) (K) (z0)
    have HC9 := hide ((unhide HC).kept hkp (fun b hb => by have hb : b = g2 := hb; omega))
    have HK9 := hide ((unhide HK).own hkp (fun b hb => by have hb : b = g2 := hb; omega))
    clear hkp
    go_wp2
    rw [← eV9]
    have k0 := (unhide HG9).cell (i := 0) rfl
    have k1 := (unhide HG9).cell (i := 1) rfl
    have k2 := (unhide HG9).cell (i := 2) rfl
    have k3 := (unhide HG9).cell (i := 3) rfl
    have k4 := (unhide HG9).cell (i := 4) rfl
    have k5 := (unhide HG9).cell (i := 5) rfl
    refine bodyPost_ret (v := vShip (X) (Y) (U) (Vy) (K) (z0)) (by simp [results, Try.results33, go_sem, vShip, k0, k1, k2, k3, k4, k5]) rfl ⟨_, _, _, _, _, _, rfl, unhide HC9, unhide HK9⟩
  have d4 : (x == 4) = false := by simp [e4]
  clear e0 e1 e2 e3 e4
  go_upto_region 17 with (fail)
  have s0 := (unhide HS).cell (i := 0) rfl
  have s1 := (unhide HS).cell (i := 1) rfl
  have s2 := (unhide HS).cell (i := 2) rfl
  have s3 := (unhide HS).cell (i := 3) rfl
  have s4 := (unhide HS).cell (i := 4) rfl
  have s5 := (unhide HS).cell (i := 5) rfl
  have c0 := (unhide HG).cell (i := 0) rfl
  have f0 := (unhide HG).frozen 0
  have c1 := (unhide HG).cell (i := 1) rfl
  have f1 := (unhide HG).frozen 1
  have c2 := (unhide HG).cell (i := 2) rfl
  have f2 := (unhide HG).frozen 2
  have c3 := (unhide HG).cell (i := 3) rfl
  have f3 := (unhide HG).frozen 3
  have c4 := (unhide HG).cell (i := 4) rfl
  have f4 := (unhide HG).frozen 4
  have c5 := (unhide HG).cell (i := 5) rfl
  have f5 := (unhide HG).frozen 5
  obtain ⟨V9, eV9⟩ : ∃ V, V = (((((W2.setCell ⟨g2, 0, none⟩ (.int .i64 X)).setCell ⟨g2, 1, none⟩ (.int .i64 Y)).setCell ⟨g2, 2, none⟩ (.int .i64 U)).setCell ⟨g2, 3, none⟩ (.int .i64 Vy)).setCell ⟨g2, 4, none⟩ (.int .i64 K)).setCell ⟨g2, 5, none⟩ (.int .i64 D) := ⟨_, rfl⟩
  have HG9 : Hid (OwnV V9 g2 [.int .i64 X, .int .i64 Y, .int .i64 U, .int .i64 Vy, .int .i64 K, .int .i64 D]) := by show OwnV _ _ _; rw [eV9]; exact own6 (unhide HG) (X) (Y) (U) (Vy) (K) (D)
  have hkp : Kept (fun b => b = g2) W2 V9 := by rw [eV9]; exact kept6 _ _ (X) (Y) (U) (Vy) (K) (D)
  have HC9 := hide ((unhide HC).kept hkp (fun b hb => by have hb : b = g2 := hb; omega))
  have HK9 := hide ((unhide HK).own hkp (fun b hb => by have hb : b = g2 := hb; omega))
  clear hkp
  go_wp2
  rw [← eV9]
  have k0 := (unhide HG9).cell (i := 0) rfl
  have k1 := (unhide HG9).cell (i := 1) rfl
  have k2 := (unhide HG9).cell (i := 2) rfl
  have k3 := (unhide HG9).cell (i := 3) rfl
  have k4 := (unhide HG9).cell (i := 4) rfl
  have k5 := (unhide HG9).cell (i := 5) rfl
  refine bodyPost_ret (v := vShip (X) (Y) (U) (Vy) (K) (D)) (by simp [results, Try.results33, go_sem, vShip, k0, k1, k2, k3, k4, k5]) rfl ⟨_, _, _, _, _, _, rfl, unhide HC9, unhide HK9⟩

end Go.Proofs.Ytcljgaofpeaplaa

/- The law of Duties, walked. -/
import Derived.Test.YtmgcpllkielpkaaRrN
import Derived.Test.YtmgcpllkielpkaaOwnHull
namespace Go.Proofs.Ytmgcpllkielpkaa
open Go.RowKit

theorem markIntSS_v (B U : Nat) (ao : Option Addr) (n cap : Nat) (R : List (List Int)) (w : World) (h : OwnRowsU B U w (.slice ao n cap) R) (hn : R.length ≤ 1048576) (hl : ∀ i, i < R.length → (R.getD i []).length ≤ 1048576) :
    Calls Try.prog 35 #[.slice ao n cap, .int .i64 1] w fun e w' => e = .returned (.int .i64 (1 + (pre R R.length : Int))) ∧ Kept (fun b => B ≤ b ∧ b < U) w w' ∧ OwnRowsU B U w' (.slice ao n cap) (mrows 1 R) := by
  rcases h with ⟨rfl, hv⟩ | ⟨g, G, C, cap', hv, h1, h2, h3, h4, h5⟩
  · simp only [Value.slice.injEq] at hv
    obtain ⟨rfl, rfl, rfl⟩ := hv
    exact (markIntSS_nil w).mono fun e w' ⟨he, hw⟩ => ⟨by rw [he]; rfl, by rw [hw]; exact Kept.refl _ _, Or.inl ⟨rfl, rfl⟩⟩
  · simp only [Value.slice.injEq] at hv
    obtain ⟨rfl, rfl, rfl⟩ := hv
    refine (markIntSS_any B g _ G C R 1 w h3 hn hl (by omega) (by omega)).mono fun e w' ⟨he, hk, ho⟩ => ⟨he, hk.mono (fun b _ hb => ?_), Or.inr ⟨g, G, C, _, by rw [mrows_len], by rw [mrows_len]; exact h1, h2, ho, h4, fun r hr => h5 r (by rw [mrows_len] at hr; exact hr)⟩⟩
    obtain ⟨r, hr, rfl⟩ := hb
    exact ⟨(h3.above r hr).1, h5 r hr⟩
theorem heldIntSS_v (v : Value) (M : List (List Int)) (W : World) (hW : RowsIn W v (mrows 1 M)) (hn : M.length ≤ 1048576) (hl : ∀ i, i < M.length → (M.getD i []).length ≤ 1048576) :
    Calls Try.prog 36 #[v, .int .i64 1] W fun e w' => e = .returned (.int .i64 (1 + (pre M M.length : Int))) ∧ W = w' := by
  have := heldIntSS_any v (mrows 1 M) 1 W hW (mrows_held 1 M) (by rw [mrows_len]; exact hn) (fun i hi => by rw [mrows_len] at hi; rw [mrows_row 1 M hi]; exact hl i hi) (by omega) (by omega)
  rw [pre_mrows 1 M (by rw [mrows_len]; exact Nat.le_refl _), mrows_len] at this
  exact this
theorem eqIntSS_b (v v' : Value) (R : List (List Int)) (w : World) (h : RowsIn w v R) (h' : RowsIn w v' R) : Calls Try.prog 32 #[v, v'] w fun e w' => e = .returned (.bool true) ∧ Below w.heap.size w w' :=
  (eqIntSS_any v v' R w h h').mono fun e w' ⟨he, n, hw⟩ => ⟨he, by rw [hw]; exact below_drewN (Below.refl _ _) n⟩
theorem dutiesR_len (L : List ShipT) : (dutiesR L).length ≤ L.length ∧ ∀ i, i < (dutiesR L).length → ((dutiesR L).getD i []).length ≤ L.length := by
  unfold dutiesR
  cases shipsB L
  · simp
  · refine ⟨by rw [cond_true, dutRows_len]; exact Nat.le_refl _, fun i hi => ?_⟩
    rw [cond_true, dutRows_len] at hi
    rw [cond_true, dutRows_get L hi, dutRow_len]
    exact Nat.le_refl _

set_option maxRecDepth 10000 in
set_option maxHeartbeats 8000000 in
theorem lawDuties_any (v : Value) (L : List ShipT) (w : World) (h : RShip w v L) : Calls Try.prog 10 #[v] w fun e w' => e = .returned (.bool true) ∧ Below w.heap.size w w' := by
  have HV := hide h
  obtain ⟨ao, cap, rfl, hl, hm, hc⟩ := h
  clear hc hl hm
  have HSZ := hide (szShipS_any (.slice ao L.length cap) L 1048576 w (unhide HV) (by omega) (by omega))
  go_enter Try.func10, Try.ntmps10
  go_wp2_with fail
  refine (unhide HSZ).mono ?_
  rintro e w1 ⟨r, rfl, ⟨hr0, hr1, hr2⟩, hb⟩
  have HW := hide hb
  have HR2 := hide hr2
  clear hb HSZ hr2
  by_cases hr : r < 0
  · go_wp2
    go_ret
    exact ⟨rfl, unhide HW⟩
  have hs : L.length ≤ 1048576 := by have := unhide HR2; omega
  clear HR2
  have hR := dutiesR_len L
  have hR1 : (dutiesR L).length ≤ 1048576 := Nat.le_trans hR.1 hs
  have HR3 : Hid (∀ i, i < (dutiesR L).length → ((dutiesR L).getD i []).length ≤ 1048576) := fun i hi => Nat.le_trans (hR.2 i hi) hs
  clear hR
  have HTO := hide fun W (hW : Below w.heap.size w W) => toShipS_any (.slice ao L.length cap) L W ((unhide HV).below hW) hs
  have HSC := hide fun g W ho => specDuties_any (.slice (some ⟨g, 0, none⟩) L.length L.length) L W (OwnV.recsIn ho (Nat.le_refl _) (by unfold maxLen; omega))
  have HIC := hide fun g W ho => implDuties_any (.slice (some ⟨g, 0, none⟩) L.length L.length) L W (OwnV.recsIn ho (Nat.le_refl _) (by unfold maxLen; omega))
  have HEQ := hide fun v v' W h h' => eqIntSS_b v v' (dutiesR L) W h h'
  have HMK := hide fun B U ao n cap W h => markIntSS_v B U ao n cap (dutiesR L) W h hR1 (unhide HR3)
  have HHE := hide fun v W h => heldIntSS_v v (dutiesR L) W h hR1 (unhide HR3)
  generalize dutiesR L = R at *
  generalize shipsB L = bb at HSC HIC
  generalize pre R R.length = pn at HMK HHE
  clear HR3 hR1
  go_wp2_with fail
  refine (unhide HTO _ (unhide HW)).mono ?_
  rintro e w2 ⟨g1, rfl, -, ho, hb⟩
  replace HW := hide (Below.step (unhide HW) hb)
  have HC := hide (unhide HSC g1 _ ho)
  clear hb ho HSC
  go_wp2_with fail
  refine (unhide HC).mono ?_
  rintro e w3 ⟨a1, n1, c1, rfl, hS, hb⟩
  replace HW := hide (Below.step (unhide HW) hb)
  have hw3 := (unhide HW).size
  have HS := hide hS
  clear hb hS HC
  go_wp2_with fail
  refine (unhide HTO _ (unhide HW)).mono ?_
  rintro e w4 ⟨gx, rfl, hgx, ho, hb⟩
  replace HW := hide (Below.step (unhide HW) hb)
  have HZ := hide hb
  have HX := hide ho
  have hgl := ho.lt
  have HC := hide (unhide HIC gx _ ho)
  clear hb ho
  go_wp2_with fail
  refine (unhide HC).mono ?_
  rintro e w5 ⟨ag, ng, cg, rfl, hG, hb⟩
  have hw5 := hb.size
  replace HW := hide (Below.step (unhide HW) hb)
  replace HZ := hide (Below.step (unhide HZ) hb)
  replace HX := hide (OwnV.step (unhide HX) hb)
  have HG := hide (OwnRowsV.upto (show OwnRowsV w4.heap.size w5 (.slice ag ng cg) R from hG))
  clear hb hG HC
  go_wp2_with fail
  refine (unhide HEQ _ _ _ (unhide HG).inn ((unhide HS).below (unhide HZ))).mono ?_
  rintro e w6 ⟨rfl, hb⟩
  replace HW := hide (Below.step (unhide HW) hb)
  replace HZ := hide (Below.step (unhide HZ) hb)
  replace HG := hide ((unhide HG).below hb)
  replace HX := hide (OwnV.step (unhide HX) hb)
  clear hb
  go_wp2_with fail
  refine (unhide HTO _ (unhide HW)).mono ?_
  rintro e w7 ⟨gy, rfl, -, ho, hb⟩
  replace HW := hide (Below.step (unhide HW) hb)
  replace HZ := hide (Below.step (unhide HZ) hb)
  replace HG := hide ((unhide HG).below hb)
  replace HX := hide (OwnV.step (unhide HX) hb)
  have HC := hide (eqShipS_any _ _ L _ (OwnV.recsIn (unhide HX) (Nat.le_refl _) (by unfold maxLen; omega)) (OwnV.recsIn ho (Nat.le_refl _) (by unfold maxLen; omega)))
  clear hb ho
  go_wp2_with fail
  refine (unhide HC).mono ?_
  rintro e w8 ⟨rfl, hb⟩
  replace HW := hide (Below.step (unhide HW) hb)
  replace HZ := hide (Below.step (unhide HZ) hb)
  replace HG := hide ((unhide HG).below hb)
  replace HX := hide (OwnV.step (unhide HX) hb)
  clear hb HC
  have HC := hide (markShipS_any gx L.length L.length _ 1 _ (unhide HX) (by rw [recCells_length]; omega) hs (by omega) (by omega))
  have z8w := (unhide HW).size
  have z8z := (unhide HZ).size
  go_wp2_with fail
  refine (unhide HC).mono ?_
  rintro e w9 ⟨rfl, hk, -⟩
  replace HW := hide ((unhide HW).trans (hk.below (B := w.heap.size) (by omega) (fun b e => by omega)))
  replace HZ := hide ((unhide HZ).trans (hk.below (B := w3.heap.size) (by omega) (fun b e => by omega)))
  replace HG := hide ((unhide HG).kept hk (fun b h1 h2 e => by omega))
  clear hk HC HX
  generalize hkk : (1 : Int) + 6 * (L.length : Int) = kk
  have hk0 : 0 ≤ kk := by omega
  clear hkk
  go_wp2_with fail
  refine (unhide HEQ _ _ _ (unhide HG).inn ((unhide HS).below (unhide HZ))).mono ?_
  rintro e w10 ⟨rfl, hb⟩
  replace HW := hide (Below.step (unhide HW) hb)
  replace HZ := hide (Below.step (unhide HZ) hb)
  replace HG := hide ((unhide HG).below hb)
  clear hb
  have z10w := (unhide HW).size
  have z10z := (unhide HZ).size
  go_wp2_with fail
  refine (unhide HMK _ _ _ _ _ _ (unhide HG)).mono ?_
  rintro e w11 ⟨rfl, hk, ho⟩
  replace HW := hide ((unhide HW).trans (hk.below (B := w.heap.size) (by omega) (fun b e => by omega)))
  replace HZ := hide ((unhide HZ).trans (hk.below (B := w3.heap.size) (by omega) (fun b e => by omega)))
  replace HG := hide ho
  clear hk ho
  go_wp2_with fail
  refine (unhide HHE _ _ (unhide HG).inn).mono ?_
  rintro e wh ⟨rfl, h9⟩
  have h8 := h9.symm
  subst h8
  clear h9
  go_wp2_with fail
  refine (unhide HTO _ (unhide HW)).mono ?_
  rintro e w13 ⟨gz, rfl, -, ho, hb⟩
  replace HW := hide (Below.step (unhide HW) hb)
  replace HZ := hide (Below.step (unhide HZ) hb)
  replace HG := hide ((unhide HG).below hb)
  have HC := hide (unhide HIC gz _ ho)
  clear hb ho
  go_wp2_with fail
  refine (unhide HC).mono ?_
  rintro e w14 ⟨ah, nh, ch, rfl, hH, hb⟩
  replace HW := hide (Below.step (unhide HW) hb)
  replace HZ := hide (Below.step (unhide HZ) hb)
  replace HG := hide ((unhide HG).below hb)
  have HQ := hide (OwnRowsV.upto (show OwnRowsV w13.heap.size w14 (.slice ah nh ch) R from hH)).inn
  clear hb hH HC
  go_wp2_with fail
  refine (unhide HEQ _ _ _ (unhide HQ) ((unhide HS).below (unhide HZ))).mono ?_
  rintro e w15 ⟨rfl, hb⟩
  replace HW := hide (Below.step (unhide HW) hb)
  replace HZ := hide (Below.step (unhide HZ) hb)
  replace HG := hide ((unhide HG).below hb)
  clear hb HQ
  go_wp2_with fail
  refine (unhide HHE _ _ (unhide HG).inn).mono ?_
  rintro e wh ⟨rfl, h9⟩
  have h8 := h9.symm
  subst h8
  clear h9
  go_wp2
  go_ret
  exact ⟨rfl, unhide HW⟩

end Go.Proofs.Ytmgcpllkielpkaa

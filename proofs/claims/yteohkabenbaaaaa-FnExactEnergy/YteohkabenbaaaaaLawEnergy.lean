/- FnExactEnergy: at every argument the program's Energy answers as the specification's; the arguments read as before. Written by wip/mklist4.py. -/
import Derived.Test.YteohkabenbaaaaaFlI5
import Derived.Test.YteohkabenbaaaaaFlL
import Derived.Test.YteohkabenbaaaaaRWave
import Derived.Test.YteohkabenbaaaaaExactKit
namespace Go.Proofs.Yteohkabenbaaaaa
open Go.RowKit

attribute [local go_sem] run_store_float run_store_complex

set_option maxHeartbeats 8000000 in
theorem lawEnergy_any (v v' : Value) (L : List F2) (H : List Nat) (wd : Nat) (w : World) (h : RW w v L) (h' : FlIn w v' H) :
    Calls Try.prog 17 #[v, v', .float .f64 wd] w fun e w' => e = .returned (.bool true) ∧ Below w.heap.size w w' := by
  have HV := hide h
  have HV' := hide h'
  obtain ⟨ao, cap, rfl, hl, hm, hc⟩ := h
  obtain ⟨ao', cap', rfl, hl', hm', hc'⟩ := h'
  unfold maxLen at hm hm'
  clear hc hc'
  have HW := hide (Below.refl w.heap.size w)
  obtain ⟨ok, eok⟩ : ∃ b, b = enOk L H := ⟨_, rfl⟩
  have EOK := hide eok
  clear eok
  by_cases hsn' : H.length ≤ 1048576
  case neg =>
    go_enter Try.func17, Try.ntmps17
    go_wp2
    go_ret
    exact ⟨rfl, unhide HW⟩
  go_enter Try.func17, Try.ntmps17
  go_wp2_with fail
  refine (szWaveS_any _ L 1048576 _ (unhide HV) (by omega) (by omega)).mono ?_
  rintro e w1 ⟨l0, rfl, hs, hb⟩
  subst hb
  obtain ⟨hp0, hq0, hs⟩ := hs
  have HS := hide hs
  clear hs
  by_cases hneg0 : l0 < 0
  · clear HS
    go_wp2
    go_ret
    exact ⟨rfl, unhide HW⟩
  have hsn := unhide HS (by omega)
  clear HS
  go_wp2_with fail
  refine (toWaveS_any _ L _ ((unhide HV).below (unhide HW)) hsn).mono ?_
  rintro e w1 ⟨gHA, rfl, _, ho, hb⟩
  replace HW := hide (Below.step (unhide HW) hb)
  have HA := hide ho
  clear ho
  clear hb
  go_wp2_with fail
  refine (toFloat64S_any _ H _ ((unhide HV').below (unhide HW)) hsn').mono ?_
  rintro e w2 ⟨rfl, ho, hb, _⟩
  replace HW := hide (Below.step (unhide HW) hb)
  replace HA := hide (OwnV.step (unhide HA) hb)
  have HB := hide ho
  clear ho
  clear hb
  go_wp2_with fail
  refine (specEnergy_any _ _ L H wd _ (OwnV.recsIn (unhide HA) (Nat.le_refl _) (by unfold maxLen; omega)) (OwnV.flIn (unhide HB) (Nat.le_refl _) (by unfold maxLen; omega))).mono ?_
  rintro e w3 ⟨rs, rfl, hrs, hb⟩
  replace HW := hide (Below.step (unhide HW) hb)
  replace HA := hide (OwnV.step (unhide HA) hb)
  replace HB := hide (OwnV.step (unhide HB) hb)
  rw [← unhide EOK]
  clear hb
  clear HA
  clear HB
  go_wp2_with fail
  refine (toWaveS_any _ L _ ((unhide HV).below (unhide HW)) hsn).mono ?_
  rintro e w4 ⟨gHX, rfl, _, ho, hb⟩
  replace HW := hide (Below.step (unhide HW) hb)
  have HX := hide ho
  clear ho
  clear hb
  go_wp2_with fail
  refine (toFloat64S_any _ H _ ((unhide HV').below (unhide HW)) hsn').mono ?_
  rintro e w5 ⟨rfl, ho, hb, _⟩
  replace HW := hide (Below.step (unhide HW) hb)
  replace HX := hide (OwnV.step (unhide HX) hb)
  have HY := hide ho
  clear ho
  clear hb
  go_wp2_with fail
  refine (implEnergy_any _ _ L H wd _ (OwnV.recsIn (unhide HX) (Nat.le_refl _) (by unfold maxLen; omega)) (OwnV.flIn (unhide HY) (Nat.le_refl _) (by unfold maxLen; omega))).mono ?_
  rintro e w6 ⟨ri, rfl, hri, hb⟩
  replace HW := hide (Below.step (unhide HW) hb)
  replace HX := hide (OwnV.step (unhide HX) hb)
  replace HY := hide (OwnV.step (unhide HY) hb)
  rw [← unhide EOK]
  clear hb
  go_wp2_with fail
  refine (sameFloat_any ri rs _ (hri.trans hrs.symm)).mono ?_
  rintro e w7 ⟨rfl, hb⟩
  replace HW := hide (Below.step (unhide HW) hb)
  replace HX := hide (OwnV.step (unhide HX) hb)
  replace HY := hide (OwnV.step (unhide HY) hb)
  clear hb
  go_wp2_with fail
  refine (toWaveS_any _ L _ ((unhide HV).below (unhide HW)) hsn).mono ?_
  rintro e w8 ⟨gHP, rfl, _, ho, hb⟩
  replace HW := hide (Below.step (unhide HW) hb)
  replace HX := hide (OwnV.step (unhide HX) hb)
  replace HY := hide (OwnV.step (unhide HY) hb)
  have HP := hide ho
  clear ho
  clear hb
  go_wp2_with fail
  refine (eqWaveS_any _ _ L _ (OwnV.recsIn (unhide HX) (Nat.le_refl _) (by unfold maxLen; omega)) (OwnV.recsIn (unhide HP) (Nat.le_refl _) (by unfold maxLen; omega))).mono ?_
  rintro e w9 ⟨rfl, hb⟩
  replace HW := hide (Below.step (unhide HW) hb)
  replace HX := hide (OwnV.step (unhide HX) hb)
  replace HY := hide (OwnV.step (unhide HY) hb)
  replace HP := hide (OwnV.step (unhide HP) hb)
  clear hb
  clear HP
  clear HX
  go_wp2_with fail
  refine (toFloat64S_any _ H _ ((unhide HV').below (unhide HW)) hsn').mono ?_
  rintro e w10 ⟨rfl, ho, hb, _⟩
  replace HW := hide (Below.step (unhide HW) hb)
  replace HY := hide (OwnV.step (unhide HY) hb)
  have HQ := hide ho
  clear ho
  clear hb
  go_wp2_with fail
  refine (eqFloat64S_any _ _ H _ (OwnV.flIn (unhide HY) (Nat.le_refl _) (by unfold maxLen; omega)) (OwnV.flIn (unhide HQ) (Nat.le_refl _) (by unfold maxLen; omega))).mono ?_
  rintro e w11 ⟨rfl, n, rfl⟩
  replace HW := hide (below_drewN (unhide HW) n)
  go_wp2
  go_ret
  exact ⟨rfl, unhide HW⟩

end Go.Proofs.Yteohkabenbaaaaa

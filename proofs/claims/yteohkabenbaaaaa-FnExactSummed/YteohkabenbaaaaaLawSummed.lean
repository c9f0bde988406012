/- FnExactSummed: at every argument the program's Summed answers as the specification's; the arguments read as before. Written by wip/mklist4.py. -/
import Derived.Test.YteohkabenbaaaaaFlI6
import Derived.Test.YteohkabenbaaaaaRSmall
import Derived.Test.YteohkabenbaaaaaExactKit
namespace Go.Proofs.Yteohkabenbaaaaa
open Go.RowKit

attribute [local go_sem] run_store_float run_store_complex

set_option maxHeartbeats 8000000 in
theorem lawSummed_any (v : Value) (L : List F2) (w : World) (h : RS w v L) :
    Calls Try.prog 18 #[v] w fun e w' => e = .returned (.bool true) ∧ Below w.heap.size w w' := by
  have HV := hide h
  obtain ⟨ao, cap, rfl, hl, hm, hc⟩ := h
  unfold maxLen at hm
  clear hc
  have HW := hide (Below.refl w.heap.size w)
  go_enter Try.func18, Try.ntmps18
  go_wp2_with fail
  refine (szSmallS_any _ L 1048576 _ (unhide HV) (by omega) (by omega)).mono ?_
  rintro e w1 ⟨l0, rfl, hs, hb⟩
  subst hb
  obtain ⟨hp0, hq0, hs⟩ := hs
  have HS := hide hs
  clear hs
  by_cases hneg0 : l0 < 0
  · clear HS
    go_wp2
    go_ret
    exact ⟨rfl, unhide HW⟩
  have hsn := unhide HS (by omega)
  clear HS
  go_wp2_with fail
  refine (toSmallS_any _ L _ ((unhide HV).below (unhide HW)) hsn).mono ?_
  rintro e w1 ⟨gHA, rfl, _, ho, hb⟩
  replace HW := hide (Below.step (unhide HW) hb)
  have HA := hide ho
  clear ho
  clear hb
  have HSP := hide fun u V (h : RS V u L) => specSummed_any u L V h
  have HIM := hide fun u V (h : RS V u L) => implSummed_any u L V h
  unfold vS vW at HSP HIM
  go_wp2_with fail
  refine (unhide HSP _ _ (OwnV.recsIn (unhide HA) (Nat.le_refl _) (by unfold maxLen; omega))).mono ?_
  rintro e w2 ⟨a1, b1, c1, d1, rfl, ha1, hb1, hc1, hd1, hb⟩
  replace HW := hide (Below.step (unhide HW) hb)
  replace HA := hide (OwnV.step (unhide HA) hb)
  clear hb
  clear HA
  have AG := Below.alloc1 w2 (.cells #[.float .f32 a1, .float .f32 b1] 26)
  replace HW := hide (Below.step (unhide HW) AG)
  have HG1 := hide (ownV_alloc w2 #[.float .f32 a1, .float .f32 b1] 26)
  clear AG
  have AG := Below.alloc1 (w2.alloc (.cells #[.float .f32 a1, .float .f32 b1] 26)) (.cells #[.float .f64 c1, .float .f64 d1] 32)
  replace HW := hide (Below.step (unhide HW) AG)
  replace HG1 := hide (OwnV.step (unhide HG1) AG)
  have hN := ownV_alloc (w2.alloc (.cells #[.float .f32 a1, .float .f32 b1] 26)) #[.float .f64 c1, .float .f64 d1] 32
  simp only [World.size_alloc] at hN
  have HG2 := hide hN
  clear AG hN
  go_wp2_with fail
  refine (toSmallS_any _ L _ ((unhide HV).below (unhide HW)) hsn).mono ?_
  rintro e w3 ⟨gHX, rfl, _, ho, hb⟩
  replace HW := hide (Below.step (unhide HW) hb)
  replace HG1 := hide (OwnV.step (unhide HG1) hb)
  replace HG2 := hide (OwnV.step (unhide HG2) hb)
  have HX := hide ho
  clear ho
  clear hb
  go_wp2_with fail
  refine (unhide HIM _ _ (OwnV.recsIn (unhide HX) (Nat.le_refl _) (by unfold maxLen; omega))).mono ?_
  rintro e w4 ⟨a2, b2, c2, d2, rfl, ha2, hb2, hc2, hd2, hb⟩
  replace HW := hide (Below.step (unhide HW) hb)
  replace HG1 := hide (OwnV.step (unhide HG1) hb)
  replace HG2 := hide (OwnV.step (unhide HG2) hb)
  replace HX := hide (OwnV.step (unhide HX) hb)
  clear hb
  have AG := Below.alloc1 w4 (.cells #[.float .f32 a2, .float .f32 b2] 26)
  replace HW := hide (Below.step (unhide HW) AG)
  replace HG1 := hide (OwnV.step (unhide HG1) AG)
  replace HG2 := hide (OwnV.step (unhide HG2) AG)
  replace HX := hide (OwnV.step (unhide HX) AG)
  have HG3 := hide (ownV_alloc w4 #[.float .f32 a2, .float .f32 b2] 26)
  clear AG
  have AG := Below.alloc1 (w4.alloc (.cells #[.float .f32 a2, .float .f32 b2] 26)) (.cells #[.float .f64 c2, .float .f64 d2] 32)
  replace HW := hide (Below.step (unhide HW) AG)
  replace HG1 := hide (OwnV.step (unhide HG1) AG)
  replace HG2 := hide (OwnV.step (unhide HG2) AG)
  replace HX := hide (OwnV.step (unhide HX) AG)
  replace HG3 := hide (OwnV.step (unhide HG3) AG)
  have hN := ownV_alloc (w4.alloc (.cells #[.float .f32 a2, .float .f32 b2] 26)) #[.float .f64 c2, .float .f64 d2] 32
  simp only [World.size_alloc] at hN
  have HG4 := hide hN
  clear AG hN
  have HE1 := hide fun V => eqSmall_any a2 b2 a1 b1 V (ha2.trans ha1.symm) (hb2.trans hb1.symm)
  have HE2 := hide fun V => eqWave_any c2 d2 c1 d1 V (hc2.trans hc1.symm) (hd2.trans hd1.symm)
  unfold vS at HE1
  unfold vW at HE2
  have d00' := (unhide HG1).cell (i := 0) rfl
  have d01' := (unhide HG1).cell (i := 1) rfl
  have d10' := (unhide HG2).cell (i := 0) rfl
  have d11' := (unhide HG2).cell (i := 1) rfl
  have d20' := (unhide HG3).cell (i := 0) rfl
  have d21' := (unhide HG3).cell (i := 1) rfl
  have d30' := (unhide HG4).cell (i := 0) rfl
  have d31' := (unhide HG4).cell (i := 1) rfl
  go_wp2_with fail
  refine (unhide HE1 _).mono ?_
  rintro e w5 ⟨rfl, hb⟩
  replace HW := hide (Below.step (unhide HW) hb)
  replace HG1 := hide (OwnV.step (unhide HG1) hb)
  replace HG2 := hide (OwnV.step (unhide HG2) hb)
  replace HX := hide (OwnV.step (unhide HX) hb)
  replace HG3 := hide (OwnV.step (unhide HG3) hb)
  replace HG4 := hide (OwnV.step (unhide HG4) hb)
  clear d00' d01' d10' d11' d20' d21' d30' d31'
  clear hb
  have d00' := (unhide HG1).cell (i := 0) rfl
  have d01' := (unhide HG1).cell (i := 1) rfl
  have d10' := (unhide HG2).cell (i := 0) rfl
  have d11' := (unhide HG2).cell (i := 1) rfl
  have d20' := (unhide HG3).cell (i := 0) rfl
  have d21' := (unhide HG3).cell (i := 1) rfl
  have d30' := (unhide HG4).cell (i := 0) rfl
  have d31' := (unhide HG4).cell (i := 1) rfl
  go_wp2_with fail
  refine (unhide HE2 _).mono ?_
  rintro e w6 ⟨rfl, hb⟩
  replace HW := hide (Below.step (unhide HW) hb)
  replace HG1 := hide (OwnV.step (unhide HG1) hb)
  replace HG2 := hide (OwnV.step (unhide HG2) hb)
  replace HX := hide (OwnV.step (unhide HX) hb)
  replace HG3 := hide (OwnV.step (unhide HG3) hb)
  replace HG4 := hide (OwnV.step (unhide HG4) hb)
  clear d00' d01' d10' d11' d20' d21' d30' d31'
  clear hb
  clear HG1
  clear HG2
  clear HG3
  clear HG4
  go_wp2_with fail
  refine (toSmallS_any _ L _ ((unhide HV).below (unhide HW)) hsn).mono ?_
  rintro e w7 ⟨gHP, rfl, _, ho, hb⟩
  replace HW := hide (Below.step (unhide HW) hb)
  replace HX := hide (OwnV.step (unhide HX) hb)
  have HP := hide ho
  clear ho
  clear hb
  go_wp2_with fail
  refine (eqSmallS_any _ _ L _ (OwnV.recsIn (unhide HX) (Nat.le_refl _) (by unfold maxLen; omega)) (OwnV.recsIn (unhide HP) (Nat.le_refl _) (by unfold maxLen; omega))).mono ?_
  rintro e w8 ⟨rfl, hb⟩
  replace HW := hide (Below.step (unhide HW) hb)
  replace HX := hide (OwnV.step (unhide HX) hb)
  replace HP := hide (OwnV.step (unhide HP) hb)
  clear hb
  clear HP
  clear HX
  go_wp2
  go_ret
  exact ⟨rfl, unhide HW⟩

end Go.Proofs.Yteohkabenbaaaaa

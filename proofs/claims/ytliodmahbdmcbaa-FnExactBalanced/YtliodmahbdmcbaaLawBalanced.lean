/- FnExactBalanced: at every argument the program's Balanced answers as the specification's; the arguments read as before. Written by wip/mkexact3.py. -/
import Derived.Test.YtliodmahbdmcbaaSgD
import Derived.Test.YtliodmahbdmcbaaOwnInts
import Derived.Test.YtliodmahbdmcbaaExactKit
namespace Go.Proofs.Ytliodmahbdmcbaa
open Go.RowKit

set_option maxHeartbeats 8000000 in
theorem lawBalanced_any (pv0 : Value) (L0 : List Int) (pv1 : Value) (L1 : List Int) (c2 : Int) (w : World) (h0 : IntsIn w pv0 L0) (h1 : IntsIn w pv1 L1) :
    Calls Try.prog 8 #[pv0, pv1, .int .i64 c2] w fun e w' => e = .returned (.bool true) ∧ Below w.heap.size w w' := by
  have HV0 := hide h0
  obtain ⟨ao0, cap0, rfl, hl0, hm0, hc0⟩ := h0
  unfold maxLen at hm0
  clear hc0
  have HV1 := hide h1
  obtain ⟨ao1, cap1, rfl, hl1, hm1, hc1⟩ := h1
  unfold maxLen at hm1
  clear hc1
  obtain ⟨V0, ev⟩ : ∃ x, x = balanced L0 L1 c2 := ⟨_, rfl⟩
  have EV0 := hide ev
  clear ev
  have HW := hide (Below.refl w.heap.size w)
  by_cases hsn0 : L0.length ≤ 1048576
  case neg =>
    go_enter Try.func8, Try.ntmps8
    go_wp2
    go_ret
    exact ⟨rfl, unhide HW⟩
  by_cases hsn1 : L1.length ≤ 1048576
  case neg =>
    go_enter Try.func8, Try.ntmps8
    go_wp2
    go_ret
    exact ⟨rfl, unhide HW⟩
  go_enter Try.func8, Try.ntmps8
  go_wp2_with fail
  refine (toIntS_o _ L0 _ ((unhide HV0).below (unhide HW)) hsn0).mono ?_
  rintro e w1 ⟨gHS0, rfl, hgHS0, ho, hb⟩
  replace HW := hide (Below.step (unhide HW) hb)
  have huHS0 := ho.lt
  have HS0 := hide ho
  have zw1 := hb.size
  clear hb ho
  go_wp2_with fail
  refine (toIntS_o _ L1 _ ((unhide HV1).below (unhide HW)) hsn1).mono ?_
  rintro e w2 ⟨gHS1, rfl, hgHS1, ho, hb⟩
  replace HW := hide (Below.step (unhide HW) hb)
  replace HS0 := hide (OwnV.step (unhide HS0) hb)
  have huHS1 := ho.lt
  have HS1 := hide ho
  have zw2 := hb.size
  clear hb ho
  go_wp2_with fail
  refine (specBalanced_any _ _ L0 L1 c2 _ (OwnV.intsIn (unhide HS0) (Nat.le_refl _) (by unfold maxLen; omega)) (OwnV.intsIn (unhide HS1) (Nat.le_refl _) (by unfold maxLen; omega))).mono ?_
  rintro e w3 ⟨rfl, hb⟩
  clear HS0 HS1
  replace HW := hide (Below.step (unhide HW) hb)
  rw [← unhide EV0]
  have zw3 := hb.size
  clear hb
  go_wp2_with fail
  refine (toIntS_o _ L0 _ ((unhide HV0).below (unhide HW)) hsn0).mono ?_
  rintro e w4 ⟨gHO0, rfl, hgHO0, ho, hb⟩
  replace HW := hide (Below.step (unhide HW) hb)
  have huHO0 := ho.lt
  have HO0 := hide ho
  have zw4 := hb.size
  clear hb ho
  go_wp2_with fail
  refine (toIntS_o _ L1 _ ((unhide HV1).below (unhide HW)) hsn1).mono ?_
  rintro e w5 ⟨gHO1, rfl, hgHO1, ho, hb⟩
  replace HW := hide (Below.step (unhide HW) hb)
  replace HO0 := hide (OwnV.step (unhide HO0) hb)
  have huHO1 := ho.lt
  have HO1 := hide ho
  have zw5 := hb.size
  clear hb ho
  go_wp2_with fail
  refine (implBalanced_any _ _ L0 L1 c2 _ (OwnV.intsIn (unhide HO0) (Nat.le_refl _) (by unfold maxLen; omega)) (OwnV.intsIn (unhide HO1) (Nat.le_refl _) (by unfold maxLen; omega))).mono ?_
  rintro e w6 ⟨rfl, hb⟩
  replace HW := hide (Below.step (unhide HW) hb)
  replace HO0 := hide (OwnV.step (unhide HO0) hb)
  replace HO1 := hide (OwnV.step (unhide HO1) hb)
  rw [← unhide EV0]
  have zw6 := hb.size
  clear hb
  go_wp2_with fail
  refine (toIntS_o _ L0 _ ((unhide HV0).below (unhide HW)) hsn0).mono ?_
  rintro e w7 ⟨gHY0, rfl, hgHY0, ho, hb⟩
  replace HW := hide (Below.step (unhide HW) hb)
  replace HO0 := hide (OwnV.step (unhide HO0) hb)
  replace HO1 := hide (OwnV.step (unhide HO1) hb)
  have huHY0 := ho.lt
  have HY0 := hide ho
  have zw7 := hb.size
  clear hb ho
  go_wp2_with fail
  refine (eqIntS_o _ _ L0 _ (OwnV.intsIn (unhide HO0) (Nat.le_refl _) (by unfold maxLen; omega)) (OwnV.intsIn (unhide HY0) (Nat.le_refl _) (by unfold maxLen; omega))).mono ?_
  rintro e w8 ⟨rfl, hb⟩
  clear HY0
  clear HO0
  replace HW := hide (Below.step (unhide HW) hb)
  replace HO1 := hide (OwnV.step (unhide HO1) hb)
  have zw8 := hb.size
  clear hb
  go_wp2_with fail
  refine (toIntS_o _ L1 _ ((unhide HV1).below (unhide HW)) hsn1).mono ?_
  rintro e w9 ⟨gHY1, rfl, hgHY1, ho, hb⟩
  replace HW := hide (Below.step (unhide HW) hb)
  replace HO1 := hide (OwnV.step (unhide HO1) hb)
  have huHY1 := ho.lt
  have HY1 := hide ho
  have zw9 := hb.size
  clear hb ho
  go_wp2_with fail
  refine (eqIntS_o _ _ L1 _ (OwnV.intsIn (unhide HO1) (Nat.le_refl _) (by unfold maxLen; omega)) (OwnV.intsIn (unhide HY1) (Nat.le_refl _) (by unfold maxLen; omega))).mono ?_
  rintro e w10 ⟨rfl, hb⟩
  clear HY1
  clear HO1
  replace HW := hide (Below.step (unhide HW) hb)
  have zw10 := hb.size
  clear hb
  go_wp2
  go_ret
  exact ⟨rfl, unhide HW⟩

end Go.Proofs.Ytliodmahbdmcbaa

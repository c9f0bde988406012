/- FnExactUllage: at every argument the program's Ullage answers as the specification's; the arguments read as before. Written by wip/mk10.py. -/
import Derived.Test.YtfokocpdngokfaaUlA
import Derived.Test.YtfokocpdngokfaaOwnInts
import Derived.Test.YtfokocpdngokfaaExactKit
namespace Go.Proofs.Ytfokocpdngokfaa
open Go.RowKit

set_option maxHeartbeats 8000000 in
theorem lawUllage_any (pv0 : Value) (L0 : List Int) (c1 : Int) (w : World) (h0 : IntsIn w pv0 L0) :
    Calls Try.prog 8 #[pv0, .int .i64 c1] w fun e w' => e = .returned (.bool true) ∧ Below w.heap.size w w' := by
  have HV0 := hide h0
  obtain ⟨ao0, cap0, rfl, hl0, hm0, hc0⟩ := h0
  unfold maxLen at hm0
  clear hc0
  obtain ⟨V0, ev⟩ : ∃ x, x = (ulV L0 c1).1 := ⟨_, rfl⟩
  have EV0 := hide ev
  clear ev
  obtain ⟨V1, ev⟩ : ∃ x, x = (ulV L0 c1).2 := ⟨_, rfl⟩
  have EV1 := hide ev
  clear ev
  have HW := hide (Below.refl w.heap.size w)
  by_cases hsn0 : L0.length ≤ 1048576
  case neg =>
    go_enter Try.func8, Try.ntmps8
    go_wp2
    go_ret
    exact ⟨rfl, unhide HW⟩
  go_enter Try.func8, Try.ntmps8
  go_wp2_with fail
  refine (toIntS_o _ L0 _ ((unhide HV0).below (unhide HW)) hsn0).mono ?_
  rintro e w1 ⟨gHS0, rfl, hgHS0, ho, hb⟩
  replace HW := hide (Below.step (unhide HW) hb)
  have huHS0 := ho.lt
  have HS0 := hide ho
  have zw1 := hb.size
  clear hb ho
  go_wp2_with fail
  refine (specUllage_any _ L0 c1 _ (OwnV.intsIn (unhide HS0) (Nat.le_refl _) (by unfold maxLen; omega))).mono ?_
  rintro e w2 ⟨rfl, hb⟩
  clear HS0
  replace HW := hide (Below.step (unhide HW) hb)
  rw [← unhide EV0]
  rw [← unhide EV1]
  have zw2 := hb.size
  clear hb
  go_wp2_with fail
  refine (toIntS_o _ L0 _ ((unhide HV0).below (unhide HW)) hsn0).mono ?_
  rintro e w3 ⟨gHO0, rfl, hgHO0, ho, hb⟩
  replace HW := hide (Below.step (unhide HW) hb)
  have huHO0 := ho.lt
  have HO0 := hide ho
  have zw3 := hb.size
  clear hb ho
  go_wp2_with fail
  refine (implUllage_any _ L0 c1 _ (OwnV.intsIn (unhide HO0) (Nat.le_refl _) (by unfold maxLen; omega))).mono ?_
  rintro e w4 ⟨rfl, hb⟩
  replace HW := hide (Below.step (unhide HW) hb)
  replace HO0 := hide (OwnV.step (unhide HO0) hb)
  rw [← unhide EV0]
  rw [← unhide EV1]
  have zw4 := hb.size
  clear hb
  go_wp2_with fail
  refine (toIntS_o _ L0 _ ((unhide HV0).below (unhide HW)) hsn0).mono ?_
  rintro e w5 ⟨gHY0, rfl, hgHY0, ho, hb⟩
  replace HW := hide (Below.step (unhide HW) hb)
  replace HO0 := hide (OwnV.step (unhide HO0) hb)
  have huHY0 := ho.lt
  have HY0 := hide ho
  have zw5 := hb.size
  clear hb ho
  go_wp2_with fail
  refine (eqIntS_o _ _ L0 _ (OwnV.intsIn (unhide HO0) (Nat.le_refl _) (by unfold maxLen; omega)) (OwnV.intsIn (unhide HY0) (Nat.le_refl _) (by unfold maxLen; omega))).mono ?_
  rintro e w6 ⟨rfl, hb⟩
  clear HY0
  clear HO0
  replace HW := hide (Below.step (unhide HW) hb)
  have zw6 := hb.size
  clear hb
  go_wp2
  go_ret
  exact ⟨rfl, unhide HW⟩

end Go.Proofs.Ytfokocpdngokfaa

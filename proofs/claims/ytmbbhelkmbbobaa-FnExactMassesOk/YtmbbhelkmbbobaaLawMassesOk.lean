/- FnExactMassesOk: at every argument the program's MassesOk answers as the specification's; the arguments read as before. Written by wip/mkexact.py. -/
import Derived.Test.YtmbbhelkmbbobaaStA
import Derived.Test.YtmbbhelkmbbobaaExactKit
import Derived.Deep.RegionWith
namespace Go.Proofs.Ytmbbhelkmbbobaa
open Go.RowKit

set_option maxHeartbeats 4000000 in
theorem lawMassesOk_any (v0 : Value) (L0 : List I3) (w : World) (h0 : R3 w v0 L0) :
    Calls Try.prog 5 #[v0] w fun e w' => e = .returned (.bool true) ∧ Below w.heap.size w w' := by
  have HV0 := hide h0
  obtain ⟨ao0, cap0, rfl, hl0, hm0, hc0⟩ := h0
  clear hc0 hl0 hm0
  have HW := hide (Below.refl w.heap.size w)
  go_enter Try.func5, Try.ntmps5
  go_wp2_with fail
  refine (szMassS_any _ L0 1048576 _ ((unhide HV0).below (unhide HW)) (by omega) (by omega)).mono ?_
  rintro e w1 ⟨l0, rfl, hs, hb⟩
  subst hb
  obtain ⟨hp0, hq0, hs⟩ := hs
  have HS := hide hs
  clear hs
  by_cases hneg0 : l0 < 0
  · clear HS
    go_wp2
    go_ret
    exact ⟨rfl, unhide HW⟩
  have hsn0 := unhide HS (by omega)
  clear HS
  go_wp2_with fail
  refine (toMassS_any _ L0 _ ((unhide HV0).below (unhide HW)) hsn0).mono ?_
  rintro e w1 ⟨gHS0, rfl, _, ho, hb⟩
  replace HW := hide (Below.step (unhide HW) hb)
  have HS0 := hide ho
  clear hb ho
  go_wp2_with fail
  refine (specMassesOk_any _ L0 _ (OwnV.recsIn (unhide HS0) (Nat.le_refl _) (by unfold maxLen; omega))).mono ?_
  rintro e w2 ⟨rfl, hb⟩
  clear HS0
  replace HW := hide (Below.step (unhide HW) hb)
  clear hb
  generalize ev0 : massesB L0 = V0
  have EV0 := hide ev0
  clear ev0
  go_wp2_with fail
  refine (toMassS_any _ L0 _ ((unhide HV0).below (unhide HW)) hsn0).mono ?_
  rintro e w3 ⟨gHO0, rfl, _, ho, hb⟩
  replace HW := hide (Below.step (unhide HW) hb)
  have HO0 := hide ho
  clear hb ho
  go_wp2_with fail
  refine (implMassesOk_any _ L0 _ (OwnV.recsIn (unhide HO0) (Nat.le_refl _) (by unfold maxLen; omega))).mono ?_
  rintro e w4 ⟨rfl, hb⟩
  replace HW := hide (Below.step (unhide HW) hb)
  replace HO0 := hide (OwnV.step (unhide HO0) hb)
  clear hb
  rw [unhide EV0]
  go_wp2_with fail
  refine (toMassS_any _ L0 _ ((unhide HV0).below (unhide HW)) hsn0).mono ?_
  rintro e w5 ⟨gHY0, rfl, _, ho, hb⟩
  replace HW := hide (Below.step (unhide HW) hb)
  replace HO0 := hide (OwnV.step (unhide HO0) hb)
  have HY0 := hide ho
  clear hb ho
  go_wp2_with fail
  refine (eqMassS_any _ _ L0 _ (OwnV.recsIn (unhide HO0) (Nat.le_refl _) (by unfold maxLen; omega)) (OwnV.recsIn (unhide HY0) (Nat.le_refl _) (by unfold maxLen; omega))).mono ?_
  rintro e w6 ⟨rfl, hb⟩
  clear HY0 HO0
  replace HW := hide (Below.step (unhide HW) hb)
  clear hb
  go_wp2
  go_ret
  exact ⟨rfl, unhide HW⟩

end Go.Proofs.Ytmbbhelkmbbobaa

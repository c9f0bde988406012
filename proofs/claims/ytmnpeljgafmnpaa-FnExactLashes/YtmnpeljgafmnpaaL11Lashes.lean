/- FnExactLashes: at every argument the program's Lashes answers as the specification's; the arguments read as before. Written by wip/mk11.py. -/
import Derived.Test.YtmnpeljgafmnpaaBxI
import Derived.Test.YtmnpeljgafmnpaaRBox
import Derived.Test.YtmnpeljgafmnpaaOwnInts
import Derived.Test.YtmnpeljgafmnpaaExactKit
namespace Go.Proofs.Ytmnpeljgafmnpaa
open Go.RowKit

set_option maxHeartbeats 8000000 in
theorem lawLashes_any (pv0 : Value) (L0 : List BoxT) (c1 : Int) (w : World) (h0 : RBox w pv0 L0) (hT : ∀ i, i < L0.length → (txtBox (L0.getD i default)).size ≤ maxLen) :
    Calls Try.prog 11 #[pv0, .int .i64 c1] w fun e w' => e = .returned (.bool true) ∧ Below w.heap.size w w' := by
  have HV0 := hide h0
  obtain ⟨ao0, cap0, rfl, hl0, hm0, hc0⟩ := h0
  unfold maxLen at hm0
  clear hc0
  obtain ⟨V0, ev⟩ : ∃ x, x = lashC L0 c1 := ⟨_, rfl⟩
  have EV0 := hide ev
  clear ev
  obtain ⟨V1, ev⟩ : ∃ x, x = lashB L0 c1 := ⟨_, rfl⟩
  have EV1 := hide ev
  clear ev
  have HW := hide (Below.refl w.heap.size w)
  go_enter Try.func11, Try.ntmps11
  go_wp2_with fail
  refine (szBoxS_any _ L0 1048576 _ (unhide HV0) hT (by omega) (by omega)).mono ?_
  rintro e w0 ⟨l0, rfl, hs, hb⟩
  replace HW := hide (Below.step (unhide HW) hb)
  clear hb hT
  obtain ⟨hp0, hq0, hs⟩ := hs
  have HS := hide hs
  clear hs
  by_cases hneg0 : l0 < 0
  · clear HS
    go_wp2
    go_ret
    exact ⟨rfl, unhide HW⟩
  have hsn0 := unhide HS (by omega)
  clear HS
  go_wp2_with fail
  refine (toBoxS_any _ L0 _ ((unhide HV0).below (unhide HW)) hsn0).mono ?_
  rintro e w1 ⟨gHS0, rfl, hgHS0, ho, hb⟩
  replace HW := hide (Below.step (unhide HW) hb)
  have huHS0 := ho.lt
  have HS0 := hide ho
  have zw1 := hb.size
  clear hb ho
  go_wp2_with fail
  refine (specLashes_any _ L0 c1 _ (OwnV.recsIn (unhide HS0) (Nat.le_refl _) (by unfold maxLen; omega))).mono ?_
  rintro e w2 ⟨rfl, hb⟩
  clear HS0
  replace HW := hide (Below.step (unhide HW) hb)
  rw [← unhide EV0]
  rw [← unhide EV1]
  have zw2 := hb.size
  clear hb
  go_wp2_with fail
  refine (toBoxS_any _ L0 _ ((unhide HV0).below (unhide HW)) hsn0).mono ?_
  rintro e w3 ⟨gHO0, rfl, hgHO0, ho, hb⟩
  replace HW := hide (Below.step (unhide HW) hb)
  have huHO0 := ho.lt
  have HO0 := hide ho
  have zw3 := hb.size
  clear hb ho
  go_wp2_with fail
  refine (implLashes_any _ L0 c1 _ (OwnV.recsIn (unhide HO0) (Nat.le_refl _) (by unfold maxLen; omega))).mono ?_
  rintro e w4 ⟨rfl, hb⟩
  replace HW := hide (Below.step (unhide HW) hb)
  replace HO0 := hide (OwnV.step (unhide HO0) hb)
  rw [← unhide EV0]
  rw [← unhide EV1]
  have zw4 := hb.size
  clear hb
  go_wp2_with fail
  refine (toBoxS_any _ L0 _ ((unhide HV0).below (unhide HW)) hsn0).mono ?_
  rintro e w5 ⟨gHY0, rfl, hgHY0, ho, hb⟩
  replace HW := hide (Below.step (unhide HW) hb)
  replace HO0 := hide (OwnV.step (unhide HO0) hb)
  have huHY0 := ho.lt
  have HY0 := hide ho
  have zw5 := hb.size
  clear hb ho
  go_wp2_with fail
  refine (eqBoxS_any _ _ L0 _ (OwnV.recsIn (unhide HO0) (Nat.le_refl _) (by unfold maxLen; omega)) (OwnV.recsIn (unhide HY0) (Nat.le_refl _) (by unfold maxLen; omega))).mono ?_
  rintro e w6 ⟨rfl, hb⟩
  clear HY0
  clear HO0
  replace HW := hide (Below.step (unhide HW) hb)
  have zw6 := hb.size
  clear hb
  go_wp2
  go_ret
  exact ⟨rfl, unhide HW⟩

end Go.Proofs.Ytmnpeljgafmnpaa

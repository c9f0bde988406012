/- FnExactWriteSegs: at every argument the program's WriteSegs answers as the specification's; the argument reads as before. Written by wip/mk21w.py. -/
import Derived.Test.YtjpogaidcmndoaaEdW
import Derived.Test.YtjpogaidcmndoaaEdB
import Derived.Test.YtjpogaidcmndoaaEdC
import Derived.Test.YtjpogaidcmndoaaEdE
namespace Go.Proofs.Ytjpogaidcmndoaa
open Go.RowKit

set_option maxRecDepth 10000 in
set_option maxHeartbeats 16000000 in
theorem lawWriteSegs_any (v : Value) (L : List SegT) (w : World) (h : SgsIn w v L) (htx : TxSg L) :
    Calls Try.prog 5 #[v] w fun e w' => e = .returned (.bool true) ∧ Below w.heap.size w w' := by
  have HV := hide h
  have HX := hide htx
  obtain ⟨ao, cap, rfl, hl, hm, -⟩ := h
  unfold maxLen at hm
  obtain ⟨B1, eb1⟩ : ∃ x, x = (wgV L).1 := ⟨_, rfl⟩
  obtain ⟨B2, eb2⟩ : ∃ x, x = (wgV L).2 := ⟨_, rfl⟩
  have HSP := hide fun (u : Value) V (h : SgsIn V u L) => specWriteSegs_any u L V h (unhide HX)
  have HIP := hide fun (u : Value) V (h : SgsIn V u L) => implWriteSegs_any u L V h (unhide HX)
  rw [← eb1, ← eb2] at HSP HIP
  have hn1 : (B1.toList == B1.toList) = true := by rw [txt_eq]; simp
  clear eb1 eb2
  have HW := hide (Below.refl w.heap.size w)
  go_enter Try.func5, Try.ntmps5
  go_wp2_with fail
  refine (szSegS_any _ L 1048576 _ ((unhide HV).below (unhide HW)) (unhide HX) (by omega) (by omega)).mono ?_
  rintro e w1 ⟨l1, rfl, hp1, hq1, hs, hb⟩
  replace HW := hide (Below.step (unhide HW) hb)
  have HS := hide hs
  clear hb hs
  by_cases hneg1 : l1 < 0
  · clear HS
    go_wp2
    go_ret
    exact ⟨rfl, unhide HW⟩
  have HSN := hide (unhide HS (by omega))
  clear HS
  go_wp2_with fail
  refine (toSegS_any _ L _ ((unhide HV).below (unhide HW)) (unhide HSN)).mono ?_
  rintro e w2 ⟨g1, k1, rfl, ho, hb⟩
  replace HW := hide (Below.step (unhide HW) hb)
  have HS1 := hide ho
  clear hb ho
  go_wp2_with fail
  refine (unhide HSP _ _ (unhide HS1)).mono ?_
  rintro e w3 ⟨rfl, hb⟩
  clear HS1 HSP
  replace HW := hide (Below.step (unhide HW) hb)
  clear hb
  go_wp2_with fail
  refine (toSegS_any _ L _ ((unhide HV).below (unhide HW)) (unhide HSN)).mono ?_
  rintro e w4 ⟨g2, k2, rfl, ho, hb⟩
  replace HW := hide (Below.step (unhide HW) hb)
  have HO := hide ho
  clear hb ho
  go_wp2_with fail
  refine (unhide HIP _ _ (unhide HO)).mono ?_
  rintro e w5 ⟨rfl, hb⟩
  clear HIP
  replace HW := hide (Below.step (unhide HW) hb)
  replace HO := hide ((unhide HO).below hb)
  clear hb
  go_wp2_with fail
  refine (toSegS_any _ L _ ((unhide HV).below (unhide HW)) (unhide HSN)).mono ?_
  rintro e w6 ⟨g3, k3, rfl, ho, hb⟩
  replace HW := hide (Below.step (unhide HW) hb)
  replace HO := hide ((unhide HO).below hb)
  have HY := hide ho
  clear hb ho
  go_wp2_with fail
  refine (eqSegS_any _ _ L _ (unhide HO) (unhide HY)).mono ?_
  rintro e w7 ⟨rfl, hb⟩
  clear HY HO
  replace HW := hide (Below.step (unhide HW) hb)
  clear hb
  go_wp2
  go_ret
  exact ⟨rfl, unhide HW⟩

end Go.Proofs.Ytjpogaidcmndoaa

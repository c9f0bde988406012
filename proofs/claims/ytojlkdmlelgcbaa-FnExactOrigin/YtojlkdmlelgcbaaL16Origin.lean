/- FnExactOrigin: at every argument the program's Origin answers as the specification's; the argument reads as before. Written by wip/mk16.py. -/
import Derived.Test.YtojlkdmlelgcbaaCsB
import Derived.Test.YtojlkdmlelgcbaaExactKit
namespace Go.Proofs.Ytojlkdmlelgcbaa
open Go.RowKit

set_option maxRecDepth 10000 in
set_option maxHeartbeats 6400000 in
theorem lawOrigin_any (pv : Value) (L : List PartT) (own least : Int) (w : World) (h : RPart w pv L) : Calls Try.prog 9 #[pv, .int .i64 own, .int .i64 least] w fun e w' => e = .returned (.bool true) ∧ Below w.heap.size w w' := by
  have HV := hide h
  obtain ⟨ao, cap, rfl, hl, hm, hc⟩ := h
  unfold maxLen at hm
  clear hc
  have HSC := hide fun V ao n cp (r : RPart V (.slice ao n cp) L) hs => specOrigin_any ao n cp L own least V r hs
  have HIC := hide fun V ao n cp (r : RPart V (.slice ao n cp) L) hs => implOrigin_any ao n cp L own least V r hs
  obtain ⟨R, hR⟩ : ∃ x, x = oriV L own least := ⟨_, rfl⟩
  rw [← hR] at HSC HIC
  clear hR
  obtain ⟨R1, R2⟩ := R
  dsimp only at HSC HIC
  have h1 : (R1 != R1) = false := by cases R1 <;> rfl
  have h2 : (R2 != R2) = false := by cases R2 <;> rfl
  go_enter Try.func9, Try.ntmps9
  go_wp2_with fail
  refine (szPartS_any _ L 1048576 _ (unhide HV) (by omega) (by omega)).mono ?_
  rintro e w1 ⟨r, rfl, ⟨hr0, hr1, hr2⟩, hb⟩
  have HW := hide hb
  have HR := hide hr2
  clear hb hr2
  by_cases hneg : r < 0
  · go_wp2
    go_ret
    exact ⟨rfl, unhide HW⟩
  have hsn := unhide HR (by omega)
  clear HR
  go_wp2_with fail
  refine (toPartS_any _ L _ ((unhide HV).below (unhide HW)) hsn).mono ?_
  rintro e v1 ⟨gv1, rfl, hgv1, ho, hb⟩
  replace HW := hide (Below.step (unhide HW) hb)
  have HX := hide ho
  clear hb ho
  go_wp2_with fail
  refine (unhide HSC _ _ _ _ (OwnV.recsIn (unhide HX) (Nat.le_refl _) (by unfold maxLen; omega)) hsn).mono ?_
  rintro e v2 ⟨rfl, hb⟩
  replace HW := hide (Below.step (unhide HW) hb)
  clear hb HX
  go_wp2_with fail
  refine (toPartS_any _ L _ ((unhide HV).below (unhide HW)) hsn).mono ?_
  rintro e v3 ⟨gv3, rfl, hgv3, ho, hb⟩
  replace HW := hide (Below.step (unhide HW) hb)
  have HX := hide ho
  clear hb ho
  go_wp2_with fail
  refine (unhide HIC _ _ _ _ (OwnV.recsIn (unhide HX) (Nat.le_refl _) (by unfold maxLen; omega)) hsn).mono ?_
  rintro e v4 ⟨rfl, hb⟩
  replace HW := hide (Below.step (unhide HW) hb)
  replace HX := hide ((unhide HX).step hb)
  clear hb
  go_wp2_with fail
  refine (toPartS_any _ L _ ((unhide HV).below (unhide HW)) hsn).mono ?_
  rintro e v5 ⟨gv5, rfl, hgv5, ho, hb⟩
  replace HW := hide (Below.step (unhide HW) hb)
  replace HX := hide ((unhide HX).step hb)
  have HZ := hide ho
  clear hb ho
  go_wp2_with fail
  refine (eqPartS_any _ _ L _ (OwnV.recsIn (unhide HX) (Nat.le_refl _) (by unfold maxLen; omega)) (OwnV.recsIn (unhide HZ) (Nat.le_refl _) (by unfold maxLen; omega))).mono ?_
  rintro e v6 ⟨rfl, hb⟩
  replace HW := hide (Below.step (unhide HW) hb)
  clear hb
  go_wp2
  go_ret
  exact ⟨rfl, unhide HW⟩

end Go.Proofs.Ytojlkdmlelgcbaa

/- FnExactAfloat: at every hull and number the program's Afloat answers as the specification's; nothing of the argument's memory has turned. -/
import Derived.Test.YtepdlcobhoklfaaWalkP
import Derived.Deep.RegionWith
namespace Go.Proofs.Ytepdlcobhoklfaa
open Go.RowKit

set_option maxHeartbeats 1600000 in
theorem lawAfloat_any (step rise : Int) (v : Value) (R : List (List Int)) (c : Int) (w : World) (h : RowsIn w v R) :
    Calls Try.prog 12 #[hullV step rise v, .int .i64 c] w fun e w' => e = .returned (.bool true) ∧ Below w.heap.size w w' := by
  have HV := hide h
  obtain ⟨ao, cap, rfl, hl, hm, hc⟩ := h
  clear hc hl hm
  unfold hullV
  have B0 := box3_alloc w (.int .i64 step) (.int .i64 rise) (.slice ao R.length cap) 35
  have W0 := Below.alloc1 w (.cells #[.int .i64 step, .int .i64 rise, .slice ao R.length cap] 35)
  have HB0 := hide B0
  have HW0 := hide W0
  clear B0 W0
  go_enter Try.func12, Try.ntmps12
  go_wp2_with fail
  refine (szHull_any step rise _ R _ ((unhide HV).below (unhide HW0))).mono ?_
  rintro e w1 ⟨r, rfl, hs, hb⟩
  have HB1 := hide ((unhide HB0).step hb)
  have HW1 := hide (Below.step (unhide HW0) hb)
  clear hb HB0 HW0
  obtain ⟨hr1, hr2, hr3⟩ := hs
  have HS := hide hr3
  clear hr3
  by_cases hneg : r < 0
  · go_wp2
    go_ret
    exact ⟨rfl, unhide HW1⟩
  obtain ⟨hsn, hsl⟩ := unhide HS (by omega)
  obtain ⟨c0, c1, c2⟩ := unhide HB1
  have HL := hide hsl
  clear hsl HS
  go_wp2_with fail
  refine (toHull_any step rise _ R _ ((unhide HV).below (unhide HW1)) hsn (unhide HL)).mono ?_
  rintro e w2 ⟨g, G, C, rfl, ho, hb⟩
  have HO := hide ho
  have HB2 := hide ((unhide HB1).step hb)
  have HW2 := hide (Below.step (unhide HW1) hb)
  clear hb ho HB1 HW1 c0 c1 c2
  go_wp2_with fail
  refine (specAfloat_any step rise _ R c _ ((unhide HO).rowsIn (Nat.le_refl _) (by unfold maxLen; omega))).mono ?_
  rintro e w3 ⟨rfl, hb⟩
  have HB3 := hide ((unhide HB2).step hb)
  have HW3 := hide (Below.step (unhide HW2) hb)
  clear hb HO HB2 HW2
  generalize hok : afloat step rise R c = ok
  have HK := hide hok
  clear hok
  obtain ⟨c0, c1, c2⟩ := unhide HB3
  go_wp2_with fail
  refine (toHull_any step rise _ R _ ((unhide HV).below (unhide HW3)) hsn (unhide HL)).mono ?_
  rintro e w4 ⟨g, G, C, rfl, ho, hb⟩
  have HO := hide ho
  have HB4 := hide ((unhide HB3).step hb)
  have HW4 := hide (Below.step (unhide HW3) hb)
  clear hb ho HB3 HW3 c0 c1 c2
  obtain ⟨c0, c1, c2⟩ := unhide HB4
  go_wp2_with fail
  have HM := hide (box3_alloc w4 (.int .i64 step) (.int .i64 rise) (.slice (some ⟨g, 0, none⟩) R.length R.length) 26)
  have A5 := Below.alloc1 w4 (.cells #[.int .i64 step, .int .i64 rise, .slice (some ⟨g, 0, none⟩) R.length R.length] 26)
  have HO5 := hide ((unhide HO).below A5)
  have HB5 := hide ((unhide HB4).step A5)
  have HW5 := hide (Below.step (unhide HW4) A5)
  clear HO HB4 HW4 A5 c0 c1 c2
  refine (implAfloat_any step rise _ R c _ ((unhide HO5).rowsIn (Nat.le_refl _) (by unfold maxLen; omega))).mono ?_
  rintro e w6 ⟨rfl, hb⟩
  have HM6 := hide ((unhide HM).step hb)
  have HB6 := hide ((unhide HB5).step hb)
  have HO6 := hide ((unhide HO5).below hb)
  have HW6 := hide (Below.step (unhide HW5) hb)
  clear hb HM HO5 HB5 HW5
  rw [unhide HK]
  obtain ⟨c0, c1, c2⟩ := unhide HB6
  obtain ⟨d0, d1, d2⟩ := (unhide HM6).step ((Below.refl _ _).drew)
  go_wp2
  have HT := hide (toHull_any step rise _ R w6.drew ((unhide HV).below (unhide HW6).drew) hsn (unhide HL))
  have HMd : Hid (Box3 w6.drew w4.heap.size (.int .i64 step) (.int .i64 rise) (.slice (some ⟨g, 0, none⟩) R.length R.length)) := (unhide HM6).step ((Below.refl _ _).drew)
  have HOd : Hid (OwnRows w3.heap.size w6.drew g G C R) := (unhide HO6).below ((Below.refl _ _).drew)
  have HWd : Hid (Below w.heap.size w w6.drew) := (unhide HW6).drew
  clear HM6 HO6 HW6
  go_region_with (first
    | (go_at_call 29; refine (unhide HT).mono ?_; rintro e w7 ⟨g7, G7, C7, rfl, ho7, hb7⟩; have HE := hide (eqHull_any step rise (.slice (some ⟨g, 0, none⟩) R.length R.length) (.slice (some ⟨g7, 0, none⟩) R.length R.length) R w7 (((unhide HOd).below hb7).rowsIn (Nat.le_refl _) (by unfold maxLen; omega)) (ho7.rowsIn (Nat.le_refl _) (by unfold maxLen; omega))); have HW7 := hide (Below.step (unhide HWd) hb7); obtain ⟨f0, f1, f2⟩ := (unhide HMd).step hb7; clear ho7 hb7)
    | (go_at_call 30; refine (unhide HE).mono ?_; rintro e w8 ⟨rfl, hb8⟩; have HW8 := hide (Below.step (unhide HW7) hb8); clear hb8))
  all_goals go_wp2
  all_goals go_ret
  all_goals exact ⟨rfl, unhide HW8⟩

end Go.Proofs.Ytepdlcobhoklfaa

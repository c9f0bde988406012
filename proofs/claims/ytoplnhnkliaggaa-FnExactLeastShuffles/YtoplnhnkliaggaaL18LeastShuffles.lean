/- FnExactLeastShuffles: at every argument the program's LeastShuffles answers as the specification's; the arguments read as before. Written by wip/mk18.py. -/
import Derived.Test.YtoplnhnkliaggaaYbX
import Derived.Test.YtoplnhnkliaggaaOwnInts
import Derived.Test.YtoplnhnkliaggaaExactKit
import Derived.Deep.RegionWith
import Derived.Deep.RegionHeld3
namespace Go.Proofs.Ytoplnhnkliaggaa
open Go.RowKit

set_option maxRecDepth 10000 in
set_option maxHeartbeats 8000000 in
theorem lawLeastShuffles_any (s0 : Int) (pv0 : Value) (R0 : List (List Int)) (pv1 : Value) (L1 : List Int) (c2 : Int) (w : World) (h0 : RowsIn w pv0 R0) (h1 : IntsIn w pv1 L1) :
    Calls Try.prog 10 #[yardV s0 pv0, pv1, .int .i64 c2] w fun e w' => e = .returned (.bool true) ∧ Below w.heap.size w w' := by
  have HV0 := hide h0
  obtain ⟨ao0, cap0, rfl, hl0, hm0, hc0⟩ := h0
  unfold maxLen at hm0
  clear hc0
  have HV1 := hide h1
  obtain ⟨ao1, cap1, rfl, hl1, hm1, hc1⟩ := h1
  unfold maxLen at hm1
  clear hc1
  obtain ⟨V0, ev⟩ : ∃ x, x = (leastV s0 R0 L1 c2).1 := ⟨_, rfl⟩
  have EV0 := hide ev
  clear ev
  obtain ⟨V1, ev⟩ : ∃ x, x = (leastV s0 R0 L1 c2).2 := ⟨_, rfl⟩
  have EV1 := hide ev
  clear ev
  have HW := hide (Below.refl w.heap.size w)
  unfold yardV
  by_cases hsn1 : L1.length ≤ 1048576
  case neg =>
    have HX := hide (Below.alloc1 w (.cells #[.int .i64 s0, .slice ao0 R0.length cap0] 45))
    go_enter Try.func10, Try.ntmps10
    go_wp2
    go_ret
    exact ⟨rfl, unhide HX⟩
  go_enter Try.func10, Try.ntmps10
  have AHB0 := Below.alloc1 (w) (.cells #[.int .i64 s0, .slice ao0 R0.length cap0] 45)
  replace HW := hide (Below.step (unhide HW) AHB0)
  have HB0 := hide (ownV_alloc (w) #[.int .i64 s0, .slice ao0 R0.length cap0] 45)
  clear AHB0
  have cHB00 := OwnV.cell (unhide HB0) (i := 0) rfl
  have cHB01 := OwnV.cell (unhide HB0) (i := 1) rfl
  go_wp2_with fail
  refine (szYard_any s0 _ R0 _ ((unhide HV0).below (unhide HW))).mono ?_
  rintro e w1 ⟨l0, rfl, hs, hb⟩
  clear cHB00 cHB01
  replace HW := hide (Below.step (unhide HW) hb)
  replace HB0 := hide (OwnV.step (unhide HB0) hb)
  have zw1 := hb.size
  simp only [World.size_alloc] at zw1
  clear hb
  obtain ⟨hp0, hq0, hs⟩ := hs
  have HS := hide hs
  clear hs
  by_cases hneg0 : l0 < 0
  · clear HS
    go_wp2
    go_ret
    exact ⟨rfl, unhide HW⟩
  obtain ⟨hsn0, hsl⟩ := unhide HS (by omega)
  have HL0 := hide hsl
  clear hsl HS
  have cHB00 := OwnV.cell (unhide HB0) (i := 0) rfl
  have cHB01 := OwnV.cell (unhide HB0) (i := 1) rfl
  go_wp2_with fail
  refine (toYard_any s0 _ R0 _ ((unhide HV0).below (unhide HW)) hsn0 (unhide HL0)).mono ?_
  rintro e w2 ⟨gHS0, GHS0, CHS0, rfl, ho, hb⟩
  clear cHB00 cHB01
  replace HW := hide (Below.step (unhide HW) hb)
  replace HB0 := hide (OwnV.step (unhide HB0) hb)
  have ho := OwnRows.upto ho hsn0
  have HS0 := hide ho
  have zw2 := hb.size
  clear hb ho
  go_wp2_with fail
  refine (toIntS_o _ L1 _ ((unhide HV1).below (unhide HW)) hsn1).mono ?_
  rintro e w3 ⟨gHS1, rfl, hgHS1, ho, hb⟩
  replace HW := hide (Below.step (unhide HW) hb)
  replace HB0 := hide (OwnV.step (unhide HB0) hb)
  replace HS0 := hide ((unhide HS0).below hb)
  have huHS1 := ho.lt
  have HS1 := hide ho
  have zw3 := hb.size
  clear hb ho
  go_wp2_with fail
  refine (specLeastShuffles_any s0 _ R0 _ L1 c2 _ (unhide HS0).inn (OwnV.intsIn (unhide HS1) (Nat.le_refl _) (by unfold maxLen; omega))).mono ?_
  rintro e w4 ⟨rfl, hb⟩
  clear HS0 HS1
  replace HW := hide (Below.step (unhide HW) hb)
  replace HB0 := hide (OwnV.step (unhide HB0) hb)
  rw [← unhide EV0]
  rw [← unhide EV1]
  have zw4 := hb.size
  clear hb
  have cHB00 := OwnV.cell (unhide HB0) (i := 0) rfl
  have cHB01 := OwnV.cell (unhide HB0) (i := 1) rfl
  go_wp2_with fail
  refine (toYard_any s0 _ R0 _ ((unhide HV0).below (unhide HW)) hsn0 (unhide HL0)).mono ?_
  rintro e w5 ⟨gHO0, GHO0, CHO0, rfl, ho, hb⟩
  clear cHB00 cHB01
  replace HW := hide (Below.step (unhide HW) hb)
  replace HB0 := hide (OwnV.step (unhide HB0) hb)
  have ho := OwnRows.upto ho hsn0
  have HO0 := hide ho
  have zw5 := hb.size
  clear hb ho
  have AHM0 := Below.alloc1 (w5) (.cells #[.int .i64 s0, .slice (some ⟨gHO0, 0, none⟩) R0.length R0.length] 26)
  replace HW := hide (Below.step (unhide HW) AHM0)
  replace HB0 := hide (OwnV.step (unhide HB0) AHM0)
  replace HO0 := hide ((unhide HO0).below AHM0)
  have HM0 := hide (ownV_alloc (w5) #[.int .i64 s0, .slice (some ⟨gHO0, 0, none⟩) R0.length R0.length] 26)
  clear AHM0
  go_wp2_with fail
  refine (toIntS_o _ L1 _ ((unhide HV1).below (unhide HW)) hsn1).mono ?_
  rintro e w6 ⟨gHO1, rfl, hgHO1, ho, hb⟩
  simp only [World.size_alloc] at hgHO1
  replace HW := hide (Below.step (unhide HW) hb)
  replace HB0 := hide (OwnV.step (unhide HB0) hb)
  replace HO0 := hide ((unhide HO0).below hb)
  replace HM0 := hide (OwnV.step (unhide HM0) hb)
  have huHO1 := ho.lt
  have HO1 := hide ho
  have zw6 := hb.size
  simp only [World.size_alloc] at zw6
  clear hb ho
  have cHM00 := OwnV.cell (unhide HM0) (i := 0) rfl
  have cHM01 := OwnV.cell (unhide HM0) (i := 1) rfl
  go_wp2_with fail
  refine (implLeastShuffles_any s0 _ R0 _ L1 c2 _ (unhide HO0).inn (OwnV.intsIn (unhide HO1) (Nat.le_refl _) (by unfold maxLen; omega))).mono ?_
  rintro e w7 ⟨rfl, hb⟩
  clear cHM00 cHM01
  replace HW := hide (Below.step (unhide HW) hb)
  replace HB0 := hide (OwnV.step (unhide HB0) hb)
  replace HO0 := hide ((unhide HO0).below hb)
  replace HM0 := hide (OwnV.step (unhide HM0) hb)
  replace HO1 := hide (OwnV.step (unhide HO1) hb)
  rw [← unhide EV0]
  rw [← unhide EV1]
  have zw7 := hb.size
  clear hb
  have cHB00 := OwnV.cell (unhide HB0) (i := 0) rfl
  have cHB01 := OwnV.cell (unhide HB0) (i := 1) rfl
  have cHM00 := OwnV.cell (unhide HM0) (i := 0) rfl
  have cHM01 := OwnV.cell (unhide HM0) (i := 1) rfl
  go_wp2
  clear cHB00 cHB01 cHM00 cHM01
  have hd : Below (w7).heap.size (w7) (w7).drew := (Below.refl _ _).drew
  replace HW := hide (Below.step (unhide HW) hd)
  replace HB0 := hide (OwnV.step (unhide HB0) hd)
  replace HO0 := hide ((unhide HO0).below hd)
  replace HM0 := hide (OwnV.step (unhide HM0) hd)
  replace HO1 := hide (OwnV.step (unhide HO1) hd)
  clear hd
  have cHB00 := OwnV.cell (unhide HB0) (i := 0) rfl
  have cHB01 := OwnV.cell (unhide HB0) (i := 1) rfl
  have cHM00 := OwnV.cell (unhide HM0) (i := 0) rfl
  have cHM01 := OwnV.cell (unhide HM0) (i := 1) rfl
  have HT := hide (toYard_any s0 _ R0 ((w7).drew) ((unhide HV0).below (unhide HW)) hsn0 (unhide HL0))
  go_region_held3 (fun w' => w'.cell? ⟨w.heap.size, 0, none⟩ = some (.int .i64 s0) ∧ w'.cell? ⟨w.heap.size, 1, none⟩ = some (.slice ao0 R0.length cap0) ∧ w'.cell? ⟨w5.heap.size, 0, none⟩ = some (.int .i64 s0) ∧ w'.cell? ⟨w5.heap.size, 1, none⟩ = some (.slice (some ⟨gHO0, 0, none⟩) R0.length R0.length)) (go_keep) (first
    | (go_at_call 24; refine (unhide HT).mono ?_; rintro e w8 ⟨g7, G7, C7, rfl, ho7, hb7⟩; replace HW := hide (Below.step (unhide HW) hb7); replace HB0 := hide (OwnV.step (unhide HB0) hb7); replace HO0 := hide ((unhide HO0).below hb7); replace HM0 := hide (OwnV.step (unhide HM0) hb7); replace HO1 := hide (OwnV.step (unhide HO1) hb7); have HE := hide (eqYard_any s0 (.slice (some ⟨gHO0, 0, none⟩) R0.length R0.length) (.slice (some ⟨g7, 0, none⟩) R0.length R0.length) R0 w8 (unhide HO0).inn (ho7.rowsIn (Nat.le_refl _) (by unfold maxLen; omega))); have z7 := hb7.size; have fHB00 := OwnV.cell (unhide HB0) (i := 0) rfl; have fHB01 := OwnV.cell (unhide HB0) (i := 1) rfl; have fHM00 := OwnV.cell (unhide HM0) (i := 0) rfl; have fHM01 := OwnV.cell (unhide HM0) (i := 1) rfl; clear ho7 hb7)
    | (go_at_call 25; refine (unhide HE).mono ?_; rintro e w9 ⟨rfl, hb8⟩; replace HW := hide (Below.step (unhide HW) hb8); replace HB0 := hide (OwnV.step (unhide HB0) hb8); replace HO0 := hide ((unhide HO0).below hb8); replace HM0 := hide (OwnV.step (unhide HM0) hb8); replace HO1 := hide (OwnV.step (unhide HO1) hb8); have z8 := hb8.size; have kHB00 := OwnV.cell (unhide HB0) (i := 0) rfl; have kHB01 := OwnV.cell (unhide HB0) (i := 1) rfl; have kHM00 := OwnV.cell (unhide HM0) (i := 0) rfl; have kHM01 := OwnV.cell (unhide HM0) (i := 1) rfl; clear hb8))
  clear cHB00 cHB01 cHM00 cHM01 fHB00 fHB01 fHM00 fHM01 kHB00 kHB01 kHM00 kHM01 HE HT
  have zw9 := Nat.le_trans z7 z8
  clear z7 z8
  simp only [World.size_drew] at zw9
  clear HB0 HM0 HO0
  go_wp2_with fail
  refine (toIntS_o _ L1 _ ((unhide HV1).below (unhide HW)) hsn1).mono ?_
  rintro e w10 ⟨gHY1, rfl, hgHY1, ho, hb⟩
  replace HW := hide (Below.step (unhide HW) hb)
  replace HO1 := hide (OwnV.step (unhide HO1) hb)
  have huHY1 := ho.lt
  have HY1 := hide ho
  have zw10 := hb.size
  clear hb ho
  go_wp2_with fail
  refine (eqIntS_o _ _ L1 _ (OwnV.intsIn (unhide HO1) (Nat.le_refl _) (by unfold maxLen; omega)) (OwnV.intsIn (unhide HY1) (Nat.le_refl _) (by unfold maxLen; omega))).mono ?_
  rintro e w11 ⟨rfl, hb⟩
  clear HY1 HO1
  replace HW := hide (Below.step (unhide HW) hb)
  have zw11 := hb.size
  clear hb
  go_wp2
  go_ret
  exact ⟨rfl, unhide HW⟩

end Go.Proofs.Ytoplnhnkliaggaa

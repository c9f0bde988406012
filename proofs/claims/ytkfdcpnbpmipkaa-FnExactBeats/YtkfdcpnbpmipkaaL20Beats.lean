/- The law of Beats, walked. Written by wip/mk21b.py. -/
import Derived.Test.YtkfdcpnbpmipkaaBtA
import Derived.Test.YtkfdcpnbpmipkaaOwnInts
import Derived.Test.YtkfdcpnbpmipkaaExactKit
namespace Go.Proofs.Ytkfdcpnbpmipkaa
open Go.RowKit

set_option maxRecDepth 100000 in
set_option maxHeartbeats 8000000 in
theorem lawBeats_any (a o s : Int) (pv0 : Value) (L0 : List Int) (w : World) (h0 : IntsIn w pv0 L0) : Calls Try.prog 6 #[vSway a o s, pv0] w fun e w' => e = .returned (.bool true) ∧ Below w.heap.size w w' := by
  have HV0 := hide h0
  obtain ⟨ao0, cap0, rfl, hl0, hm0, hc0⟩ := h0
  unfold maxLen at hm0
  clear hc0
  have HB := hide (bk_one w #[.int .i64 a, .int .i64 o, .int .i64 s] 36)
  have HT := hide fun W => toSway_any a o s W
  have HS := hide fun v W h => specBeats_any a o s v L0 W h
  have HI := hide fun v W h => implBeats_any a o s v L0 W h
  obtain ⟨⟨b, y0, y1, y2⟩, ey⟩ : ∃ r, r = btV a o s L0 := ⟨_, rfl⟩
  rw [← ey] at HS HI
  have HE := hide fun W => eqSway_any y0 y1 y2 W
  clear ey
  unfold btS at HS HI
  unfold vSway at HT HS HI HE ⊢
  by_cases hsn0 : L0.length ≤ 1048576
  case neg =>
    have HW := hide (unhide HB).below
    have n9 : ((1048576 : Int) < (L0.length : Int)) := by omega
    have d9 : decide ((1048576 : Int) < (L0.length : Int)) = true := decide_eq_true n9
    go_enter Try.func6, Try.ntmps6
    go_wp2
    go_ret
    exact ⟨rfl, unhide HW⟩
  have n9 : ¬ ((1048576 : Int) < (L0.length : Int)) := by omega
  have d9 : decide ((1048576 : Int) < (L0.length : Int)) = false := decide_eq_false n9
  go_enter Try.func6, Try.ntmps6
  have hq := (unhide HB).ownV (k := 0) rfl
  have c0 := hq.cell (i := 0) rfl
  have c1 := hq.cell (i := 1) rfl
  have c2 := hq.cell (i := 2) rfl
  have lt0 := hq.lt
  clear hq
  go_wp2_with fail
  refine (unhide HT _).mono ?_
  rintro e w1 ⟨rfl, hb⟩
  replace HB := hide ((unhide HB).step hb)
  clear hb
  clear c0 c1 c2 lt0
  go_wp2_with fail
  refine (toIntS_o _ L0 _ ((unhide HV0).below (unhide HB).below) hsn0).mono ?_
  rintro e w2 ⟨g2, rfl, hg2, ho, hb⟩
  replace HB := hide ((unhide HB).step hb)
  clear hb
  have HS0 := hide ho
  clear ho
  go_wp2_with fail
  refine (unhide HS _ _ (OwnV.intsIn (unhide HS0) (Nat.le_refl _) (by unfold maxLen; omega))).mono ?_
  rintro e w3 ⟨rfl, hb⟩
  replace HB := hide ((unhide HB).step hb)
  clear hb
  clear HS0 HS
  replace HB := hide ((unhide HB).made 1 #[.int .i64 y0, .int .i64 y1, .int .i64 y2] 31)
  go_wp2_with fail
  refine (toIntS_o _ L0 _ ((unhide HV0).below (unhide HB).below) hsn0).mono ?_
  rintro e w4 ⟨g4, rfl, hg4, ho, hb⟩
  replace HB := hide ((unhide HB).step hb)
  clear hb
  have HO0 := hide ho
  have hul := ho.lt
  clear ho
  have hq := (unhide HB).ownV (k := 0) rfl
  have c0 := hq.cell (i := 0) rfl
  have c1 := hq.cell (i := 1) rfl
  have c2 := hq.cell (i := 2) rfl
  have lt0 := hq.lt
  clear hq
  go_wp2_with fail
  refine (unhide HT _).mono ?_
  rintro e w5 ⟨rfl, hb⟩
  replace HO0 := hide (OwnV.step (unhide HO0) hb)
  replace HB := hide ((unhide HB).step hb)
  clear hb
  clear c0 c1 c2 lt0
  go_wp2_with fail
  refine (unhide HI _ _ (OwnV.intsIn (unhide HO0) (Nat.le_refl _) (by unfold maxLen; omega))).mono ?_
  rintro e w6 ⟨rfl, hb⟩
  replace HO0 := hide (OwnV.step (unhide HO0) hb)
  replace HB := hide ((unhide HB).step hb)
  clear hb
  clear HI
  have hq := (unhide HB).ownV (k := 1) rfl
  have d0 := hq.cell (i := 0) rfl
  have d1 := hq.cell (i := 1) rfl
  have d2 := hq.cell (i := 2) rfl
  have lt1 := hq.lt
  clear hq
  replace HB := hide ((unhide HB).made 2 #[.int .i64 y0, .int .i64 y1, .int .i64 y2] 31)
  replace HO0 := hide (OwnV.step (unhide HO0) (Below.alloc1 w6 (.cells #[.int .i64 y0, .int .i64 y1, .int .i64 y2] 31)))
  go_wp2_with fail
  refine (unhide HE _).mono ?_
  rintro e w7 ⟨rfl, hb⟩
  replace HO0 := hide (OwnV.step (unhide HO0) hb)
  replace HB := hide ((unhide HB).step hb)
  clear hb
  clear d0 d1 d2 lt1 HE
  cases b
  · skip
    go_wp2_with fail
    refine (toIntS_o _ L0 _ ((unhide HV0).below (unhide HB).below) hsn0).mono ?_
    rintro e w8 ⟨g8, rfl, hg8, ho, hb⟩
    replace HO0 := hide (OwnV.step (unhide HO0) hb)
    replace HB := hide ((unhide HB).step hb)
    clear hb
    have HY0 := hide ho
    clear ho
    go_wp2_with fail
    refine (eqIntS_o _ _ L0 _ (OwnV.intsIn (unhide HO0) (Nat.le_refl _) (by unfold maxLen; omega)) (OwnV.intsIn (unhide HY0) (Nat.le_refl _) (by unfold maxLen; omega))).mono ?_
    rintro e w9 ⟨rfl, hb⟩
    replace HB := hide ((unhide HB).step hb)
    clear hb
    have HW := hide (unhide HB).below
    go_wp2
    go_ret
    exact ⟨rfl, unhide HW⟩
  · skip
    go_wp2_with fail
    refine (toIntS_o _ L0 _ ((unhide HV0).below (unhide HB).below) hsn0).mono ?_
    rintro e w8 ⟨g8, rfl, hg8, ho, hb⟩
    replace HO0 := hide (OwnV.step (unhide HO0) hb)
    replace HB := hide ((unhide HB).step hb)
    clear hb
    have HY0 := hide ho
    clear ho
    go_wp2_with fail
    refine (eqIntS_o _ _ L0 _ (OwnV.intsIn (unhide HO0) (Nat.le_refl _) (by unfold maxLen; omega)) (OwnV.intsIn (unhide HY0) (Nat.le_refl _) (by unfold maxLen; omega))).mono ?_
    rintro e w9 ⟨rfl, hb⟩
    replace HB := hide ((unhide HB).step hb)
    clear hb
    have HW := hide (unhide HB).below
    go_wp2
    go_ret
    exact ⟨rfl, unhide HW⟩

end Go.Proofs.Ytkfdcpnbpmipkaa

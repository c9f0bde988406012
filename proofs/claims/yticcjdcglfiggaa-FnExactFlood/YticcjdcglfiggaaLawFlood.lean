/- FnExactFlood: at every argument the program's Flood answers as the specification's, in memory of its own; the arguments read as before. Written by wip/mkexact2.py. -/
import Derived.Test.YticcjdcglfiggaaStHs
import Derived.Test.YticcjdcglfiggaaOwnHull
import Derived.Test.YticcjdcglfiggaaRRoom
import Derived.Test.YticcjdcglfiggaaMRoom
import Derived.Test.YticcjdcglfiggaaStHb
import Derived.Test.YticcjdcglfiggaaExactKit
import Derived.Test.YticcjdcglfiggaaOwnHull
import Derived.Deep.RegionWith
namespace Go.Proofs.Yticcjdcglfiggaa
open Go.RowKit

set_option maxHeartbeats 8000000 in
theorem lawFlood_any (s0 r0 : Int) (pv0 : Value) (R0 : List (List Int)) (pv1 : Value) (L1 : List I3) (w : World) (h0 : RowsIn w pv0 R0) (h1 : R3 w pv1 L1) :
    Calls Try.prog 6 #[hullV s0 r0 pv0, pv1] w fun e w' => e = .returned (.bool true) ∧ Below w.heap.size w w' := by
  have HV0 := hide h0
  obtain ⟨ao0, cap0, rfl, hl0, hm0, hc0⟩ := h0
  clear hc0 hl0 hm0
  have HV1 := hide h1
  obtain ⟨ao1, cap1, rfl, hl1, hm1, hc1⟩ := h1
  clear hc1 hl1 hm1
  obtain ⟨ms0, ev⟩ : ∃ x, x = fStep s0 r0 R0 L1 := ⟨_, rfl⟩
  have ES0 := hide ev
  clear ev
  obtain ⟨mr0, ev⟩ : ∃ x, x = fRise s0 r0 R0 L1 := ⟨_, rfl⟩
  have ER0 := hide ev
  clear ev
  obtain ⟨M0, ev⟩ : ∃ x, x = fRows s0 r0 R0 L1 := ⟨_, rfl⟩
  have hbd := fRows_bd s0 r0 R0 L1
  rw [← ev] at hbd
  obtain ⟨hMl0, hMr⟩ := hbd
  have HMr0 := hide hMr
  clear hMr
  have EM0 := hide ev
  clear ev
  have HW := hide (Below.refl w.heap.size w)
  unfold hullV
  go_enter Try.func6, Try.ntmps6
  have AHB0 := Below.alloc1 (w) (.cells #[.int .i64 s0, .int .i64 r0, .slice ao0 R0.length cap0] 48)
  replace HW := hide (Below.step (unhide HW) AHB0)
  have HB0 := hide (ownV_alloc (w) #[.int .i64 s0, .int .i64 r0, .slice ao0 R0.length cap0] 48)
  clear AHB0
  have cHB00 := OwnV.cell (unhide HB0) (i := 0) rfl
  have cHB01 := OwnV.cell (unhide HB0) (i := 1) rfl
  have cHB02 := OwnV.cell (unhide HB0) (i := 2) rfl
  go_wp2_with fail
  refine (szHull_any s0 r0 _ R0 _ ((unhide HV0).below (unhide HW))).mono ?_
  rintro e w1 ⟨l0, rfl, hs, hb⟩
  clear cHB00 cHB01 cHB02
  replace HW := hide (Below.step (unhide HW) hb)
  replace HB0 := hide (OwnV.step (unhide HB0) hb)
  have zw1 := hb.size
  simp only [World.size_alloc] at zw1
  clear hb
  obtain ⟨hp0, hq0, hs⟩ := hs
  have HS := hide hs
  clear hs
  by_cases hneg0 : l0 < 0
  · clear HS
    go_wp2
    go_ret
    exact ⟨rfl, unhide HW⟩
  obtain ⟨hsn0, hsl⟩ := unhide HS (by omega)
  have HL0 := hide hsl
  clear hsl HS
  go_wp2_with fail
  refine (szRoomS_any _ L1 l0 _ ((unhide HV1).below (unhide HW)) (by omega) (by omega)).mono ?_
  rintro e w2 ⟨l1, rfl, hs, hb⟩
  subst hb
  obtain ⟨hp1, hq1, hs⟩ := hs
  have HS := hide hs
  clear hs
  by_cases hneg1 : l1 < 0
  · clear HS
    go_wp2
    go_ret
    exact ⟨rfl, unhide HW⟩
  have hsn1 := unhide HS (by omega)
  clear HS
  have cHB00 := OwnV.cell (unhide HB0) (i := 0) rfl
  have cHB01 := OwnV.cell (unhide HB0) (i := 1) rfl
  have cHB02 := OwnV.cell (unhide HB0) (i := 2) rfl
  go_wp2_with fail
  refine (toHull_any s0 r0 _ R0 _ ((unhide HV0).below (unhide HW)) hsn0 (unhide HL0)).mono ?_
  rintro e w2 ⟨gHS0, GHS0, CHS0, rfl, ho, hb⟩
  clear cHB00 cHB01 cHB02
  replace HW := hide (Below.step (unhide HW) hb)
  replace HB0 := hide (OwnV.step (unhide HB0) hb)
  have ho := OwnRows.upto ho hsn0
  have HS0 := hide ho
  have zw2 := hb.size
  clear hb ho
  go_wp2_with fail
  refine (toRoomS_any _ L1 _ ((unhide HV1).below (unhide HW)) hsn1).mono ?_
  rintro e w3 ⟨gHS1, rfl, hgHS1, ho, hb⟩
  replace HW := hide (Below.step (unhide HW) hb)
  replace HB0 := hide (OwnV.step (unhide HB0) hb)
  replace HS0 := hide ((unhide HS0).below hb)
  have huHS1 := ho.lt
  have HS1 := hide ho
  have zw3 := hb.size
  clear hb ho
  go_wp2_with fail
  refine (specFlood_any s0 r0 _ R0 _ L1 _ (unhide HS0).inn (OwnV.recsIn (unhide HS1) (Nat.le_refl _) (by unfold maxLen; omega))).mono ?_
  rintro e w4 ⟨a0, n0, cp0, rfl, hr0, hb⟩
  clear HS0 HS1
  replace HW := hide (Below.step (unhide HW) hb)
  replace HB0 := hide (OwnV.step (unhide HB0) hb)
  rw [← unhide ES0, ← unhide ER0]
  rw [← unhide EM0] at hr0
  have HSP0 := hide hr0
  clear hr0
  have zw4 := hb.size
  clear hb
  have HZ := hide (Below.refl w4.heap.size w4)
  have AHR0 := Below.alloc1 (w4) (.cells #[.int .i64 ms0, .int .i64 mr0, .slice a0 n0 cp0] 26)
  replace HW := hide (Below.step (unhide HW) AHR0)
  replace HB0 := hide (OwnV.step (unhide HB0) AHR0)
  replace HZ := hide (Below.step (unhide HZ) AHR0)
  have HR0 := hide (ownV_alloc (w4) #[.int .i64 ms0, .int .i64 mr0, .slice a0 n0 cp0] 26)
  clear AHR0
  have cHB00 := OwnV.cell (unhide HB0) (i := 0) rfl
  have cHB01 := OwnV.cell (unhide HB0) (i := 1) rfl
  have cHB02 := OwnV.cell (unhide HB0) (i := 2) rfl
  go_wp2_with fail
  refine (toHull_any s0 r0 _ R0 _ ((unhide HV0).below (unhide HW)) hsn0 (unhide HL0)).mono ?_
  rintro e w5 ⟨gHO0, GHO0, CHO0, rfl, ho, hb⟩
  clear cHB00 cHB01 cHB02
  replace HW := hide (Below.step (unhide HW) hb)
  replace HB0 := hide (OwnV.step (unhide HB0) hb)
  replace HZ := hide (Below.step (unhide HZ) hb)
  replace HR0 := hide (OwnV.step (unhide HR0) hb)
  have ho := OwnRows.upto ho hsn0
  simp only [World.size_alloc] at ho
  have HO0 := hide ho
  have zw5 := hb.size
  simp only [World.size_alloc] at zw5
  clear hb ho
  have AHM0 := Below.alloc1 (w5) (.cells #[.int .i64 s0, .int .i64 r0, .slice (some ⟨gHO0, 0, none⟩) R0.length R0.length] 26)
  replace HW := hide (Below.step (unhide HW) AHM0)
  replace HB0 := hide (OwnV.step (unhide HB0) AHM0)
  replace HZ := hide (Below.step (unhide HZ) AHM0)
  replace HR0 := hide (OwnV.step (unhide HR0) AHM0)
  replace HO0 := hide ((unhide HO0).below AHM0)
  have HM0 := hide (ownV_alloc (w5) #[.int .i64 s0, .int .i64 r0, .slice (some ⟨gHO0, 0, none⟩) R0.length R0.length] 26)
  clear AHM0
  go_wp2_with fail
  refine (toRoomS_any _ L1 _ ((unhide HV1).below (unhide HW)) hsn1).mono ?_
  rintro e w6 ⟨gHO1, rfl, hgHO1, ho, hb⟩
  simp only [World.size_alloc] at hgHO1
  replace HW := hide (Below.step (unhide HW) hb)
  replace HB0 := hide (OwnV.step (unhide HB0) hb)
  replace HZ := hide (Below.step (unhide HZ) hb)
  replace HR0 := hide (OwnV.step (unhide HR0) hb)
  replace HO0 := hide ((unhide HO0).below hb)
  replace HM0 := hide (OwnV.step (unhide HM0) hb)
  have huHO1 := ho.lt
  have HO1 := hide ho
  have zw6 := hb.size
  simp only [World.size_alloc] at zw6
  clear hb ho
  have cHM00 := OwnV.cell (unhide HM0) (i := 0) rfl
  have cHM01 := OwnV.cell (unhide HM0) (i := 1) rfl
  have cHM02 := OwnV.cell (unhide HM0) (i := 2) rfl
  go_wp2_with fail
  refine (implFlood_any s0 r0 _ R0 _ L1 _ (unhide HO0).inn (OwnV.recsIn (unhide HO1) (Nat.le_refl _) (by unfold maxLen; omega))).mono ?_
  rintro e w7 ⟨ab0, nb0, cpb0, rfl, hr0, hb⟩
  clear cHM00 cHM01 cHM02
  replace HW := hide (Below.step (unhide HW) hb)
  replace HB0 := hide (OwnV.step (unhide HB0) hb)
  replace HZ := hide (Below.step (unhide HZ) hb)
  replace HR0 := hide (OwnV.step (unhide HR0) hb)
  replace HO0 := hide ((unhide HO0).below hb)
  replace HM0 := hide (OwnV.step (unhide HM0) hb)
  replace HO1 := hide (OwnV.step (unhide HO1) hb)
  rw [← unhide ES0, ← unhide ER0]
  rw [← unhide EM0] at hr0
  have hr0 := hr0.upto
  have HQ0 := hide hr0
  clear hr0
  have zw7 := hb.size
  clear hb
  have AHG0 := Below.alloc1 (w7) (.cells #[.int .i64 ms0, .int .i64 mr0, .slice ab0 nb0 cpb0] 26)
  replace HW := hide (Below.step (unhide HW) AHG0)
  replace HB0 := hide (OwnV.step (unhide HB0) AHG0)
  replace HZ := hide (Below.step (unhide HZ) AHG0)
  replace HR0 := hide (OwnV.step (unhide HR0) AHG0)
  replace HO0 := hide ((unhide HO0).below AHG0)
  replace HM0 := hide (OwnV.step (unhide HM0) AHG0)
  replace HO1 := hide (OwnV.step (unhide HO1) AHG0)
  replace HQ0 := hide ((unhide HQ0).below AHG0)
  have HG0 := hide (ownV_alloc (w7) #[.int .i64 ms0, .int .i64 mr0, .slice ab0 nb0 cpb0] 26)
  clear AHG0
  have cHR00 := OwnV.cell (unhide HR0) (i := 0) rfl
  have cHR01 := OwnV.cell (unhide HR0) (i := 1) rfl
  have cHR02 := OwnV.cell (unhide HR0) (i := 2) rfl
  have cHG00 := OwnV.cell (unhide HG0) (i := 0) rfl
  have cHG01 := OwnV.cell (unhide HG0) (i := 1) rfl
  have cHG02 := OwnV.cell (unhide HG0) (i := 2) rfl
  go_wp2_with fail
  refine (eqHull_any ms0 mr0 _ _ M0 _ (unhide HQ0).inn ((unhide HSP0).below (unhide HZ))).mono ?_
  rintro e w8 ⟨rfl, hb⟩
  clear cHR00 cHR01 cHR02 cHG00 cHG01 cHG02
  replace HW := hide (Below.step (unhide HW) hb)
  replace HB0 := hide (OwnV.step (unhide HB0) hb)
  replace HZ := hide (Below.step (unhide HZ) hb)
  replace HR0 := hide (OwnV.step (unhide HR0) hb)
  replace HO0 := hide ((unhide HO0).below hb)
  replace HM0 := hide (OwnV.step (unhide HM0) hb)
  replace HO1 := hide (OwnV.step (unhide HO1) hb)
  replace HQ0 := hide ((unhide HQ0).below hb)
  replace HG0 := hide (OwnV.step (unhide HG0) hb)
  have zw8 := hb.size
  simp only [World.size_alloc] at zw8
  clear hb
  have cHB00 := OwnV.cell (unhide HB0) (i := 0) rfl
  have cHB01 := OwnV.cell (unhide HB0) (i := 1) rfl
  have cHB02 := OwnV.cell (unhide HB0) (i := 2) rfl
  have cHM00 := OwnV.cell (unhide HM0) (i := 0) rfl
  have cHM01 := OwnV.cell (unhide HM0) (i := 1) rfl
  have cHM02 := OwnV.cell (unhide HM0) (i := 2) rfl
  go_wp2
  clear cHB00 cHB01 cHB02 cHM00 cHM01 cHM02
  have hd : Below (w8).heap.size (w8) (w8).drew := (Below.refl _ _).drew
  replace HW := hide (Below.step (unhide HW) hd)
  replace HB0 := hide (OwnV.step (unhide HB0) hd)
  replace HZ := hide (Below.step (unhide HZ) hd)
  replace HR0 := hide (OwnV.step (unhide HR0) hd)
  replace HO0 := hide ((unhide HO0).below hd)
  replace HM0 := hide (OwnV.step (unhide HM0) hd)
  replace HO1 := hide (OwnV.step (unhide HO1) hd)
  replace HQ0 := hide ((unhide HQ0).below hd)
  replace HG0 := hide (OwnV.step (unhide HG0) hd)
  clear hd
  have cHB00 := OwnV.cell (unhide HB0) (i := 0) rfl
  have cHB01 := OwnV.cell (unhide HB0) (i := 1) rfl
  have cHB02 := OwnV.cell (unhide HB0) (i := 2) rfl
  have cHM00 := OwnV.cell (unhide HM0) (i := 0) rfl
  have cHM01 := OwnV.cell (unhide HM0) (i := 1) rfl
  have cHM02 := OwnV.cell (unhide HM0) (i := 2) rfl
  have HT := hide (toHull_any s0 r0 _ R0 ((w8).drew) ((unhide HV0).below (unhide HW)) hsn0 (unhide HL0))
  go_region_held3 (fun w' => w'.cell? ⟨w.heap.size, 0, none⟩ = some (.int .i64 s0) ∧ w'.cell? ⟨w.heap.size, 1, none⟩ = some (.int .i64 r0) ∧ w'.cell? ⟨w.heap.size, 2, none⟩ = some (.slice ao0 R0.length cap0) ∧ w'.cell? ⟨w5.heap.size, 0, none⟩ = some (.int .i64 s0) ∧ w'.cell? ⟨w5.heap.size, 1, none⟩ = some (.int .i64 r0) ∧ w'.cell? ⟨w5.heap.size, 2, none⟩ = some (.slice (some ⟨gHO0, 0, none⟩) R0.length R0.length)) (go_keep) (first
    | (go_at_call 27; refine (unhide HT).mono ?_; rintro e w9 ⟨g7, G7, C7, rfl, ho7, hb7⟩; replace HW := hide (Below.step (unhide HW) hb7); replace HB0 := hide (OwnV.step (unhide HB0) hb7); replace HZ := hide (Below.step (unhide HZ) hb7); replace HR0 := hide (OwnV.step (unhide HR0) hb7); replace HO0 := hide ((unhide HO0).below hb7); replace HM0 := hide (OwnV.step (unhide HM0) hb7); replace HO1 := hide (OwnV.step (unhide HO1) hb7); replace HQ0 := hide ((unhide HQ0).below hb7); replace HG0 := hide (OwnV.step (unhide HG0) hb7); have HE := hide (eqHull_any s0 r0 (.slice (some ⟨gHO0, 0, none⟩) R0.length R0.length) (.slice (some ⟨g7, 0, none⟩) R0.length R0.length) R0 w9 (unhide HO0).inn (ho7.rowsIn (Nat.le_refl _) (by unfold maxLen; omega))); have z7 := hb7.size; have fHB00 := OwnV.cell (unhide HB0) (i := 0) rfl; have fHB01 := OwnV.cell (unhide HB0) (i := 1) rfl; have fHB02 := OwnV.cell (unhide HB0) (i := 2) rfl; have fHM00 := OwnV.cell (unhide HM0) (i := 0) rfl; have fHM01 := OwnV.cell (unhide HM0) (i := 1) rfl; have fHM02 := OwnV.cell (unhide HM0) (i := 2) rfl; clear ho7 hb7)
    | (go_at_call 28; refine (unhide HE).mono ?_; rintro e w10 ⟨rfl, hb8⟩; replace HW := hide (Below.step (unhide HW) hb8); replace HB0 := hide (OwnV.step (unhide HB0) hb8); replace HZ := hide (Below.step (unhide HZ) hb8); replace HR0 := hide (OwnV.step (unhide HR0) hb8); replace HO0 := hide ((unhide HO0).below hb8); replace HM0 := hide (OwnV.step (unhide HM0) hb8); replace HO1 := hide (OwnV.step (unhide HO1) hb8); replace HQ0 := hide ((unhide HQ0).below hb8); replace HG0 := hide (OwnV.step (unhide HG0) hb8); have z8 := hb8.size; have kHB00 := OwnV.cell (unhide HB0) (i := 0) rfl; have kHB01 := OwnV.cell (unhide HB0) (i := 1) rfl; have kHB02 := OwnV.cell (unhide HB0) (i := 2) rfl; have kHM00 := OwnV.cell (unhide HM0) (i := 0) rfl; have kHM01 := OwnV.cell (unhide HM0) (i := 1) rfl; have kHM02 := OwnV.cell (unhide HM0) (i := 2) rfl; clear hb8))
  clear cHB00 cHB01 cHB02 cHM00 cHM01 cHM02 fHB00 fHB01 fHB02 fHM00 fHM01 fHM02 kHB00 kHB01 kHB02 kHM00 kHM01 kHM02 HE HT
  have zw10 := Nat.le_trans z7 z8
  clear z7 z8
  simp only [World.size_drew] at zw10
  go_wp2_with fail
  refine (toRoomS_any _ L1 _ ((unhide HV1).below (unhide HW)) hsn1).mono ?_
  rintro e w11 ⟨gHY1, rfl, hgHY1, ho, hb⟩
  replace HW := hide (Below.step (unhide HW) hb)
  replace HB0 := hide (OwnV.step (unhide HB0) hb)
  replace HZ := hide (Below.step (unhide HZ) hb)
  replace HR0 := hide (OwnV.step (unhide HR0) hb)
  replace HO0 := hide ((unhide HO0).below hb)
  replace HM0 := hide (OwnV.step (unhide HM0) hb)
  replace HO1 := hide (OwnV.step (unhide HO1) hb)
  replace HQ0 := hide ((unhide HQ0).below hb)
  replace HG0 := hide (OwnV.step (unhide HG0) hb)
  have huHY1 := ho.lt
  have HY1 := hide ho
  have zw11 := hb.size
  clear hb ho
  go_wp2_with fail
  refine (eqRoomS_any _ _ L1 _ (OwnV.recsIn (unhide HO1) (Nat.le_refl _) (by unfold maxLen; omega)) (OwnV.recsIn (unhide HY1) (Nat.le_refl _) (by unfold maxLen; omega))).mono ?_
  rintro e w12 ⟨rfl, hb⟩
  clear HY1
  replace HW := hide (Below.step (unhide HW) hb)
  replace HB0 := hide (OwnV.step (unhide HB0) hb)
  replace HZ := hide (Below.step (unhide HZ) hb)
  replace HR0 := hide (OwnV.step (unhide HR0) hb)
  replace HO0 := hide ((unhide HO0).below hb)
  replace HM0 := hide (OwnV.step (unhide HM0) hb)
  replace HO1 := hide (OwnV.step (unhide HO1) hb)
  replace HQ0 := hide ((unhide HQ0).below hb)
  replace HG0 := hide (OwnV.step (unhide HG0) hb)
  have zw12 := hb.size
  clear hb
  have cHM00 := OwnV.cell (unhide HM0) (i := 0) rfl
  have cHM01 := OwnV.cell (unhide HM0) (i := 1) rfl
  have cHM02 := OwnV.cell (unhide HM0) (i := 2) rfl
  go_wp2_with fail
  refine (markHull_v s0 r0 _ _ _ _ _ R0 _ (unhide HO0) hsn0 (unhide HL0)).mono ?_
  rintro e w13 ⟨rfl, hk, _⟩
  clear cHM00 cHM01 cHM02
  clear HO0 HM0
  replace HW := hide ((unhide HW).trans (hk.below (B := w.heap.size) (by omega) (fun b e => by omega)))
  replace HB0 := hide (OwnV.kept (unhide HB0) hk (fun e => by omega))
  replace HZ := hide ((unhide HZ).trans (hk.below (B := w4.heap.size) (by omega) (fun b e => by omega)))
  replace HR0 := hide (OwnV.kept (unhide HR0) hk (fun e => by omega))
  replace HO1 := hide (OwnV.kept (unhide HO1) hk (fun e => by omega))
  replace HQ0 := hide ((unhide HQ0).kept hk (fun b h1 h2 e => by omega))
  replace HG0 := hide (OwnV.kept (unhide HG0) hk (fun e => by omega))
  have zw13 := hk.size
  have hpk0 := pre_le (unhide HL0) R0.length (Nat.le_refl _)
  clear hk
  generalize pre R0 R0.length = pk0 at *
  go_wp2_with fail
  refine (markRoomS_any gHO1 _ L1.length _ _ _ (unhide HO1) (by rw [recCells_length]; exact Nat.le_refl _) hsn1 (by omega) (by omega)).mono ?_
  rintro e w14 ⟨rfl, hk, _⟩
  clear HO1
  replace HW := hide ((unhide HW).trans (hk.below (B := w.heap.size) (by omega) (fun b e => by omega)))
  replace HB0 := hide (OwnV.kept (unhide HB0) hk (fun e => by omega))
  replace HZ := hide ((unhide HZ).trans (hk.below (B := w4.heap.size) (by omega) (fun b e => by omega)))
  replace HR0 := hide (OwnV.kept (unhide HR0) hk (fun e => by omega))
  replace HQ0 := hide ((unhide HQ0).kept hk (fun b h1 h2 e => by omega))
  replace HG0 := hide (OwnV.kept (unhide HG0) hk (fun e => by omega))
  have zw14 := hk.size
  clear hk
  have cHR00 := OwnV.cell (unhide HR0) (i := 0) rfl
  have cHR01 := OwnV.cell (unhide HR0) (i := 1) rfl
  have cHR02 := OwnV.cell (unhide HR0) (i := 2) rfl
  have cHG00 := OwnV.cell (unhide HG0) (i := 0) rfl
  have cHG01 := OwnV.cell (unhide HG0) (i := 1) rfl
  have cHG02 := OwnV.cell (unhide HG0) (i := 2) rfl
  go_wp2_with fail
  refine (eqHull_any ms0 mr0 _ _ M0 _ (unhide HQ0).inn ((unhide HSP0).below (unhide HZ))).mono ?_
  rintro e w15 ⟨rfl, hb⟩
  clear cHR00 cHR01 cHR02 cHG00 cHG01 cHG02
  replace HW := hide (Below.step (unhide HW) hb)
  replace HB0 := hide (OwnV.step (unhide HB0) hb)
  replace HZ := hide (Below.step (unhide HZ) hb)
  replace HR0 := hide (OwnV.step (unhide HR0) hb)
  replace HQ0 := hide ((unhide HQ0).below hb)
  replace HG0 := hide (OwnV.step (unhide HG0) hb)
  have zw15 := hb.size
  clear hb
  have cHG00 := OwnV.cell (unhide HG0) (i := 0) rfl
  have cHG01 := OwnV.cell (unhide HG0) (i := 1) rfl
  have cHG02 := OwnV.cell (unhide HG0) (i := 2) rfl
  go_wp2_with fail
  refine (markHull_v ms0 mr0 _ _ _ _ _ M0 _ (unhide HQ0) hMl0 (unhide HMr0)).mono ?_
  rintro e w16 ⟨rfl, hk, ho⟩
  clear cHG00 cHG01 cHG02
  clear HQ0
  replace HW := hide ((unhide HW).trans (hk.below (B := w.heap.size) (by omega) (fun b e => by omega)))
  replace HB0 := hide (OwnV.kept (unhide HB0) hk (fun e => by omega))
  replace HZ := hide ((unhide HZ).trans (hk.below (B := w4.heap.size) (by omega) (fun b e => by omega)))
  replace HR0 := hide (OwnV.kept (unhide HR0) hk (fun e => by omega))
  replace HG0 := hide (OwnV.kept (unhide HG0) hk (fun e => by omega))
  have zw16 := hk.size
  have HQ0 := hide ho
  clear hk ho
  have HD0 := hide fun W hW => heldHull_v ms0 mr0 (.slice ab0 nb0 cpb0) M0 W hW hMl0 (unhide HMr0)
  have hpm0 := pre_le (unhide HMr0) M0.length (Nat.le_refl _)
  generalize pre M0 M0.length = pm0 at *
  have cHG00 := OwnV.cell (unhide HG0) (i := 0) rfl
  have cHG01 := OwnV.cell (unhide HG0) (i := 1) rfl
  have cHG02 := OwnV.cell (unhide HG0) (i := 2) rfl
  go_wp2_with fail
  refine (unhide HD0 _ (unhide HQ0).inn).mono ?_
  rintro e w17 ⟨rfl, hb⟩
  clear cHG00 cHG01 cHG02
  replace HW := hide (Below.step (unhide HW) hb)
  replace HB0 := hide (OwnV.step (unhide HB0) hb)
  replace HZ := hide (Below.step (unhide HZ) hb)
  replace HR0 := hide (OwnV.step (unhide HR0) hb)
  replace HG0 := hide (OwnV.step (unhide HG0) hb)
  replace HQ0 := hide ((unhide HQ0).below hb)
  have zw17 := hb.size
  clear hb
  have cHB00 := OwnV.cell (unhide HB0) (i := 0) rfl
  have cHB01 := OwnV.cell (unhide HB0) (i := 1) rfl
  have cHB02 := OwnV.cell (unhide HB0) (i := 2) rfl
  go_wp2_with fail
  refine (toHull_any s0 r0 _ R0 _ ((unhide HV0).below (unhide HW)) hsn0 (unhide HL0)).mono ?_
  rintro e w18 ⟨gHT0, GHT0, CHT0, rfl, ho, hb⟩
  clear cHB00 cHB01 cHB02
  replace HW := hide (Below.step (unhide HW) hb)
  replace HB0 := hide (OwnV.step (unhide HB0) hb)
  replace HZ := hide (Below.step (unhide HZ) hb)
  replace HR0 := hide (OwnV.step (unhide HR0) hb)
  replace HG0 := hide (OwnV.step (unhide HG0) hb)
  replace HQ0 := hide ((unhide HQ0).below hb)
  have ho := OwnRows.upto ho hsn0
  have HT0 := hide ho
  have zw18 := hb.size
  clear hb ho
  go_wp2_with fail
  refine (toRoomS_any _ L1 _ ((unhide HV1).below (unhide HW)) hsn1).mono ?_
  rintro e w19 ⟨gHT1, rfl, hgHT1, ho, hb⟩
  replace HW := hide (Below.step (unhide HW) hb)
  replace HB0 := hide (OwnV.step (unhide HB0) hb)
  replace HZ := hide (Below.step (unhide HZ) hb)
  replace HR0 := hide (OwnV.step (unhide HR0) hb)
  replace HG0 := hide (OwnV.step (unhide HG0) hb)
  replace HQ0 := hide ((unhide HQ0).below hb)
  replace HT0 := hide ((unhide HT0).below hb)
  have huHT1 := ho.lt
  have HT1 := hide ho
  have zw19 := hb.size
  clear hb ho
  go_wp2_with fail
  refine (implFlood_any s0 r0 _ R0 _ L1 _ (unhide HT0).inn (OwnV.recsIn (unhide HT1) (Nat.le_refl _) (by unfold maxLen; omega))).mono ?_
  rintro e w20 ⟨ac0, nc0, cpc0, rfl, hr0, hb⟩
  clear HT0 HT1
  replace HW := hide (Below.step (unhide HW) hb)
  replace HB0 := hide (OwnV.step (unhide HB0) hb)
  replace HZ := hide (Below.step (unhide HZ) hb)
  replace HR0 := hide (OwnV.step (unhide HR0) hb)
  replace HG0 := hide (OwnV.step (unhide HG0) hb)
  replace HQ0 := hide ((unhide HQ0).below hb)
  rw [← unhide ES0, ← unhide ER0]
  rw [← unhide EM0] at hr0
  have hr0 := hr0.upto
  have HI0 := hide hr0
  clear hr0
  have zw20 := hb.size
  clear hb
  have AHH0 := Below.alloc1 (w20) (.cells #[.int .i64 ms0, .int .i64 mr0, .slice ac0 nc0 cpc0] 26)
  replace HW := hide (Below.step (unhide HW) AHH0)
  replace HB0 := hide (OwnV.step (unhide HB0) AHH0)
  replace HZ := hide (Below.step (unhide HZ) AHH0)
  replace HR0 := hide (OwnV.step (unhide HR0) AHH0)
  replace HG0 := hide (OwnV.step (unhide HG0) AHH0)
  replace HQ0 := hide ((unhide HQ0).below AHH0)
  replace HI0 := hide ((unhide HI0).below AHH0)
  have HH0 := hide (ownV_alloc (w20) #[.int .i64 ms0, .int .i64 mr0, .slice ac0 nc0 cpc0] 26)
  clear AHH0
  have cHR00 := OwnV.cell (unhide HR0) (i := 0) rfl
  have cHR01 := OwnV.cell (unhide HR0) (i := 1) rfl
  have cHR02 := OwnV.cell (unhide HR0) (i := 2) rfl
  have cHH00 := OwnV.cell (unhide HH0) (i := 0) rfl
  have cHH01 := OwnV.cell (unhide HH0) (i := 1) rfl
  have cHH02 := OwnV.cell (unhide HH0) (i := 2) rfl
  go_wp2_with fail
  refine (eqHull_any ms0 mr0 _ _ M0 _ (unhide HI0).inn ((unhide HSP0).below (unhide HZ))).mono ?_
  rintro e w21 ⟨rfl, hb⟩
  clear cHR00 cHR01 cHR02 cHH00 cHH01 cHH02
  replace HW := hide (Below.step (unhide HW) hb)
  replace HB0 := hide (OwnV.step (unhide HB0) hb)
  replace HZ := hide (Below.step (unhide HZ) hb)
  replace HR0 := hide (OwnV.step (unhide HR0) hb)
  replace HG0 := hide (OwnV.step (unhide HG0) hb)
  replace HQ0 := hide ((unhide HQ0).below hb)
  replace HI0 := hide ((unhide HI0).below hb)
  replace HH0 := hide (OwnV.step (unhide HH0) hb)
  have zw21 := hb.size
  simp only [World.size_alloc] at zw21
  clear hb
  clear HB0 HZ HR0 HI0 HH0
  have cHG00 := OwnV.cell (unhide HG0) (i := 0) rfl
  have cHG01 := OwnV.cell (unhide HG0) (i := 1) rfl
  have cHG02 := OwnV.cell (unhide HG0) (i := 2) rfl
  go_wp2_with fail
  refine (unhide HD0 _ (unhide HQ0).inn).mono ?_
  rintro e w22 ⟨rfl, hb⟩
  clear cHG00 cHG01 cHG02
  replace HW := hide (Below.step (unhide HW) hb)
  replace HG0 := hide (OwnV.step (unhide HG0) hb)
  replace HQ0 := hide ((unhide HQ0).below hb)
  have zw22 := hb.size
  clear hb
  go_wp2
  go_ret
  exact ⟨rfl, unhide HW⟩

end Go.Proofs.Yticcjdcglfiggaa

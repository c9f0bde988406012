/- FnExactStrips2: at every hull and number the program's Strips2 answers as the specification's, in memory of its own; nothing of the argument's memory has turned. -/
import Derived.Test.YtepdlcobhoklfaaWalkR
import Derived.Test.YtepdlcobhoklfaaWalkM
import Derived.Deep.RegionHeld3
namespace Go.Proofs.Ytepdlcobhoklfaa
open Go.RowKit

/-- The slice value v holds xs; where it has an element it lies at the head of block g, which is the call's own. -/
def SlAt (w : World) (v : Value) (xs : List Int) (g : Nat) : Prop := ∃ ao cap, v = .slice ao xs.length cap ∧ xs.length ≤ cap ∧ cap ≤ maxLen ∧ (xs ≠ [] → ao = some ⟨g, 0, none⟩ ∧ OwnV w g (ints xs))

theorem OwnSl.at {B : Nat} {w : World} {v : Value} {xs : List Int} (h : OwnSl B w v xs) : ∃ g, SlAt w v xs g ∧ (xs ≠ [] → B ≤ g ∧ g < w.heap.size) := by
  obtain ⟨ao, cap, rfl, h1, h2, h3⟩ := h
  by_cases hne : xs = []
  · exact ⟨0, ⟨ao, cap, rfl, h1, h2, fun h => absurd hne h⟩, fun h => absurd hne h⟩
  · obtain ⟨g, rfl, hg, ho⟩ := h3 hne
    exact ⟨g, ⟨_, cap, rfl, h1, h2, fun _ => ⟨rfl, ho⟩⟩, fun _ => ⟨hg, ho.lt⟩⟩

theorem SlAt.below {w w' : World} {v : Value} {xs : List Int} {g : Nat} (h : SlAt w v xs g) (hb : Below w.heap.size w w') : SlAt w' v xs g := by
  obtain ⟨ao, cap, rfl, h1, h2, h3⟩ := h
  exact ⟨ao, cap, rfl, h1, h2, fun hne => ⟨(h3 hne).1, (h3 hne).2.below hb (h3 hne).2.lt⟩⟩

theorem SlAt.kept {T : Nat → Prop} {w w' : World} {v : Value} {xs : List Int} {g : Nat} (h : SlAt w v xs g) (hk : Kept T w w') (hT : xs ≠ [] → ¬ T g) : SlAt w' v xs g := by
  obtain ⟨ao, cap, rfl, h1, h2, h3⟩ := h
  exact ⟨ao, cap, rfl, h1, h2, fun hne => ⟨(h3 hne).1, (h3 hne).2.kept hk (hT hne)⟩⟩

theorem SlAt.intsIn {w : World} {v : Value} {xs : List Int} {g : Nat} (h : SlAt w v xs g) : IntsIn w v xs := by
  obtain ⟨ao, cap, rfl, h1, h2, h3⟩ := h
  refine ⟨ao, cap, rfl, h1, h2, fun i hi => ?_⟩
  obtain ⟨rfl, ho⟩ := h3 (fun e => by rw [e] at hi; simp at hi)
  exact ⟨g, 0, rfl, by rw [Nat.zero_add]; exact ho.cell (ints_get xs hi)⟩

theorem SlAt.own {w : World} {ao : Option Addr} {n cap : Nat} {xs : List Int} {g : Nat} (h : SlAt w (.slice ao n cap) xs g) (hne : xs ≠ []) : ao = some ⟨g, 0, none⟩ ∧ OwnV w g (ints xs) := by
  obtain ⟨ao', cap', e, _, _, h3⟩ := h
  simp only [Value.slice.injEq] at e
  obtain ⟨rfl, _, _⟩ := e
  exact h3 hne

/-- Behind a marking the slice holds the marks. -/
theorem SlAt.marked {w w' : World} {ao : Option Addr} {n cap : Nat} {xs : List Int} {g : Nat} {k : Int} (h : SlAt w (.slice ao n cap) xs g) (ho : xs ≠ [] → OwnV w' g (ints (marks k xs.length))) : SlAt w' (.slice ao n cap) (marks k xs.length) g := by
  obtain ⟨ao', cap', e, h1, h2, h3⟩ := h
  refine ⟨ao', cap', by rw [marks_len]; exact e, by rw [marks_len]; exact h1, h2, fun hne => ?_⟩
  have hx : xs ≠ [] := fun e => hne (by rw [e]; rfl)
  exact ⟨(h3 hx).1, ho hx⟩

set_option maxHeartbeats 3200000 in
theorem lawStrips2_any (step rise : Int) (v : Value) (R : List (List Int)) (c : Int) (w : World) (h : RowsIn w v R) :
    Calls Try.prog 8 #[hullV step rise v, .int .i64 c] w fun e w' => e = .returned (.bool true) ∧ Below w.heap.size w w' := by
  have HV := hide h
  obtain ⟨ao, cap, rfl, hl, hm, hc⟩ := h
  clear hc hl hm
  unfold hullV
  have HB0 := hide (box3_alloc w (.int .i64 step) (.int .i64 rise) (.slice ao R.length cap) 35)
  have HW0 := hide (Below.alloc1 w (.cells #[.int .i64 step, .int .i64 rise, .slice ao R.length cap] 35))
  obtain ⟨xs, exs⟩ : ∃ xs, xs = strips step rise R c := ⟨_, rfl⟩
  have hxl : xs.length ≤ 11 := by rw [exs]; exact strips_len _ _ _ _
  have HXS := hide exs
  clear exs
  go_enter Try.func8, Try.ntmps8
  go_wp2_with fail
  refine (szHull_any step rise _ R _ ((unhide HV).below (unhide HW0))).mono ?_
  rintro e w1 ⟨r, rfl, hs, hb⟩
  have HB1 := hide ((unhide HB0).step hb)
  have HW1 := hide (Below.step (unhide HW0) hb)
  clear hb HB0 HW0
  obtain ⟨hr1, hr2, hr3⟩ := hs
  have HS := hide hr3
  clear hr3
  by_cases hneg : r < 0
  · go_wp2
    go_ret
    exact ⟨rfl, unhide HW1⟩
  obtain ⟨hsn, hsl⟩ := unhide HS (by omega)
  obtain ⟨c0, c1, c2⟩ := unhide HB1
  have HL := hide hsl
  clear hsl HS
  go_wp2_with fail
  refine (toHull_any step rise _ R _ ((unhide HV).below (unhide HW1)) hsn (unhide HL)).mono ?_
  rintro e w2 ⟨g2, G2, C2, rfl, ho, hb⟩
  have HO := hide ho
  have HB2 := hide ((unhide HB1).step hb)
  have HW2 := hide (Below.step (unhide HW1) hb)
  clear hb ho HB1 HW1 c0 c1 c2
  go_wp2_with fail
  refine (specStrips2_any step rise _ R c _ ((unhide HO).rowsIn (Nat.le_refl _) (by unfold maxLen; omega))).mono ?_
  rintro e w3 ⟨a0, n0, cap0, rfl, ho, hb⟩
  rw [← unhide HXS] at ho
  obtain ⟨en, _, _⟩ := ho.intsIn.len
  subst en
  obtain ⟨b0, hsl0, hb0⟩ := ho.at
  have HS3 := hide hsl0
  have HL3 : Hid (xs ≠ [] → b0 < w3.heap.size) := fun hne => (hb0 hne).2
  have HB3 := hide ((unhide HB2).step hb)
  have HW3 := hide (Below.step (unhide HW2) hb)
  clear hb ho hsl0 hb0 HO HB2 HW2
  obtain ⟨c0, c1, c2⟩ := unhide HB3
  go_wp2_with fail
  refine (toHull_any step rise _ R _ ((unhide HV).below (unhide HW3)) hsn (unhide HL)).mono ?_
  rintro e w4 ⟨g, G, C, rfl, ho, hb⟩
  have HO := hide ho
  have HB4 := hide ((unhide HB3).step hb)
  have HW4 := hide (Below.step (unhide HW3) hb)
  have HS4 := hide ((unhide HS3).below hb)
  have hz4 := hb.size
  have hz3 : w.heap.size < w3.heap.size := lt_of_cell c0
  clear hb ho HB3 HW3 HS3 c0 c1 c2
  obtain ⟨c0, c1, c2⟩ := unhide HB4
  go_wp2_with fail
  have HM := hide (box3_alloc w4 (.int .i64 step) (.int .i64 rise) (.slice (some ⟨g, 0, none⟩) R.length R.length) 26)
  have A5 := Below.alloc1 w4 (.cells #[.int .i64 step, .int .i64 rise, .slice (some ⟨g, 0, none⟩) R.length R.length] 26)
  have HO5 := hide ((unhide HO).below A5)
  have HB5 := hide ((unhide HB4).step A5)
  have HW5 := hide (Below.step (unhide HW4) A5)
  have HS5 := hide ((unhide HS4).below A5)
  have HG : Hid (∀ r, r < R.length → w3.heap.size ≤ G r ∧ G r < w4.heap.size) := fun r hr => ⟨((unhide HO).above r hr).1, ((unhide HO).rows r hr).lt⟩
  clear HO HB4 HW4 HS4 A5 c0 c1 c2
  refine (implStrips2_any step rise _ R c _ ((unhide HO5).rowsIn (Nat.le_refl _) (by unfold maxLen; omega))).mono ?_
  rintro e w6 ⟨a6, n6, cap6, rfl, ho, hb⟩
  rw [← unhide HXS] at ho
  obtain ⟨en, _, _⟩ := ho.intsIn.len
  subst en
  obtain ⟨b6, hsl6, hb6⟩ := ho.at
  have HQ6 := hide hsl6
  have HL6 : Hid (xs ≠ [] → w4.heap.size < b6) := fun hne => by have := (hb6 hne).1; simp at this; omega
  have HM6 := hide ((unhide HM).step hb)
  have HB6 := hide ((unhide HB5).step hb)
  have HO6 := hide ((unhide HO5).below hb)
  have HW6 := hide (Below.step (unhide HW5) hb)
  have HS6 := hide ((unhide HS5).below hb)
  clear hb ho hsl6 hb6 HM HO5 HB5 HW5 HS5
  go_wp2_with fail
  refine (eqIntS_any _ _ xs _ (unhide HQ6).intsIn (unhide HS6).intsIn).mono ?_
  rintro e w7 ⟨rfl, d7, hw7⟩
  have A7 : Below w6.heap.size w6 w7 := by rw [hw7]; exact below_drewN (Below.refl _ _) d7
  have HM7 := hide ((unhide HM6).step A7)
  have HB7 := hide ((unhide HB6).step A7)
  have HO7 := hide ((unhide HO6).below A7)
  have HW7 := hide (Below.step (unhide HW6) A7)
  have HS7 := hide ((unhide HS6).below A7)
  have HQ7 := hide ((unhide HQ6).below A7)
  clear hw7 A7 HM6 HB6 HO6 HW6 HS6 HQ6
  obtain ⟨c0, c1, c2⟩ := unhide HB7
  obtain ⟨d0, d1, d2⟩ := unhide HM7
  have HT := hide (toHull_any step rise _ R w7.drew ((unhide HV).below (unhide HW7).drew) hsn (unhide HL))
  have Hd : Hid (Below w7.heap.size w7 w7.drew) := (Below.refl _ _).drew
  go_wp2
  go_region_held3 (fun w' => w'.cell? ⟨w.heap.size, 0, none⟩ = some (.int .i64 step) ∧ w'.cell? ⟨w.heap.size, 1, none⟩ = some (.int .i64 rise) ∧ w'.cell? ⟨w.heap.size, 2, none⟩ = some (.slice ao R.length cap) ∧ w'.cell? ⟨w4.heap.size, 0, none⟩ = some (.int .i64 step) ∧ w'.cell? ⟨w4.heap.size, 1, none⟩ = some (.int .i64 rise) ∧ w'.cell? ⟨w4.heap.size, 2, none⟩ = some (.slice (some ⟨g, 0, none⟩) R.length R.length)) (go_keep) (first | (go_at_call 29; refine (unhide HT).mono ?_; rintro e w8 ⟨g8, G8, C8, rfl, ho8, hb8⟩; have A8 := hide (Below.step (unhide Hd) hb8); obtain ⟨e0, e1, e2⟩ := (unhide HB7).step (unhide A8); obtain ⟨f0, f1, f2⟩ := (unhide HM7).step (unhide A8); have HE := hide (eqHull_any step rise (.slice (some ⟨g, 0, none⟩) R.length R.length) (.slice (some ⟨g8, 0, none⟩) R.length R.length) R w8 (((unhide HO7).below (unhide A8)).rowsIn (Nat.le_refl _) (by unfold maxLen; omega)) (ho8.rowsIn (Nat.le_refl _) (by unfold maxLen; omega))); clear ho8 hb8) | (go_at_call 30; refine (unhide HE).mono ?_; rintro e w9 ⟨rfl, hb9⟩; have A9 := hide (Below.step (unhide A8) hb9); clear hb9; obtain ⟨e0', e1', e2'⟩ := (unhide HB7).step (unhide A9); obtain ⟨f0', f1', f2'⟩ := (unhide HM7).step (unhide A9)))
  have HO9 := hide ((unhide HO7).below (unhide A9))
  have HW9 := hide (Below.step (unhide HW7) (unhide A9))
  have HS9 := hide ((unhide HS7).below (unhide A9))
  have HQ9 := hide ((unhide HQ7).below (unhide A9))
  have HB9 := hide ((unhide HB7).step (unhide A9))
  have hz9 : w4.heap.size < w9.heap.size := lt_of_cell f0'
  clear HM7 HB7 HO7 HW7 HS7 HQ7 HT Hd c0 c1 c2 d0 d1 d2 A8 e0 e1 e2 f0 f1 f2 HE e0' e1' e2'
  go_wp2_with fail
  refine (markHull_any step rise _ g R.length G C R 1 w9 (unhide HO9) hsn (unhide HL) (by omega) (by omega)).mono ?_
  rintro e w10 ⟨rfl, hk10, _⟩
  have K10 : Below w3.heap.size w9 w10 := hk10.below (by omega) (fun b ⟨r, hr, e⟩ => by have := (unhide HG r hr).1; omega)
  have HW10 : Hid (Below w.heap.size w w10) := (unhide HW9).trans (K10.mono (by omega))
  have HS10 := hide ((unhide HS9).kept hk10 (fun hne ⟨r, hr, e⟩ => by have := (unhide HG r hr).1; have := unhide HL3 hne; omega))
  have HQ10 := hide ((unhide HQ9).kept hk10 (fun hne ⟨r, hr, e⟩ => by have := (unhide HG r hr).2; have := unhide HL6 hne; omega))
  have HB10 := hide ((unhide HB9).below K10 (by omega))
  have hz10 := hk10.size
  have hp := pre_le (unhide HL) R.length (Nat.le_refl _)
  clear hk10 K10 HW9 HS9 HQ9 HB9 HO9 f0' f1' f2'
  generalize pre R R.length = pl at *
  go_wp2_with fail
  refine (eqIntS_any _ _ xs _ (unhide HQ10).intsIn (unhide HS10).intsIn).mono ?_
  rintro e w11 ⟨rfl, d11, hw11⟩
  have A11 : Below w10.heap.size w10 w11 := by rw [hw11]; exact below_drewN (Below.refl _ _) d11
  have HB11 := hide ((unhide HB10).step A11)
  have HW11 := hide (Below.step (unhide HW10) A11)
  have HS11 := hide ((unhide HS10).below A11)
  have HQ11 := hide ((unhide HQ10).below A11)
  have hz11 := A11.size
  clear hw11 A11 HB10 HW10 HS10 HQ10
  go_wp2_with fail
  refine (markIntS_any a6 cap6 xs 1 b6 w11 (fun hne => (unhide HQ11).own hne) (by omega) (by omega) (by omega)).mono ?_
  rintro e w12 ⟨rfl, hk12, ho12⟩
  have K12 : Below w4.heap.size w11 w12 := hk12.below (by omega) (fun b ⟨e, hne⟩ => by have := unhide HL6 hne; omega)
  have HW12 : Hid (Below w.heap.size w w12) := (unhide HW11).trans (K12.mono (by omega))
  have HB12 := hide ((unhide HB11).below K12 (by omega))
  have HS12 := hide ((unhide HS11).kept hk12 (fun hne ⟨e, _⟩ => by have := unhide HL6 hne; have := unhide HL3 hne; omega))
  have HQ12 := hide ((unhide HQ11).marked ho12)
  have hd := heldIntS_any _ _ 1 w12 (unhide HQ12).intsIn (by rw [marks_len]) (by rw [marks_len]; omega) (by omega) (by omega)
  rw [marks_len] at hd
  have HD := hide hd
  clear hk12 ho12 K12 hd HB11 HW11 HS11 HQ11
  go_wp2_with fail
  refine (unhide HD).mono ?_
  rintro e w12' ⟨rfl, rfl⟩
  clear HD
  obtain ⟨c0, c1, c2⟩ := unhide HB12
  go_wp2_with fail
  refine (toHull_any step rise _ R _ ((unhide HV).below (unhide HW12)) hsn (unhide HL)).mono ?_
  rintro e w13 ⟨g13, G13, C13, rfl, ho, hb⟩
  have HO13 := hide ho
  have HW13 := hide (Below.step (unhide HW12) hb)
  have HS13 := hide ((unhide HS12).below hb)
  have HQ13 := hide ((unhide HQ12).below hb)
  clear hb ho HB12 HW12 HS12 HQ12 c0 c1 c2
  go_wp2_with fail
  refine (implStrips2_any step rise _ R c _ ((unhide HO13).rowsIn (Nat.le_refl _) (by unfold maxLen; omega))).mono ?_
  rintro e w14 ⟨a14, n14, cap14, rfl, ho, hb⟩
  rw [← unhide HXS] at ho
  have HI14 := hide ho.intsIn
  have HW14 := hide (Below.step (unhide HW13) hb)
  have HS14 := hide ((unhide HS13).below hb)
  have HQ14 := hide ((unhide HQ13).below hb)
  clear hb ho HO13 HW13 HS13 HQ13
  go_wp2_with fail
  refine (eqIntS_any _ _ xs _ (unhide HI14) (unhide HS14).intsIn).mono ?_
  rintro e w15 ⟨rfl, d15, hw15⟩
  have A15 : Below w14.heap.size w14 w15 := by rw [hw15]; exact below_drewN (Below.refl _ _) d15
  have HW15 := hide (Below.step (unhide HW14) A15)
  have hd := heldIntS_any _ _ 1 w15 ((unhide HQ14).below A15).intsIn (by rw [marks_len]) (by rw [marks_len]; omega) (by omega) (by omega)
  rw [marks_len] at hd
  have HD := hide hd
  clear hw15 A15 hd HI14 HW14 HS14 HQ14
  go_wp2_with fail
  refine (unhide HD).mono ?_
  rintro e w15' ⟨rfl, rfl⟩
  clear HD
  go_wp2
  go_ret
  exact ⟨rfl, unhide HW15⟩

end Go.Proofs.Ytepdlcobhoklfaa

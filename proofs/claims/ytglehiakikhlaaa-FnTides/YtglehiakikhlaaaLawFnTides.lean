/- FnTides: whatever the bytes, a harmonic that is 0 changes no height, one that does not turn adds its start, four quarters bring the first height back, and depths are heights and soundings. -/
import Derived.Test.YtglehiakikhlaaaFyB
import Derived.Test.YtglehiakikhlaaaTdB
import Derived.Test.YtglehiakikhlaaaTdD
import Derived.Test.YtglehiakikhlaaaTiA
import Derived.Test.YtglehiakikhlaaaTiB
import Derived.Test.YtglehiakikhlaaaTiC
import Derived.Test.YtglehiakikhlaaaTiD
import Derived.Test.YtglehiakikhlaaaTiJ
import Derived.Test.YtglehiakikhlaaaAtFix
import Derived.BigRegion
namespace Go.Proofs.Ytglehiakikhlaaa
open Go.RowKit

theorem own_nine {B : Nat} {A : World} {a : Option Addr} {n cp : Nat} {f : Nat → Nat} (h : OwnFls B A (.slice a n cp) (nine f)) (hf : ∀ i, i < 9 → ¬ fnan .f64 (f i)) :
    n = 9 ∧ 9 ≤ cp ∧ cp ≤ maxLen ∧ ∃ g, a = some ⟨g, 0, none⟩ ∧ B ≤ g ∧ OwnV A g ((nine f).map (Value.float .f64)) := by
  obtain ⟨ys, ⟨hl, hs⟩, ao, cap, e, h1, h2, h3⟩ := h
  rw [nine_len] at hl
  have ey : ys = nine f := by
    apply List.ext_getElem
    · rw [hl, nine_len]
    · intro i hi hi'
      have hi9 : i < 9 := by omega
      have h := hs i hi
      rw [nine_at f hi9] at h
      have e1 : ys.getD i 0 = ys[i] := by simp [List.getD, hi]
      have e2 : (nine f)[i]'hi' = f i := by simp [nine]
      rw [e1] at h
      refine Eq.trans ?_ e2.symm
      rcases h with h | ⟨_, h⟩
      · exact h
      · exact absurd h (hf i hi9)
  subst ey
  simp only [Value.slice.injEq] at e
  obtain ⟨rfl, hn, rfl⟩ := e
  rw [nine_len] at hn h1
  obtain ⟨g, e, hg, ho⟩ := h3 (by simp [nine, List.range_succ])
  exact ⟨hn, h1, h2, g, e, hg, ho⟩
theorem nine_cell {A : World} {g : Nat} {f : Nat → Nat} (h : OwnV A g ((nine f).map (Value.float .f64))) {i : Nat} (hi : i < 9) : A.cell? ⟨g, i, none⟩ = some (.float .f64 (f i)) := h.cell (by simp [nine, hi])
theorem nine_flIn {A : World} {g cp : Nat} {f : Nat → Nat} (h : OwnV A g ((nine f).map (Value.float .f64))) (h1 : 9 ≤ cp) (h2 : cp ≤ maxLen) : FlIn A (.slice (some ⟨g, 0, none⟩) 9 cp) (nine f) := by
  have := OwnV.flIn (xs := nine f) (cap := cp) h (by rw [nine_len]; exact h1) h2
  rw [nine_len] at this
  exact this
theorem tideOf_flat (mn x y : Nat) : tideOf mn (flatL x y) 9 = nine (hF mn x y) := by
  unfold tideOf
  rw [if_pos (by simp [tideOk, flatL, inB])]
  rfl
theorem tideOf_turn (mn x y : Nat) : tideOf mn (turnL x y) 9 = nine (hT mn x y) := by
  unfold tideOf
  rw [if_pos (by simp [tideOk, turnL, inB])]
  rfl
theorem depths_nine (f : Nat → Nat) (s : Nat) : depthsOf (nine f) s = nine (fun i => fop .add .f64 (f i) s) := by
  unfold depthsOf
  rw [if_pos (by rw [nine_len]; omega)]
  simp [nine]
theorem keel_nine (f : Nat → Nat) (d q l : Nat) : keelOf (nine f) d q l = (List.range 9).map (fun i => keelAt d q l (f i)) := by
  unfold keelOf
  rw [if_pos (by rw [nine_len]; omega)]
  simp [nine]
theorem own_keel {B : Nat} {A : World} {a : Option Addr} {n cp : Nat} {f : Nat → Bool} (h : OwnBo B A (.slice a n cp) ((List.range 9).map f)) :
    n = 9 ∧ ∃ g, a = some ⟨g, 0, none⟩ ∧ B ≤ g ∧ OwnV A g (((List.range 9).map f).map Value.bool) := by
  obtain ⟨ao, cap, e, h1, h2, h3⟩ := h
  simp only [Value.slice.injEq] at e
  obtain ⟨rfl, hn, rfl⟩ := e
  obtain ⟨g, e, hg, ho⟩ := h3 (by simp [List.range_succ])
  exact ⟨by simpa using hn, g, e, hg, ho⟩
theorem keel_cell {A : World} {g : Nat} {f : Nat → Bool} (h : OwnV A g (((List.range 9).map f).map Value.bool)) {i : Nat} (hi : i < 9) : A.cell? ⟨g, i, none⟩ = some (.bool (f i)) := h.cell (by simp [hi])

/-- The two lists of harmonics as cells. -/
theorem flat_cells (x y : Nat) : recCells 4 eH (flatL x y) = [.float .f64 x, .float .f64 y, .float .f64 one64, .float .f64 0, .float .f64 0, .float .f64 0, .float .f64 0, .float .f64 0] := by simp [recCells, flatL, List.range, List.range.loop, eH]
theorem turn_cells (x y : Nat) : recCells 4 eH (turnL x y) = [.float .f64 x, .float .f64 y, .float .f64 0, .float .f64 one64] := by simp [recCells, turnL, List.range, List.range.loop, eH]

abbrev ten64 : Nat := 4621819117588971520
abbrev eight64 : Nat := 4620693217682128896
abbrev squat64 : Nat := 4604930618986332160
theorem squat_ok : squatOk ten64 half5 four64 eight64 = true := by decide +kernel
theorem squat_of : squatOf ten64 half5 four64 eight64 = squat64 := by decide +kernel
theorem isD_squat : isD squat64 3 := ⟨false, 51, by decide +kernel, fun _ => rfl⟩

attribute [local go_sem] run_store_float

set_option maxRecDepth 10000 in
set_option maxHeartbeats 16000000 in
theorem fnTides_any (v : Value) (nb : Nat) (w : World) (h : BytesIn w.heap.size w v nb) :
    Calls Try.prog 4 #[v] w fun e w' => e = .returned (.bool true) ∧ Below w.heap.size w w' := by
  have HB := hide h
  obtain ⟨vao, vcap, rfl, hl, hm, _⟩ := h
  unfold maxLen at hm
  by_cases hbig : (1048576 : Int) < (nb : Int)
  · go_enter Try.func4, Try.ntmps4
    go_wp2_with fail
    refine (big_any _ _ _ _).mono ?_
    rintro e w' ⟨rfl, rfl⟩
    go_wp2
    go_ret
    exact ⟨rfl, Below.refl _ _⟩
  have hn : nb ≤ 1048576 := by omega
  obtain ⟨y0, y00, y01, at0⟩ := at_fix _ nb 0 w (unhide HB) hn (by omega)
  obtain ⟨y1, y10, y11, at1⟩ := at_fix _ nb 1 w (unhide HB) hn (by omega)
  obtain ⟨y2, y20, y21, at2⟩ := at_fix _ nb 2 w (unhide HB) hn (by omega)
  have AT0 := hide at0
  have AT1 := hide at1
  have AT2 := hide at2
  clear at0 at1 at2
  obtain ⟨b0, eb0⟩ := Int.eq_ofNat_of_zero_le y00
  have hq := quarter (b := b0) (by omega)
  rw [← eb0] at hq
  have hS : TiS (floatOfInt .f64 y1) (floatOfInt .f64 y2) y1 y2 := ⟨isI_int .f64 y1 (by omega), isI_int .f64 y2 (by omega), y10, y11, y20, y21⟩
  obtain ⟨f0, ef0⟩ : ∃ z, floatOfInt .f64 (y0 - 128) = z := ⟨_, rfl⟩
  obtain ⟨x, ex⟩ : ∃ z, floatOfInt .f64 y1 = z := ⟨_, rfl⟩
  obtain ⟨y, ey⟩ : ∃ z, floatOfInt .f64 y2 = z := ⟨_, rfl⟩
  rw [ef0] at hq
  rw [ex, ey] at hS
  obtain ⟨hq1, hq2⟩ := hq
  generalize fop .quo .f64 f0 four64 = mn at *
  have rq : ∀ V, (binOp .quo 25 (.float .f64 f0) (.float .f64 4616189618054758400)).run Try.prog V = .ok (.float .f64 mn) V := fun V => run_float_arith V .quo 25 .f64 f0 four64 mn hq1
  have HMN := hide hq2
  have HS := hide hS
  clear hq1 hq2 hS eb0 b0
  have w0 : IntKind.i64.wrap (y0 - 128) = y0 - 128 := by rw [IntKind.wrap_i64]; omega
  have HW0 := hide (Below.refl w.heap.size w)
  go_enter Try.func4, Try.ntmps4
  go_wp2_with fail
  refine (big_any _ _ _ _).mono ?_
  rintro e w' ⟨rfl, rfl⟩
  go_wp2_with fail
  refine (unhide AT0 _ (Below.refl _ _)).mono ?_
  rintro e w1 ⟨rfl, h9⟩
  have h8 := h9.symm
  subst h8
  clear h9
  go_wp2_with fail
  refine (unhide AT1 _ (by first | exact Below.refl _ _ | exact Below.alloc1 _ _)).mono ?_
  rintro e w1 ⟨rfl, h9⟩
  have h8 := h9.symm
  subst h8
  clear h9
  go_wp2_with fail
  refine (unhide AT2 _ (by first | exact Below.refl _ _ | exact Below.alloc1 _ _)).mono ?_
  rintro e w1 ⟨rfl, h9⟩
  have h8 := h9.symm
  subst h8
  clear h9
  have hM0 : -128 ≤ y0 - 128 := by omega
  have hM1 : y0 - 128 ≤ 127 := by omega
  have A1 := Below.step (Below.alloc1 w (.cells #[.float .f64 x, .float .f64 y] 37)) (Below.alloc1 _ (.cells #[.float .f64 x, .float .f64 y, .float .f64 4607182418800017408, .float .f64 0, .float .f64 0, .float .f64 0, .float .f64 0, .float .f64 0] 41))
  have hO1 := ownV_alloc (w.alloc (.cells #[.float .f64 x, .float .f64 y] 37)) #[.float .f64 x, .float .f64 y, .float .f64 4607182418800017408, .float .f64 0, .float .f64 0, .float .f64 0, .float .f64 0, .float .f64 0] 41
  simp only [World.size_alloc] at hO1
  have hBx := (ownV_alloc w #[.float .f64 x, .float .f64 y] 37).alloc (.cells #[.float .f64 x, .float .f64 y, .float .f64 4607182418800017408, .float .f64 0, .float .f64 0, .float .f64 0, .float .f64 0, .float .f64 0] 41)
  have HT1 := hide (implTideDay_any (.slice (some ⟨w.heap.size + 1, 0, none⟩) 2 2) mn (flatL x y) 9 _ (OwnV.recsIn (n := 4) (enc := eH) (L := flatL x y) (g := w.heap.size + 1) (cap := 2) (by rw [flat_cells]; exact hO1) (Nat.le_refl _) (by unfold maxLen; omega)))
  rw [tideOf_flat, show tideOk (flatL x y) 9 = true by simp [tideOk, flatL, inB]] at HT1
  have HW := hide A1
  have HBx := hide hBx
  clear A1 hO1 hBx HW0
  go_wp2_with fail
  refine (unhide HT1).mono ?_
  rintro e w1 ⟨a1, n1, c1, rfl, ho, hb⟩
  have HF := hide fun i => hF_isD (unhide HMN) hM0 hM1 (unhide HS) i
  have HT := hide fun i => hT_isD (unhide HMN) hM0 hM1 (unhide HS) i
  obtain ⟨rfl, hc1, hc1', g1, rfl, hg1, hO1⟩ := own_nine ho (fun i _ => (unhide HF i).notnan)
  have HO1 := hide hO1
  replace HW := hide (Below.step (unhide HW) hb)
  replace HBx := hide (OwnV.step (unhide HBx) hb)
  have hz1 := hb.size
  clear ho hb HT1 hO1
  have A2 := Below.alloc1 w1 (.cells #[.float .f64 x, .float .f64 y, .float .f64 0, .float .f64 4607182418800017408] 41)
  have hO2 := ownV_alloc w1 #[.float .f64 x, .float .f64 y, .float .f64 0, .float .f64 4607182418800017408] 41
  have HT2 := hide (implTideDay_any (.slice (some ⟨w1.heap.size, 0, none⟩) 1 1) mn (turnL x y) 9 _ (OwnV.recsIn (n := 4) (enc := eH) (L := turnL x y) (g := w1.heap.size) (cap := 1) (by rw [turn_cells]; exact hO2) (Nat.le_refl _) (by unfold maxLen; omega)))
  rw [tideOf_turn, show tideOk (turnL x y) 9 = true by simp [tideOk, turnL, inB]] at HT2
  have b0 := (unhide HBx).cell (i := 0) rfl
  have b1 := (unhide HBx).cell (i := 1) rfl
  replace HW := hide (Below.step (unhide HW) A2)
  replace HBx := hide (OwnV.step (unhide HBx) A2)
  replace HO1 := hide (OwnV.step (unhide HO1) A2)
  clear A2 hO2
  go_wp2_with fail
  refine (unhide HT2).mono ?_
  rintro e w2 ⟨a2, n2, c2, rfl, ho, hb⟩
  obtain ⟨rfl, hc2, hc2', g2, rfl, hg2, hO2⟩ := own_nine ho (fun i _ => (unhide HT i).notnan)
  have HO2 := hide hO2
  replace HW := hide (Below.step (unhide HW) hb)
  replace HBx := hide (OwnV.step (unhide HBx) hb)
  replace HO1 := hide (OwnV.step (unhide HO1) hb)
  clear ho hb HT2 hO2 b0 b1 hg1 hg2 hz1 HB AT0 AT1 AT2
  have b0 := (unhide HBx).cell (i := 0) rfl
  have b1 := (unhide HBx).cell (i := 1) rfl
  go_wp2
  go_loopg [9] 9 (fun g i wr => (∃ q, wr = w2.drewN q) ∧ ∃ k : Nat, k ≤ 9 ∧ g = 9 - k ∧ i = .int .i64 k)
  case atStart => exact ⟨⟨0, rfl⟩, 0, by omega, rfl, rfl⟩
  case round =>
    obtain ⟨⟨q, hq⟩, k, hk, rfl, rfl⟩ := hrel
    have HQ := hide hq
    by_cases hk9 : k < 9
    · obtain ⟨j, ej⟩ : ∃ j, j = k % 4 := ⟨_, rfl⟩
      obtain ⟨l, el⟩ : ∃ l, l = (k + 2) % 4 := ⟨_, rfl⟩
      obtain ⟨m, em⟩ : ∃ m, m = k + 2 := ⟨_, rfl⟩
      have cF : wr.cell? ⟨g1, k, none⟩ = some (.float .f64 (hF mn x y k)) := by rw [hq]; exact nine_cell (unhide HO1) hk9
      have cT : wr.cell? ⟨g2, k, none⟩ = some (.float .f64 (hT mn x y k)) := by rw [hq]; exact nine_cell (unhide HO2) hk9
      have cJ : wr.cell? ⟨g2, j, none⟩ = some (.float .f64 (hT mn x y j)) := by rw [hq]; exact nine_cell (unhide HO2) (by omega)
      have cL : wr.cell? ⟨g2, l, none⟩ = some (.float .f64 (hT mn x y l)) := by rw [hq]; exact nine_cell (unhide HO2) (by omega)
      have b0' : wr.cell? ⟨w.heap.size, 0, none⟩ = some (.float .f64 x) := by rw [hq]; exact b0
      have dF := unhide HF k
      have dT := unhide HT k
      have dJ := unhide HT j
      have dL := unhide HT l
      have hJ : (rot y1 y2 j).1 = (rot y1 y2 k).1 := by rw [ej, rot_mod]
      have hL : (rot y1 y2 l).1 = -(rot y1 y2 k).1 := by have := rot_two y1 y2 k; rw [el, rot_mod]; omega
      rw [hJ] at dJ
      rw [hL] at dL
      have rb := rot_bd (unhide HS) k
      generalize (rot y1 y2 k).1 = rk at *
      generalize hF mn x y k = p at *
      generalize hT mn x y k = t at *
      generalize hT mn x y j = tj at *
      generalize hT mn x y l = tl at *
      have a0 := (unhide HMN).fop_add ((unhide HS).hx.up (by omega)) (by omega)
      have a1 := dT.fop_add dL (by omega)
      have a2 := isD.fop_twice w_2 (unhide HMN) (by omega)
      generalize fop .add .f64 mn x = s0 at *
      generalize fop .add .f64 t tl = s1 at *
      generalize fop .mul .f64 two64 mn = s2 at *
      have r0 : ∀ V, (binOp .add 25 (.float .f64 mn) (.float .f64 x)).run Try.prog V = .ok (.float .f64 s0) V := fun V => run_float_arith V .add 25 .f64 mn x s0 a0.1
      have r1 : ∀ V, (binOp .add 25 (.float .f64 t) (.float .f64 tl)).run Try.prog V = .ok (.float .f64 s1) V := fun V => run_float_arith V .add 25 .f64 t tl s1 a1.1
      have r2 : ∀ V, (binOp .mul 25 (.float .f64 4611686018427387904) (.float .f64 mn)).run Try.prog V = .ok (.float .f64 s2) V := fun V => run_float_arith V .mul 25 .f64 two64 mn s2 a2.1
      have o0 : FloatKind.f64.format.order p s0 = some .eq := by rw [dF.order a0.2]; simp
      have o1 : FloatKind.f64.format.order t tj = some .eq := by rw [dT.order dJ]; simp
      have o2 : FloatKind.f64.format.order s1 s2 = some .eq := by rw [a1.2.order a2.2, show y0 - 128 + 4 * rk + (y0 - 128 + 4 * -rk) = 2 * (y0 - 128) by omega]; simp
      have e4 : (k : Int) % 4 = (j : Int) := by omega
      have q2 : IntKind.i64.wrap ((k : Int) + 2) = (m : Int) := by rw [IntKind.wrap_i64]; omega
      have e5 : (m : Int) % 4 = (l : Int) := by omega
      have i1 : (j : Int) < 9 := by omega
      have i2 : (l : Int) < 9 := by omega
      have i3 : (k : Int) < 9 := by omega
      clear dF dT dJ dL hJ hL rb a0 a1 a2 ej el em hq
      go_wp2
      go_quiet (fail)
      go_wp2
      go_roundg (9 - (k + 1))
      case measure => omega
      case rel => exact ⟨⟨_, by rw [unhide HQ]; exact World.drewN_drewN _ _ _⟩, k + 1, by omega, rfl, by go_num⟩
    · have hkk : k = 9 := by omega
      subst hkk
      clear hq
      have HWr : Hid (Below w.heap.size w wr) := by rw [unhide HQ]; exact hide (below_drewN (unhide HW) _)
      have HO2r : Hid (OwnV wr g2 ((nine (hT mn x y)).map (Value.float .f64))) := by rw [unhide HQ]; exact hide ((unhide HO2).drewN _)
      have HBr : Hid (OwnV wr w.heap.size [.float .f64 x, .float .f64 y]) := by rw [unhide HQ]; exact hide ((unhide HBx).drewN _)
      have hD : ∀ i, isD (fop .add .f64 (hT mn x y i) three64) (y0 - 128 + 4 * (rot y1 y2 i).1 + 12) ∧ floatBits .add .f64 (hT mn x y i) three64 = some (fop .add .f64 (hT mn x y i) three64) := fun i => by
        have rb := rot_bd (unhide HS) i
        have a := (unhide HT i).fop_add (w_3.up (by omega)) (by omega)
        exact ⟨a.2, a.1⟩
      have HD := hide hD
      have HDD := hide (implDepths_any (.slice (some ⟨g2, 0, none⟩) 9 c2) (nine (hT mn x y)) three64 wr (nine_flIn (unhide HO2r) hc2 hc2'))
      rw [depths_nine] at HDD
      clear hD HQ HW HO2 HBx HO1 HF b0 b1
      go_wp2_with fail
      refine (unhide HDD).mono ?_
      rintro e w3 ⟨a3, n3, c3, rfl, ho, hb⟩
      obtain ⟨rfl, hc3, hc3', g3, rfl, hg3, hO3⟩ := own_nine ho (fun i _ => (unhide HD i).1.notnan)
      have HO3 := hide hO3
      replace HWr := hide (Below.step (unhide HWr) hb)
      replace HO2r := hide (OwnV.step (unhide HO2r) hb)
      replace HBr := hide (OwnV.step (unhide HBr) hb)
      have HKK := hide (implUnderKeel_any (.slice (some ⟨g3, 0, none⟩) 9 c3) _ one64 half5 two64 w3 (nine_flIn hO3 hc3 hc3'))
      rw [keel_nine] at HKK
      clear ho hb HDD hO3 hg3
      go_wp2_with fail
      refine (unhide HKK).mono ?_
      rintro e w4 ⟨a4, n4, c4, rfl, ho, hb⟩
      obtain ⟨rfl, g4, rfl, hg4, hO4⟩ := own_keel ho
      have HO4 := hide hO4
      replace HWr := hide (Below.step (unhide HWr) hb)
      replace HO2r := hide (OwnV.step (unhide HO2r) hb)
      replace HO3 := hide (OwnV.step (unhide HO3) hb)
      replace HBr := hide (OwnV.step (unhide HBr) hb)
      have HHL := hide (implHighLowP_any (.slice (some ⟨g2, 0, none⟩) 9 c2) (nine (hT mn x y)) w4 (nine_flIn (unhide HO2r) hc2 hc2') (by rw [nine_len]; omega))
      clear ho hb HKK hO4 hg4
      go_wp2_with fail
      refine (unhide HHL).mono ?_
      rintro e w5 ⟨a5, n5, c5, rfl, hn5, hb⟩
      have HN5 : Hid (¬ (y1 = 0 ∧ y2 = 0) → 0 < n5) := fun hz => by rw [hn5]; exact turned_high (unhide HMN) hM0 hM1 (unhide HS) hz
      replace HWr := hide (Below.step (unhide HWr) hb)
      replace HO2r := hide (OwnV.step (unhide HO2r) hb)
      replace HO3 := hide (OwnV.step (unhide HO3) hb)
      replace HO4 := hide (OwnV.step (unhide HO4) hb)
      replace HBr := hide (OwnV.step (unhide HBr) hb)
      clear hb hn5 HHL
      go_wp2
      go_loopg [13] 9 (fun g i wr => (∃ q, wr = w5.drewN q) ∧ ∃ k : Nat, k ≤ 9 ∧ g = 9 - k ∧ i = .int .i64 k)
      case atStart => exact ⟨⟨0, rfl⟩, 0, by omega, rfl, rfl⟩
      case round =>
        obtain ⟨⟨q', hq⟩, k, hk, rfl, rfl⟩ := hrel
        generalize wr = wq at *
        have HQ := hide hq
        by_cases hk9 : k < 9
        · have cD : wq.cell? ⟨g3, k, none⟩ = some (.float .f64 (fop .add .f64 (hT mn x y k) three64)) := by rw [hq]; exact nine_cell (unhide HO3) hk9
          have cT : wq.cell? ⟨g2, k, none⟩ = some (.float .f64 (hT mn x y k)) := by rw [hq]; exact nine_cell (unhide HO2r) hk9
          have cK : wq.cell? ⟨g4, k, none⟩ = some (.bool (keelAt one64 half5 two64 (fop .add .f64 (hT mn x y k) three64))) := by rw [hq]; exact keel_cell (unhide HO4) hk9
          obtain ⟨dD, fD⟩ := unhide HD k
          have rb := rot_bd (unhide HS) k
          generalize (rot y1 y2 k).1 = rk at *
          generalize hT mn x y k = t at *
          generalize fop .add .f64 t three64 = dk at *
          have a1 := dD.fop_sub (w_1.up (by omega)) (by omega)
          have a2 := a1.2.fop_sub d_half (by omega)
          unfold keelAt at cK
          generalize fop .sub .f64 dk one64 = u1 at *
          generalize fop .sub .f64 u1 half5 = u2 at *
          have r0 : ∀ V, (binOp .add 25 (.float .f64 t) (.float .f64 4613937818241073152)).run Try.prog V = .ok (.float .f64 dk) V := fun V => run_float_arith V .add 25 .f64 t three64 dk fD
          have r1 : ∀ V, (binOp .sub 25 (.float .f64 dk) (.float .f64 4607182418800017408)).run Try.prog V = .ok (.float .f64 u1) V := fun V => run_float_arith V .sub 25 .f64 dk one64 u1 a1.1
          have r2 : ∀ V, (binOp .sub 25 (.float .f64 u1) (.float .f64 4602678819172646912)).run Try.prog V = .ok (.float .f64 u2) V := fun V => run_float_arith V .sub 25 .f64 u1 half5 u2 a2.1
          have o0 : FloatKind.f64.format.order dk dk = some .eq := by rw [dD.order dD]; simp
          have i3 : (k : Int) < 9 := by omega
          clear dD fD rb a1 a2 hq
          cases hge : geF u2 two64
          all_goals
            rw [hge] at cK
            unfold geF at hge
            go_wp2
            go_quiet (fail)
            go_wp2
            go_roundg (9 - (k + 1))
            case measure => omega
            case rel => exact ⟨⟨_, by rw [unhide HQ]; exact World.drewN_drewN _ _ _⟩, k + 1, by omega, rfl, by go_num⟩
        · have hkk : k = 9 := by omega
          subst hkk
          have HWq : Hid (Below w.heap.size w wq) := by rw [unhide HQ]; exact hide (below_drewN (unhide HWr) _)
          have HBq : Hid (OwnV wq w.heap.size [.float .f64 x, .float .f64 y]) := by rw [unhide HQ]; exact hide ((unhide HBr).drewN _)
          have HSQ := hide (implSquat_any ten64 half5 four64 eight64 (by decide) (by decide) (by decide) (by decide) wq)
          rw [squat_ok, squat_of] at HSQ
          clear hq
          go_wp2_with fail
          refine (unhide HSQ).mono ?_
          rintro e w6 ⟨r, rfl, hr, hb⟩
          obtain rfl : r = squat64 := (isD_squat).same hr
          have HW6 := hide (Below.step (unhide HWq) hb)
          have hB6 := OwnV.step (unhide HBq) hb
          have b0 := hB6.cell (i := 0) rfl
          have b1 := hB6.cell (i := 1) rfl
          have os : FloatKind.f64.format.order 4604930618986332160 4604930618986332160 = some .eq := by decide +kernel
          have ox : FloatKind.f64.format.order x 0 = some (compare y1 0) := (unhide HS).hx.order w_0
          have oy : FloatKind.f64.format.order y 0 = some (compare y2 0) := (unhide HS).hy.order w_0
          clear hb hr HSQ hB6
          by_cases hz : y1 = 0 ∧ y2 = 0
          · obtain ⟨hz1, hz2⟩ := hz
            rw [hz1] at ox
            rw [hz2] at oy
            have ox' : FloatKind.f64.format.order x 0 = some .eq := by rw [ox]; simp
            have oy' : FloatKind.f64.format.order y 0 = some .eq := by rw [oy]; simp
            clear ox oy hz1 hz2
            go_wp2
            first | (go_quiet (fail); go_wp2) | skip
            go_ret
            exact ⟨rfl, by first | exact unhide HW6 | exact below_drewN (unhide HW6) _⟩
          · have hp := unhide HN5 hz
            have dp : decide ((0 : Int) < (n5 : Int)) = true := by simp; omega
            have dp' : decide (0 < n5) = true := by simp; omega
            by_cases hz1 : y1 = 0
            · have hz2 : 0 < y2 := by omega
              have ox' : FloatKind.f64.format.order x 0 = some .eq := by rw [ox, hz1]; simp
              have oy' : FloatKind.f64.format.order y 0 = some .gt := by rw [oy, Int.compare_eq_gt.2 hz2]
              clear ox oy hz
              go_wp2
              first | (go_quiet (fail); go_wp2) | skip
              go_ret
              exact ⟨rfl, by first | exact unhide HW6 | exact below_drewN (unhide HW6) _⟩
            · have ox' : FloatKind.f64.format.order x 0 = some .gt := by rw [ox, Int.compare_eq_gt.2 (by omega)]
              clear ox oy hz
              go_wp2
              first | (go_quiet (fail); go_wp2) | skip
              go_ret
              exact ⟨rfl, by first | exact unhide HW6 | exact below_drewN (unhide HW6) _⟩

end Go.Proofs.Ytglehiakikhlaaa

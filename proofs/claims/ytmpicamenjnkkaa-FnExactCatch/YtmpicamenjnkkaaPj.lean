/- Laid together out of: ChR, ChT, ImA, ImB, ImChartOk. -/
import Derived.Test.YtmpicamenjnkkaaPi
import Derived.Test.YtmpicamenjnkkaaPd

/- The specification's l6Note, every kind; a chart that l6Copy made. -/
namespace Go.Proofs.Ytmpicamenjnkkaa
open Go.RowKit

theorem l6Note_any (B U : Nat) (c : Ch) (k id x y d : Int) (t : ByteArray) (so : Int) (da : Option Addr) (dk : Nat) (gf : Nat) (fk : Nat) (W : World) (h : OwnCh B U W da dk (some ⟨gf, 0, none⟩) fk c.D c.F (recCells 5 eFeature c.F)) (hw : 1 ≤ c.wd ∧ c.wd ≤ 12) (hh : 1 ≤ c.hg ∧ c.hg ≤ 12) (hl : (c.D.length : Int) = c.wd * c.hg) (hF : c.F.length ≤ 30) :
    Calls Try.prog 70 #[vChart c.wd c.hg (.slice da c.D.length dk) (.slice (some ⟨gf, 0, none⟩) c.F.length fk) c.ed, vNote k id x y d t so] W fun e W' => NoteAns B da dk gf W W' e (noteOf c (k, id, x, y, d, t, so)) := by
  by_cases h1 : k = 1
  · subst h1; exact l6NoteAdd_any B U c id x y d t so da dk gf fk W h hw hh
  by_cases h2 : k = 2
  · subst h2; exact l6NoteDrop_any B U c id x y d t so da dk gf fk W h hF
  by_cases h3 : k = 3
  · subst h3; exact l6NoteMove_any B U c id x y d t so da dk gf fk W h hw hh
  by_cases h4 : k = 4
  · subst h4; exact l6NoteDepth_any B U c id x y d t so da dk gf fk W h hw hh hl
  exact l6NoteOther_any B U c k id x y d t so da dk gf fk W h h1 h2 h3 h4

theorem cown_ch {B g1 k1 g2 k2 : Nat} {w : World} {D : List Int} {F : List FeatureT} (h : COwn B w (.slice (some ⟨g1, 0, none⟩) D.length k1) (.slice (some ⟨g2, 0, none⟩) F.length k2) D F) : OwnCh B w.heap.size w (some ⟨g1, 0, none⟩) k1 (some ⟨g2, 0, none⟩) k2 D F (recCells 5 eFeature F) := by
  obtain ⟨⟨_, hd⟩, ⟨_, hf⟩, ap⟩ := h
  rcases hd with ⟨e, _⟩ | ⟨a1, b1, cur1, hv1, hg1, hh1, hc1, hm1, hs1, ht1⟩
  · simp at e
  rcases hf with ⟨e, _⟩ | ⟨a2, b2, cur2, hv2, hg2, hh2, hc2, hm2, hs2, ht2⟩
  · simp at e
  simp only [Value.slice.injEq, Option.some.injEq, Addr.mk.injEq, and_true, true_and] at hv1 hv2
  obtain ⟨rfl, rfl⟩ := hv1
  obtain ⟨rfl, rfl⟩ := hv2
  refine ⟨⟨hc1, hm1, hc2, hm2⟩, g1, g2, hg1, (Array.getElem?_eq_some_iff.1 hh1).1, hg2, (Array.getElem?_eq_some_iff.1 hh2).1, fun e => ap g1 rfl (by rw [e]; rfl), Nat.le_refl _, fun _ => ⟨rfl, cur1, _, hh1, fun i hi => ?_⟩, fun _ => ⟨rfl, cur2, _, hh2, fun i hi => ?_⟩⟩
  · rw [ints_length] at hi
    rw [← ht1, List.getElem?_take, if_pos (by omega)]
    simp
  · rw [recCells_length] at hi
    rw [← ht2, List.getElem?_take, if_pos hi]
    simp

end Go.Proofs.Ytmpicamenjnkkaa

/- The specification's l6Copy: neither list of the copy is nil. -/
namespace Go.Proofs.Ytmpicamenjnkkaa
open Go.RowKit

set_option maxRecDepth 10000 in
set_option maxHeartbeats 4000000 in
theorem l6Copy_own (wd hg ed : Int) (dao : Option Addr) (dn dc : Nat) (fao : Option Addr) (fn fc : Nat) (D : List Int) (F : List FeatureT) (w : World) (hD : IntsIn w (.slice dao dn dc) D) (hF : RFeature w (.slice fao fn fc) F) (hsD : D.length ≤ 1048576) (hsF : F.length ≤ 1048576) :
    Calls Try.prog 69 #[vChart wd hg (.slice dao dn dc) (.slice fao fn fc) ed] w fun e w' => ∃ g1 k1 g2 k2, e = .returned (vChart wd hg (.slice (some ⟨g1, 0, none⟩) D.length k1) (.slice (some ⟨g2, 0, none⟩) F.length k2) ed) ∧ OwnCh w.heap.size w'.heap.size w' (some ⟨g1, 0, none⟩) k1 (some ⟨g2, 0, none⟩) k2 D F (recCells 5 eFeature F) ∧ Below w.heap.size w w' ∧ g1 < w'.heap.size ∧ g2 < w'.heap.size := by
  obtain ⟨dao', dc', eD, hdl, hdm, hdc⟩ := hD
  obtain ⟨fao', fc', eF, hfl, hfm, hfc⟩ := hF
  simp only [Value.slice.injEq] at eD eF
  obtain ⟨rfl, rfl, rfl⟩ := eD
  obtain ⟨rfl, rfl, rfl⟩ := eF
  unfold maxLen at hdm hfm
  have HH := hide (b2_new w #[.int .i64 wd, .int .i64 hg, .slice dao D.length dc, .slice fao F.length fc, .int .i64 ed] #[.int .i64 0, .int .i64 0, .slice none 0 0, .slice none 0 0, .int .i64 0] 27 27 (.cells #[] 3))
  obtain ⟨i0, hi, hz0, hz1, hz2⟩ := info_parts Try.infoInt6'
  obtain ⟨i1, hi', hy0, hy1, hy2⟩ := info_parts Try.infoFeature
  obtain ⟨W3, eW⟩ : ∃ z, z = ((w.alloc (.cells #[.int .i64 wd, .int .i64 hg, .slice dao D.length dc, .slice fao F.length fc, .int .i64 ed] 27)).alloc (.cells #[.int .i64 0, .int .i64 0, .slice none 0 0, .slice none 0 0, .int .i64 0] 27)).alloc (.cells #[] 3) := ⟨_, rfl⟩
  have hR0 : W3.ownsRow (w.heap.size + 1 + 1) 3 1 (.slice (some ⟨w.heap.size + 1 + 1, 0, none⟩) 0 0) 0 [] := by
    rw [eW]
    have h := Go.Deep.blk_alloc_new ((w.alloc (.cells #[.int .i64 wd, .int .i64 hg, .slice dao D.length dc, .slice fao F.length fc, .int .i64 ed] 27)).alloc (.cells #[.int .i64 0, .int .i64 0, .slice none 0 0, .slice none 0 0, .int .i64 0] 27)) (.cells #[] 3)
    simp only [World.size_alloc] at h
    exact ⟨rfl, Or.inr ⟨w.heap.size + 1 + 1, 0, #[], rfl, Nat.le_refl _, h, Nat.le_refl _, Nat.zero_le _, rfl, rfl⟩⟩
  have hz3 : W3.heap.size = w.heap.size + 1 + 1 + 1 := by rw [eW]; simp
  rw [← eW] at HH
  have HR0 := hide hR0
  have HN1 : Hid (D.length ≠ 0 → ∃ ad, dao = some ad ∧ ∀ j u, (ints D)[j]? = some u → W3.cell? (ad.add j) = some u) := fun h => by
    obtain ⟨b, o, rfl, _⟩ := hdc 0 (by omega)
    refine ⟨_, rfl, fun j u hu => ?_⟩
    have hj : j < D.length := by
      have := (List.getElem?_eq_some_iff.1 hu).1
      rwa [ints_length] at this
    obtain ⟨b', o', e', hc⟩ := hdc j hj
    simp only [Option.some.injEq, Addr.mk.injEq, and_true] at e'
    obtain ⟨rfl, rfl⟩ := e'
    rw [ints_get D hj] at hu
    rw [Go.WideShapes.add_plain, ← hu]
    exact ((unhide HH).below.cell (lt_of_cell hc)).trans hc
  have HFC := hide hfc
  have EW := hide eW
  clear hR0 hdc hfc eW
  unfold vChart
  go_enter Try.func69, Try.ntmps69
  go_upto_region 2 with (at_builtin; refine wpList_append_whole rfl _ _ 24 rfl (w.heap.size + 1 + 1) 3 i0 _ 1 8 Try.underlying24 hi hz0 hz1 hz2 rfl (by decide) (w.heap.size + 1 + 1) rfl (by rw [← unhide EW]; exact unhide HR0) dao D.length dc (ints D) rfl (by rw [ints_length, Nat.mul_one]) (by rw [← unhide EW]; exact unhide HN1) (fun u hu => by obtain ⟨x, _, rfl⟩ := List.mem_map.1 hu; rfl) (by unfold maxLen; omega) (by omega) (by rw [← unhide EW]; omega) ?_; intro g1 cap1 wa hown hgrow hat; rw [← unhide EW] at hgrow; have hb1 := (Below.refl (w.heap.size + 1 + 1) W3).grown hgrow (by omega) (fun g hg => by simp at hg; omega); have HOW := hide hown; have HB1 := hide hb1; have c2 := ((unhide HH).o1.below hb1 (by omega)).cell (i := 2) rfl; have c3 := ((unhide HH).o1.below hb1 (by omega)).cell (i := 3) rfl; have cf := ((unhide HH).o1.below hb1 (by omega)).frozen; clear hown hgrow hat hb1)
  clear c2 c3 cf
  have hX := ((unhide HH).o1.below (unhide HB1) (by omega)).set 2 (.slice (some ⟨g1, 0, none⟩) D.length cap1) (by simp)
  have hY := ((unhide HH).o2.below (unhide HB1) (by omega)).other (a := ⟨w.heap.size, 2, none⟩) (by show w.heap.size + 1 ≠ w.heap.size; omega) (.slice (some ⟨g1, 0, none⟩) D.length cap1)
  have hDp := own_set_lt (unhide HOW) (b := w.heap.size) (by omega) 2 (.slice (some ⟨g1, 0, none⟩) D.length cap1)
  have hL : Below w.heap.size w (wa.setCell ⟨w.heap.size, 2, none⟩ (.slice (some ⟨g1, 0, none⟩) D.length cap1)) := by
    have hb := unhide HB1
    exact ((unhide HH).below.trans ⟨hb.os, hb.tape, hb.output, hb.size, fun q hq => hb.block q (by omega)⟩).setCell (p := ⟨w.heap.size, 2, none⟩) (Nat.le_refl _) _
  obtain ⟨W4, eW4⟩ : ∃ z, z = wa.setCell ⟨w.heap.size, 2, none⟩ (.slice (some ⟨g1, 0, none⟩) D.length cap1) := ⟨_, rfl⟩
  rw [← eW4] at hX hY hDp hL ⊢
  have hg1 := (hDp.lt g1 rfl).2
  have hw4 : w.heap.size + 1 < W4.heap.size := hY.lt
  have HX4 := hide hX
  have HY4 := hide hY
  have HD4 := hide hDp
  have HL4 := hide hL
  have HR5 : Hid ((W4.alloc (.cells #[] 91)).ownsRow W4.heap.size 91 5 (.slice (some ⟨W4.heap.size, 0, none⟩) 0 0) 0 []) := ⟨rfl, Or.inr ⟨W4.heap.size, 0, #[], rfl, Nat.le_refl _, Go.Deep.blk_alloc_new _ _, Nat.le_refl _, Nat.zero_le _, rfl, rfl⟩⟩
  have HN5 : Hid (F.length ≠ 0 → ∃ ad, fao = some ad ∧ ∀ j u, (recCells 5 eFeature F)[j]? = some u → (W4.alloc (.cells #[] 91)).cell? (ad.add j) = some u) := fun h => by
    obtain ⟨b, o, rfl, _⟩ := unhide HFC 0 (by omega)
    refine ⟨_, rfl, fun j u hu => ?_⟩
    have hj : j < F.length * 5 := by
      have := (List.getElem?_eq_some_iff.1 hu).1
      rwa [recCells_length] at this
    obtain ⟨b', o', e', hc⟩ := unhide HFC (j / 5) (by omega)
    simp only [Option.some.injEq, Addr.mk.injEq, and_true] at e'
    obtain ⟨rfl, rfl⟩ := e'
    have hc' := hc (j % 5) (by omega)
    rw [show j / 5 * 5 + j % 5 = j by omega] at hc'
    have hu' : u = eFeature (F.getD (j / 5) default) (j % 5) := by
      simp [recCells, List.getElem?_range hj] at hu
      exact hu.symm
    rw [Go.WideShapes.add_plain, hu']
    exact ((Below.step (unhide HL4) (Below.alloc1 _ _)).cell (lt_of_cell hc')).trans hc'
  have a3 := (hX.alloc (.cells #[] 91)).cell (i := 3) rfl
  clear hX hY hDp hL HOW HB1 HH HR0 HN1 HFC EW hz3 eW4
  go_upto_region 3 with (at_builtin; refine wpList_append_whole rfl _ _ 25 rfl W4.heap.size 91 i1 _ 5 48 Try.underlying25 hi' hy0 hy1 hy2 rfl (by decide) W4.heap.size rfl (unhide HR5) fao F.length fc (recCells 5 eFeature F) rfl recCells_length (unhide HN5) fe_one (by unfold maxLen; omega) (by omega) (by simp) ?_; intro g2 cap2 wb hown hgrow hat; have hb2 := (Below.refl W4.heap.size (W4.alloc (.cells #[] 91))).grown hgrow (by simp) (fun g hg => by simp at hg; omega); have HOF := hide hown; have HB2 := hide (Below.step (unhide HL4) (Below.trans (Below.alloc1 W4 (.cells #[] 91)) hb2)); have HX2 := hide ((unhide HX4).step (Below.trans (Below.alloc1 W4 (.cells #[] 91)) hb2)); have HY2 := hide ((unhide HY4).step (Below.trans (Below.alloc1 W4 (.cells #[] 91)) hb2)); have HD2 := hide (ownsRow_below (unhide HD4) (Below.trans (Below.alloc1 W4 (.cells #[] 91)) hb2)); have p0 := (unhide HX2).cell (i := 0) rfl; have p1 := (unhide HX2).cell (i := 1) rfl; have p2 := (unhide HX2).cell (i := 2) rfl; have p3 := (unhide HX2).cell (i := 3) rfl; have p4 := (unhide HX2).cell (i := 4) rfl; have pf := (unhide HX2).frozen; clear hown hgrow hat hb2)
  clear p0 p1 p2 p3 p4 pf a3
  have hg2 := ((unhide HOF).lt g2 rfl).1
  have hX := (unhide HX2).set 3 (.slice (some ⟨g2, 0, none⟩) F.length cap2) (by simp)
  have hY := (unhide HY2).other (a := ⟨w.heap.size, 3, none⟩) (by show w.heap.size + 1 ≠ w.heap.size; omega) (.slice (some ⟨g2, 0, none⟩) F.length cap2)
  have hDp := own_set_lt (unhide HD2) (b := w.heap.size) (by omega) 3 (.slice (some ⟨g2, 0, none⟩) F.length cap2)
  have hFp := own_set_lt (unhide HOF) (b := w.heap.size) (by omega) 3 (.slice (some ⟨g2, 0, none⟩) F.length cap2)
  have hL := (unhide HB2).setCell (p := ⟨w.heap.size, 3, none⟩) (Nat.le_refl _) (.slice (some ⟨g2, 0, none⟩) F.length cap2)
  obtain ⟨W6, eW6⟩ : ∃ z, z = wb.setCell ⟨w.heap.size, 3, none⟩ (.slice (some ⟨g2, 0, none⟩) F.length cap2) := ⟨_, rfl⟩
  rw [← eW6] at hX hY hDp hFp hL ⊢
  have p0 := hX.cell (i := 0) rfl
  have p1 := hX.cell (i := 1) rfl
  have p2 := hX.cell (i := 2) rfl
  have p3 := hX.cell (i := 3) rfl
  have p4 := hX.cell (i := 4) rfl
  have d0 := hY.cell (i := 0) rfl
  have d1 := hY.cell (i := 1) rfl
  have d2 := hY.cell (i := 2) rfl
  have d3 := hY.cell (i := 3) rfl
  have d4 := hY.cell (i := 4) rfl
  have df := hY.frozen
  have hr := ((((hY.set 0 (.int .i64 wd) (by simp)).set 1 (.int .i64 hg) (by simp)).set 2 (.slice (some ⟨g1, 0, none⟩) D.length cap1) (by simp)).set 3 (.slice (some ⟨g2, 0, none⟩) F.length cap2) (by simp)).set 4 (.int .i64 ed) (by simp)
  have hDr := own_set_lt (own_set_lt (own_set_lt (own_set_lt (own_set_lt hDp (b := w.heap.size + 1) (by omega) 0 (.int .i64 wd)) (b := w.heap.size + 1) (by omega) 1 (.int .i64 hg)) (b := w.heap.size + 1) (by omega) 2 (.slice (some ⟨g1, 0, none⟩) D.length cap1)) (b := w.heap.size + 1) (by omega) 3 (.slice (some ⟨g2, 0, none⟩) F.length cap2)) (b := w.heap.size + 1) (by omega) 4 (.int .i64 ed)
  have hFr := own_set_lt (own_set_lt (own_set_lt (own_set_lt (own_set_lt hFp (b := w.heap.size + 1) (by omega) 0 (.int .i64 wd)) (b := w.heap.size + 1) (by omega) 1 (.int .i64 hg)) (b := w.heap.size + 1) (by omega) 2 (.slice (some ⟨g1, 0, none⟩) D.length cap1)) (b := w.heap.size + 1) (by omega) 3 (.slice (some ⟨g2, 0, none⟩) F.length cap2)) (b := w.heap.size + 1) (by omega) 4 (.int .i64 ed)
  have hLr := ((((hL.setCell (p := ⟨w.heap.size + 1, 0, none⟩) (by show w.heap.size ≤ w.heap.size + 1; omega) (.int .i64 wd)).setCell (p := ⟨w.heap.size + 1, 1, none⟩) (by show w.heap.size ≤ w.heap.size + 1; omega) (.int .i64 hg)).setCell (p := ⟨w.heap.size + 1, 2, none⟩) (by show w.heap.size ≤ w.heap.size + 1; omega) (.slice (some ⟨g1, 0, none⟩) D.length cap1)).setCell (p := ⟨w.heap.size + 1, 3, none⟩) (by show w.heap.size ≤ w.heap.size + 1; omega) (.slice (some ⟨g2, 0, none⟩) F.length cap2)).setCell (p := ⟨w.heap.size + 1, 4, none⟩) (by show w.heap.size ≤ w.heap.size + 1; omega) (.int .i64 ed)
  have HRR := hide hr
  have HDR := hide hDr
  have HFR := hide hFr
  have HLR := hide hLr
  clear hr hDr hFr hLr hX hY hDp hFp hL HX2 HY2 HD2 HOF HB2 HX4 HY4 HD4 HL4 HR5 HN5 eW6
  have hn1 : ¬ w.heap.size = w.heap.size + 1 := by omega
  have hn2 : ¬ w.heap.size + 1 = w.heap.size := by omega
  go_wp2
  have k0 := (unhide HRR).cell (i := 0) rfl
  have k1 := (unhide HRR).cell (i := 1) rfl
  have k2 := (unhide HRR).cell (i := 2) rfl
  have k3 := (unhide HRR).cell (i := 3) rfl
  have k4 := (unhide HRR).cell (i := 4) rfl
  refine bodyPost_ret (v := .agg #[.int .i64 wd, .int .i64 hg, (.slice (some ⟨g1, 0, none⟩) D.length cap1), (.slice (some ⟨g2, 0, none⟩) F.length cap2), .int .i64 ed]) (by simp [results, Try.results69, go_sem, k0, k1, k2, k3, k4]) rfl ⟨g1, cap1, g2, cap2, rfl, cown_ch ⟨own_base (unhide HDR) (by omega), own_base (unhide HFR) (by omega), fun g e1 e2 => ?_⟩, unhide HLR, ((unhide HDR).lt g1 rfl).2, ((unhide HFR).lt g2 rfl).2⟩
  simp [Value.ownBlock] at e1 e2
  omega

end Go.Proofs.Ytmpicamenjnkkaa

/- Contracts of the program's depthOk, isPlace, featureOk, placeOf. -/
namespace Go.Proofs.Ytmpicamenjnkkaa
open Go.RowKit

theorem depthOk_any (d : Int) (w : World) : Calls Try.prog 88 #[.int .i64 d] w fun e w' => e = .returned (.bool (inB d (-1000) 10000)) ∧ w = w' := by
  go_enter Try.func88, Try.ntmps88
  go_wp2_with (go_at_call 50; refine (within_any _ _ _ _).mono ?_; rintro e w' ⟨rfl, rfl⟩)
  go_ret
  exact ⟨rfl, rfl⟩

set_option maxHeartbeats 800000 in
theorem isPlace_any (wd hg ed x y : Int) (dv fv : Value) (w : World) (hw0 : -9223372036854775807 ≤ wd) (hw1 : wd ≤ 9223372036854775807) (hh0 : -9223372036854775807 ≤ hg) (hh1 : hg ≤ 9223372036854775807) :
    Calls Try.prog 53 #[vChart wd hg dv fv ed, .int .i64 x, .int .i64 y] w fun e w' => e = .returned (.bool (placeB wd hg x y)) ∧ Below w.heap.size w w' := by
  have q1 : IntKind.i64.wrap (wd - 1) = wd - 1 := by rw [IntKind.wrap_i64]; omega
  have q2 : IntKind.i64.wrap (hg - 1) = hg - 1 := by rw [IntKind.wrap_i64]; omega
  have HB := hide (Below.alloc1 w (.cells #[.int .i64 wd, .int .i64 hg, dv, fv, .int .i64 ed] 27))
  obtain ⟨r, er⟩ : ∃ r, r = placeB wd hg x y := ⟨_, rfl⟩
  rw [← er]
  have ER := hide er
  clear er
  unfold placeB at ER
  unfold vChart
  cases h1 : inB x 0 (wd - 1) <;> cases h2 : inB y 0 (hg - 1)
  all_goals
    have e1 := unhide ER
    rw [h1, h2] at e1
    simp only [Bool.false_and, Bool.true_and] at e1
    subst e1
    clear ER
    go_enter Try.func53, Try.ntmps53
    go_wp2_with (go_at_call 50; refine (within_any _ _ _ _).mono ?_; rintro e w' ⟨rfl, rfl⟩)
    go_ret
    exact ⟨rfl, unhide HB⟩

set_option maxHeartbeats 800000 in
theorem placeOf_any (wd hg ed x y yw p : Int) (dv fv : Value) (w : World) (h1 : IntKind.i64.wrap (y * wd) = yw) (h2 : IntKind.i64.wrap (yw + x) = p) :
    Calls Try.prog 54 #[vChart wd hg dv fv ed, .int .i64 x, .int .i64 y] w fun e w' => e = .returned (.int .i64 p) ∧ Below w.heap.size w w' := by
  have HB := hide (Below.alloc1 w (.cells #[.int .i64 wd, .int .i64 hg, dv, fv, .int .i64 ed] 27))
  unfold vChart
  go_enter Try.func54, Try.ntmps54
  go_wp2
  go_ret
  exact ⟨rfl, unhide HB⟩

set_option maxRecDepth 10000 in
set_option maxHeartbeats 1600000 in
theorem featureOk_any (wd hg ed : Int) (dv fv : Value) (x0 x1 x2 x3 : Int) (x4 : ByteArray) (w : World) (hw0 : 1 ≤ wd) (hw1 : wd ≤ 12) (hh0 : 1 ≤ hg) (hh1 : hg ≤ 12) :
    Calls Try.prog 89 #[vChart wd hg dv fv ed, vFeature x0 x1 x2 x3 x4] w fun e w' => e = .returned (.bool (featB wd hg (x0, x1, x2, x3, x4))) ∧ Below w.heap.size w w' := by
  have A := Below.step (Below.alloc1 w (.cells #[.int .i64 wd, .int .i64 hg, dv, fv, .int .i64 ed] 27)) (Below.alloc1 _ (.cells #[.int .i64 x0, .int .i64 x1, .int .i64 x2, .int .i64 x3, .string x4] 91))
  have HB := hide A
  have HP := hide fun V => isPlace_any wd hg ed x2 x3 dv fv V (by omega) (by omega) (by omega) (by omega)
  clear A
  obtain ⟨r, er⟩ : ∃ r, r = featB wd hg (x0, x1, x2, x3, x4) := ⟨_, rfl⟩
  rw [← er]
  have ER := hide er
  clear er
  unfold featB at ER
  obtain ⟨m, em⟩ : ∃ m, x4.size = m := ⟨_, rfl⟩
  rw [em] at ER
  have O := ownV_alloc (w.alloc (.cells #[.int .i64 wd, .int .i64 hg, dv, fv, .int .i64 ed] 27)) #[.int .i64 x0, .int .i64 x1, .int .i64 x2, .int .i64 x3, .string x4] 91
  simp only [World.size_alloc] at O
  have HO := hide O
  clear O
  unfold vChart at HP ⊢
  unfold vFeature
  cases h1 : inB x0 1 1000000
  · have e1 : r = false := by rw [unhide ER, h1]; rfl
    subst e1
    go_enter Try.func89, Try.ntmps89
    go_wp2_with (go_at_call 50; refine (within_any _ _ _ _).mono ?_; rintro e w' ⟨rfl, h9⟩; have h8 := h9.symm; subst h8; clear h9)
    go_ret
    exact ⟨rfl, unhide HB⟩
  cases h2 : inB x1 1 9
  · have e1 : r = false := by rw [unhide ER, h1, h2]; rfl
    subst e1
    go_enter Try.func89, Try.ntmps89
    go_wp2_with (go_at_call 50; refine (within_any _ _ _ _).mono ?_; rintro e w' ⟨rfl, h9⟩; have h8 := h9.symm; subst h8; clear h9)
    go_ret
    exact ⟨rfl, unhide HB⟩
  cases h3 : placeB wd hg x2 x3
  · have e1 : r = false := by rw [unhide ER, h1, h2, h3]; rfl
    subst e1
    rw [h3] at HP
    go_enter Try.func89, Try.ntmps89
    go_wp2_with (first | (go_at_call 50; refine (within_any _ _ _ _).mono ?_; rintro e w' ⟨rfl, h9⟩; have h8 := h9.symm; subst h8; clear h9) | (go_at_call 53; refine (unhide HP _).mono ?_; rintro e w1 ⟨rfl, hb⟩; have HB1 := hide (Below.step (unhide HB) hb); clear hb))
    go_ret
    exact ⟨rfl, unhide HB1⟩
  rw [h3] at HP
  by_cases h4 : m ≤ 40
  · have e1 : r = true := by rw [unhide ER, h1, h2, h3, decide_eq_true h4]; rfl
    subst e1
    have h4i : (m : Int) ≤ 40 := by omega
    go_enter Try.func89, Try.ntmps89
    go_wp2_with (first | (go_at_call 50; refine (within_any _ _ _ _).mono ?_; rintro e w' ⟨rfl, h9⟩; have h8 := h9.symm; subst h8; clear h9) | (go_at_call 53; refine (unhide HP _).mono ?_; rintro e w1 ⟨rfl, hb⟩; have c4 := OwnV.cell (OwnV.step (unhide HO) hb) (i := 4) rfl; have HB1 := hide (Below.step (unhide HB) hb); clear hb))
    go_ret
    exact ⟨rfl, unhide HB1⟩
  · have e1 : r = false := by rw [unhide ER, h1, h2, h3, decide_eq_false h4]; rfl
    subst e1
    have h4i : ¬ (m : Int) ≤ 40 := by omega
    go_enter Try.func89, Try.ntmps89
    go_wp2_with (first | (go_at_call 50; refine (within_any _ _ _ _).mono ?_; rintro e w' ⟨rfl, h9⟩; have h8 := h9.symm; subst h8; clear h9) | (go_at_call 53; refine (unhide HP _).mono ?_; rintro e w1 ⟨rfl, hb⟩; have c4 := OwnV.cell (OwnV.step (unhide HO) hb) (i := 4) rfl; have HB1 := hide (Below.step (unhide HB) hb); clear hb))
    go_ret
    exact ⟨ret_bool (by simp; omega), unhide HB1⟩

end Go.Proofs.Ytmpicamenjnkkaa

/- Contracts of the program's depthsOk, featuresOk. -/
namespace Go.Proofs.Ytmpicamenjnkkaa
open Go.RowKit

set_option maxRecDepth 10000 in
set_option maxHeartbeats 4000000 in
theorem depthsOk_any (c : Ch) (dao : Option Addr) (dn dc : Nat) (fv : Value) (w : World) (hD : IntsIn w (.slice dao dn dc) c.D) (hw0 : 1 ≤ c.wd) (hw1 : c.wd ≤ 12) (hh0 : 1 ≤ c.hg) (hh1 : c.hg ≤ 12) :
    Calls Try.prog 51 #[vChart c.wd c.hg (.slice dao dn dc) fv c.ed] w fun e w' => e = .returned (.bool (decide ((c.D.length : Int) = c.wd * c.hg) && c.D.all (fun d => inB d (-1000) 10000))) ∧ Below w.heap.size w w' := by
  obtain ⟨wd, hg, D, F, ed⟩ := c
  dsimp only at hD hw0 hw1 hh0 hh1 ⊢
  have A := Below.alloc1 w (.cells #[.int .i64 wd, .int .i64 hg, .slice dao dn dc, fv, .int .i64 ed] 27)
  have O := ownV_alloc w #[.int .i64 wd, .int .i64 hg, .slice dao dn dc, fv, .int .i64 ed] 27
  obtain ⟨dao', dc', eD, hdl, hdm, hdc⟩ := hD
  simp only [Value.slice.injEq] at eD
  obtain ⟨rfl, rfl, rfl⟩ := eD
  unfold maxLen at hdm
  have HDC := hide hdc
  have HW := hide A
  have HO := hide O
  clear A O hdc
  obtain ⟨p, ep⟩ : ∃ p, p = wd * hg := ⟨_, rfl⟩
  have hp : 1 ≤ p ∧ p ≤ 144 := by rw [ep]; exact mul_le12 hw0 hw1 hh0 hh1
  obtain ⟨hp0, hp1⟩ := hp
  have qp : IntKind.i64.wrap (wd * hg) = p := by rw [← ep, IntKind.wrap_i64]; omega
  rw [← ep]
  clear ep
  unfold vChart
  by_cases h3 : (D.length : Int) = p
  case neg =>
    have d3 : ((D.length : Int) != p) = true := by simp; exact h3
    have d3' : ((D.length : Int) == p) = false := by simp; exact h3
    rw [decide_eq_false h3, Bool.false_and]
    go_enter Try.func51, Try.ntmps51
    go_wp2
    go_ret
    exact ⟨rfl, unhide HW⟩
  have d3 : ((D.length : Int) != p) = false := by simp; exact h3
  have d3' : ((D.length : Int) == p) = true := by simp; exact h3
  rw [decide_eq_true h3, Bool.true_and]
  go_enter Try.func51, Try.ntmps51
  go_wp2
  obtain ⟨W0, eW⟩ : ∃ z, z = w.alloc (.cells #[.int .i64 wd, .int .i64 hg, .slice dao D.length dc, fv, .int .i64 ed] 27) := ⟨_, rfl⟩
  rw [← eW] at HW HO ⊢
  clear eW d3 d3' qp
  go_loopg [17] D.length (fun g i wr => W0 = wr ∧ ∃ k : Nat, k ≤ D.length ∧ g = D.length - k ∧ i = .int .i64 k ∧ Hid (∀ r, r < k → inB (D.getD r 0) (-1000) 10000 = true))
  case atStart => exact ⟨rfl, 0, Nat.zero_le _, rfl, rfl, fun r hr => by omega⟩
  case round =>
    obtain ⟨rfl, k, hk, rfl, rfl, HDD⟩ := hrel
    by_cases hkn : k < D.length
    · obtain ⟨b, o, rfl, hcell⟩ := unhide HDC k hkn
      have g0 := ((unhide HW).cell (lt_of_cell hcell)).trans hcell
      have hki : (k : Int) < D.length := by omega
      have HL := hide fun V => depthOk_any (D.getD k 0) V
      cases hin : inB (D.getD k 0) (-1000) 10000 with
      | true =>
        rw [hin] at HL
        have HD' : Hid (∀ r, r < k + 1 → inB (D.getD r 0) (-1000) 10000 = true) := fun r hr => by
          by_cases e : r = k
          · subst e; exact hin
          · exact (unhide HDD) r (by omega)
        clear HDD hcell hin
        generalize D.getD k 0 = x at *
        go_wp2_with (go_at_call 88; refine (unhide HL _).mono ?_; rintro e w' ⟨rfl, rfl⟩)
        go_roundg (D.length - (k + 1))
        case measure => omega
        case rel => exact ⟨rfl, k + 1, by omega, rfl, by go_num, HD'⟩
      | false =>
        rw [hin] at HL
        have HN := hide (all_false (p := fun d => inB d (-1000) 10000) hkn hin)
        clear HDD hcell hin
        generalize D.getD k 0 = x at *
        go_wp2_with (go_at_call 88; refine (unhide HL _).mono ?_; rintro e w' ⟨rfl, rfl⟩)
        go_ret
        exact ⟨ret_bool (unhide HN).symm, unhide HW⟩
    · have HAD := hide (all_true (p := fun d => inB d (-1000) 10000) (xs := D) (d := 0) (fun r hr => (unhide HDD) r (by omega)))
      have hki : ¬ (k : Int) < D.length := by omega
      clear HDD
      go_wp2
      go_ret
      exact ⟨ret_bool (unhide HAD).symm, unhide HW⟩

set_option maxRecDepth 10000 in
set_option maxHeartbeats 8000000 in
theorem featuresOk_any (c : Ch) (dv : Value) (fao : Option Addr) (fn fc : Nat) (w : World) (hF : RFeature w (.slice fao fn fc) c.F) (hw0 : 1 ≤ c.wd) (hw1 : c.wd ≤ 12) (hh0 : 1 ≤ c.hg) (hh1 : c.hg ≤ 12) :
    Calls Try.prog 52 #[vChart c.wd c.hg dv (.slice fao fn fc) c.ed] w fun e w' => e = .returned (.bool (decide (c.F.length ≤ 30) && (List.range c.F.length).all (featsB c))) ∧ Below w.heap.size w w' := by
  obtain ⟨wd, hg, D, F, ed⟩ := c
  dsimp only at hF hw0 hw1 hh0 hh1 ⊢
  have A := Below.alloc1 w (.cells #[.int .i64 wd, .int .i64 hg, dv, .slice fao fn fc, .int .i64 ed] 27)
  have O := ownV_alloc w #[.int .i64 wd, .int .i64 hg, dv, .slice fao fn fc, .int .i64 ed] 27
  obtain ⟨fao', fc', eF, hfl, hfm, hfc⟩ := hF
  simp only [Value.slice.injEq] at eF
  obtain ⟨rfl, rfl, rfl⟩ := eF
  unfold maxLen at hfm
  have HFC := hide hfc
  have HW := hide A
  have HO := hide O
  clear A O hfc
  unfold vChart
  by_cases h4 : F.length ≤ 30
  case neg =>
    have h4i : (30 : Int) < F.length := by omega
    rw [decide_eq_false h4, Bool.false_and]
    go_enter Try.func52, Try.ntmps52
    go_wp2
    go_ret
    exact ⟨rfl, unhide HW⟩
  have h4i : (F.length : Int) ≤ 30 := by omega
  rw [decide_eq_true h4, Bool.true_and]
  go_enter Try.func52, Try.ntmps52
  go_wp2
  obtain ⟨W0, eW⟩ : ∃ z, z = w.alloc (.cells #[.int .i64 wd, .int .i64 hg, dv, .slice fao F.length fc, .int .i64 ed] 27) := ⟨_, rfl⟩
  rw [← eW] at HW HO ⊢
  clear eW
  go_loopg [12] F.length (fun g i wr => Below W0.heap.size W0 wr ∧ ∃ k : Nat, k ≤ F.length ∧ g = F.length - k ∧ i = .int .i64 k ∧ Hid (∀ r, r < k → featsB ⟨wd, hg, D, F, ed⟩ r = true))
  case atStart => exact ⟨Below.refl _ _, 0, Nat.zero_le _, rfl, rfl, fun r hr => by omega⟩
  case round =>
    obtain ⟨hWq, k, hk, rfl, rfl, HFF⟩ := hrel
    by_cases hkn : k < F.length
    · obtain ⟨b, o, x0, x1, x2, x3, x4, rfl, hc0, hc1, hc2, hc3, hc4, EX⟩ := recFeatureAt (unhide HFC) hkn
      have hA := Below.step (unhide HW) hWq
      have g0 := wcell3 hc0 hA
      have g1 := wcell3 hc1 hA
      have g2 := wcell3 hc2 hA
      have g3 := wcell3 hc3 hA
      have g4 := wcell3 hc4 hA
      have AL := Below.alloc1 wr (.cells #[.int .i64 x0, .int .i64 x1, .int .i64 x2, .int .i64 x3, .string x4] 91)
      have OF := ownV_alloc wr #[.int .i64 x0, .int .i64 x1, .int .i64 x2, .int .i64 x3, .string x4] 91
      have hO := OwnV.step (OwnV.step (unhide HO) hWq) AL
      have b0 := hO.cell (i := 0) rfl
      have b1 := hO.cell (i := 1) rfl
      have b2 := hO.cell (i := 2) rfl
      have b3 := hO.cell (i := 3) rfl
      have b4 := hO.cell (i := 4) rfl
      have HOc := hide hO
      have HOF := hide OF
      have HWA := hide (Below.step hWq AL)
      clear hc0 hc1 hc2 hc3 hc4 hWq hA AL OF hO
      have HNO : Hid (featsB ⟨wd, hg, D, F, ed⟩ k = false → (List.range F.length).all (featsB ⟨wd, hg, D, F, ed⟩) = false) := fun h => all_false (xs := List.range F.length) (d := 0) (i := k) (by simpa using hkn) (by simpa [List.getD, hkn] using h)
      have HYES : Hid (featsB ⟨wd, hg, D, F, ed⟩ k = true → ∀ r, r < k + 1 → featsB ⟨wd, hg, D, F, ed⟩ r = true) := fun h r hr => by
        by_cases e : r = k
        · rw [e]; exact h
        · exact (unhide HFF) r (by omega)
      go_wp2_with fail
      obtain ⟨V, eV⟩ : ∃ z, z = wr.alloc (.cells #[.int .i64 x0, .int .i64 x1, .int .i64 x2, .int .i64 x3, .string x4] 91) := ⟨_, rfl⟩
      rw [← eV] at HOc HOF HWA b0 b1 b2 b3 b4 ⊢
      have hblk : wr.heap.size < V.heap.size := (unhide HOF).lt
      clear eV g0 g1 g2 g3 g4
      generalize wr.heap.size = gf at *
      have p0 := fun x' : Gr V => gr_cell b0 x'
      have p1 := fun x' : Gr V => gr_cell b1 x'
      have p2 := fun x' : Gr V => gr_cell b2 x'
      have p3 := fun x' : Gr V => gr_cell b3 x'
      have p4 := fun x' : Gr V => gr_cell b4 x'
      have q0 := fun x' : Gr V => gr_cell ((unhide HOF).cell (i := 0) rfl) x'
      have q1 := fun x' : Gr V => gr_cell ((unhide HOF).cell (i := 1) rfl) x'
      have q2 := fun x' : Gr V => gr_cell ((unhide HOF).cell (i := 2) rfl) x'
      have q3 := fun x' : Gr V => gr_cell ((unhide HOF).cell (i := 3) rfl) x'
      have q4 := fun x' : Gr V => gr_cell ((unhide HOF).cell (i := 4) rfl) x'
      have S1 := hide fun x' : Gr V => featureOk_any wd hg ed dv (.slice (some ⟨b, o, none⟩) F.length fc) x0 x1 x2 x3 x4 x'.val hw0 hw1 hh0 hh1
      unfold vChart vFeature at S1
      have gsome := gr_some V
      have hkF : (k : Int) < F.length := by omega
      have hA := Below.step (unhide HW) (unhide HWA)
      clear b0 b1 b2 b3 b4
      by_cases hk0 : k = 0
      · have EW : Hid (featsB ⟨wd, hg, D, F, ed⟩ k = featB wd hg (x0, x1, x2, x3, x4)) := by show _ = _; unfold featsB; dsimp only; rw [unhide EX, decide_eq_true hk0]; simp
        have d0 : decide ((0 : Int) < (k : Int)) = false := by simp; omega
        have d0' : decide (0 < k) = false := by simp; omega
        clear EX hk0 hA
        cases hf : featB wd hg (x0, x1, x2, x3, x4) with
        | true =>
          rw [hf] at S1 EW
          have HFF' := hide (unhide HYES (unhide EW))
          clear HFF HYES HNO
          refine wp_region_grown (by kernel_rfl) (by kernel_rfl) ?_
          repeat (go_big_quiet_step (fail))
          go_big_quiet_want
          go_big_quiet_op
          go_big_quiet_call (exact calls_grown (unhide S1 _))
          repeat (go_big_quiet_step (fail))
          refine wpQuiet_nil ?_
          intro w1 hw1
          obtain ⟨z', hz⟩ := hw1
          have hb1 : Below V.heap.size V w1 := hz ▸ z'.ok
          clear hz gsome
          go_wp2
          go_roundg (F.length - (k + 1))
          case measure => omega
          case rel => exact ⟨Below.step (unhide HWA) hb1, k + 1, by omega, rfl, by go_num, HFF'⟩
        | false =>
          rw [hf] at S1 EW
          have HN := hide (unhide HNO (unhide EW))
          clear HFF HYES HNO
          refine wp_region_grown (by kernel_rfl) (by kernel_rfl) ?_
          repeat (go_big_quiet_step (fail))
          go_big_quiet_want
          go_big_quiet_op
          go_big_quiet_call (exact calls_grown (unhide S1 _))
          repeat (go_big_quiet_step (fail))
          refine wpQuiet_nil ?_
          intro w1 hw1
          obtain ⟨z', hz⟩ := hw1
          have hb1 : Below V.heap.size V w1 := hz ▸ z'.ok
          clear hz gsome
          go_wp2
          go_ret
          exact ⟨ret_bool (unhide HN).symm, Below.step (unhide HW) (Below.step (unhide HWA) hb1)⟩
      · obtain ⟨pj, ep⟩ : ∃ p, p = k - 1 := ⟨_, rfl⟩
        obtain ⟨b', o', z0, z1, z2, z3, z4, e', hd0, _, _, _, _, EX'⟩ := recFeatureAt (unhide HFC) (show pj < F.length by omega)
        simp only [Option.some.injEq, Addr.mk.injEq, and_true] at e'
        obtain ⟨rfl, rfl⟩ := e'
        have q5 := fun x' : Gr V => gr_cell (wcell3 hd0 hA) x'
        have EW : Hid (featsB ⟨wd, hg, D, F, ed⟩ k = (featB wd hg (x0, x1, x2, x3, x4) && decide (z0 < x0))) := by show _ = _; unfold featsB; dsimp only; rw [unhide EX, decide_eq_false hk0, ← ep, unhide EX']; simp
        have d0 : decide ((0 : Int) < (k : Int)) = true := by simp; omega
        have d0' : decide (0 < k) = true := by simp; omega
        have i1 : IntKind.i64.wrap ((k : Int) - 1) = (pj : Int) := by rw [IntKind.wrap_i64]; omega
        have i2 : (pj : Int) < F.length := by omega
        clear hd0 EX EX' hk0 hA ep
        cases hf : featB wd hg (x0, x1, x2, x3, x4) with
        | false =>
          rw [hf] at S1 EW
          have HN := hide (unhide HNO (by rw [unhide EW]; rfl))
          clear HFF HYES HNO
          refine wp_region_grown (by kernel_rfl) (by kernel_rfl) ?_
          repeat (go_big_quiet_step (fail))
          go_big_quiet_want
          go_big_quiet_op
          go_big_quiet_call (exact calls_grown (unhide S1 _))
          repeat (go_big_quiet_step (fail))
          refine wpQuiet_nil ?_
          intro w1 hw1
          obtain ⟨z', hz⟩ := hw1
          have hb1 : Below V.heap.size V w1 := hz ▸ z'.ok
          clear hz gsome
          go_wp2
          go_ret
          exact ⟨ret_bool (unhide HN).symm, Below.step (unhide HW) (Below.step (unhide HWA) hb1)⟩
        | true =>
          rw [hf] at S1 EW
          by_cases hlt : z0 < x0
          · have dl : decide (x0 ≤ z0) = false := by simp; omega
            have HFF' := hide (unhide HYES (by rw [unhide EW, decide_eq_true hlt]; rfl))
            clear HFF HYES HNO
            refine wp_region_grown (by kernel_rfl) (by kernel_rfl) ?_
            repeat (go_big_quiet_step (fail))
            go_big_quiet_want
            go_big_quiet_op
            go_big_quiet_call (exact calls_grown (unhide S1 _))
            repeat (go_big_quiet_step (fail))
            refine wpQuiet_nil ?_
            intro w1 hw1
            obtain ⟨z', hz⟩ := hw1
            have hb1 : Below V.heap.size V w1 := hz ▸ z'.ok
            clear hz gsome
            go_wp2
            go_roundg (F.length - (k + 1))
            case measure => omega
            case rel => exact ⟨Below.step (unhide HWA) hb1, k + 1, by omega, rfl, by go_num, HFF'⟩
          · have dl : decide (x0 ≤ z0) = true := by simp; omega
            have HN := hide (unhide HNO (by rw [unhide EW, decide_eq_false hlt]; rfl))
            clear HFF HYES HNO
            refine wp_region_grown (by kernel_rfl) (by kernel_rfl) ?_
            repeat (go_big_quiet_step (fail))
            go_big_quiet_want
            go_big_quiet_op
            go_big_quiet_call (exact calls_grown (unhide S1 _))
            repeat (go_big_quiet_step (fail))
            refine wpQuiet_nil ?_
            intro w1 hw1
            obtain ⟨z', hz⟩ := hw1
            have hb1 : Below V.heap.size V w1 := hz ▸ z'.ok
            clear hz gsome
            go_wp2
            go_ret
            exact ⟨ret_bool (unhide HN).symm, Below.step (unhide HW) (Below.step (unhide HWA) hb1)⟩
    · have HAF : Hid ((List.range F.length).all (featsB ⟨wd, hg, D, F, ed⟩) = true) := all_true (xs := List.range F.length) (d := 0) (fun r hr => by
        have hr' : r < F.length := by simpa using hr
        have := unhide HFF r (by omega)
        simpa [List.getD, hr'] using this)
      have hkF : ¬ (k : Int) < F.length := by omega
      have HA := hide (Below.step (unhide HW) hWq)
      clear HFF hWq
      go_wp2
      go_ret
      exact ⟨ret_bool (unhide HAF).symm, unhide HA⟩

end Go.Proofs.Ytmpicamenjnkkaa

/- The contract of the program's ChartOk. -/
namespace Go.Proofs.Ytmpicamenjnkkaa
open Go.RowKit

set_option maxRecDepth 10000 in
set_option maxHeartbeats 8000000 in
theorem implChartOk_any (c : Ch) (dao : Option Addr) (dn dc : Nat) (fao : Option Addr) (fn fc : Nat) (w : World) (hD : IntsIn w (.slice dao dn dc) c.D) (hF : RFeature w (.slice fao fn fc) c.F) :
    Calls Try.prog 13 #[vChart c.wd c.hg (.slice dao dn dc) (.slice fao fn fc) c.ed] w fun e w' => e = .returned (.bool (chartB c)) ∧ Below w.heap.size w w' := by
  have A := Below.alloc1 w (.cells #[.int .i64 c.wd, .int .i64 c.hg, .slice dao dn dc, .slice fao fn fc, .int .i64 c.ed] 27)
  have O := ownV_alloc w #[.int .i64 c.wd, .int .i64 c.hg, .slice dao dn dc, .slice fao fn fc, .int .i64 c.ed] 27
  have HW := hide A
  have HO := hide O
  have HD := hide hD
  have HF := hide hF
  obtain ⟨r, er⟩ : ∃ r, r = chartB c := ⟨_, rfl⟩
  rw [← er]
  have ER : Hid (r = (headB c && c.D.all (fun d => inB d (-1000) 10000) && (List.range c.F.length).all (featsB c))) := er
  clear A O hD hF er
  cases h1 : inB c.wd 1 12
  · have e1 : r = false := by rw [unhide ER]; unfold headB; rw [h1]; rfl
    subst e1
    unfold vChart
    go_enter Try.func13, Try.ntmps13
    go_wp2_with (go_at_call 50; refine (within_any _ _ _ _).mono ?_; rintro e w' ⟨rfl, h9⟩; have h8 := h9.symm; subst h8; clear h9)
    go_ret
    exact ⟨rfl, unhide HW⟩
  cases h2 : inB c.hg 1 12
  · have e1 : r = false := by rw [unhide ER]; unfold headB; rw [h1, h2]; rfl
    subst e1
    unfold vChart
    go_enter Try.func13, Try.ntmps13
    go_wp2_with (go_at_call 50; refine (within_any _ _ _ _).mono ?_; rintro e w' ⟨rfl, h9⟩; have h8 := h9.symm; subst h8; clear h9)
    go_ret
    exact ⟨rfl, unhide HW⟩
  cases h5 : inB c.ed 0 1000000
  · have e1 : r = false := by rw [unhide ER]; unfold headB; rw [h5]; simp
    subst e1
    unfold vChart
    go_enter Try.func13, Try.ntmps13
    go_wp2_with (go_at_call 50; refine (within_any _ _ _ _).mono ?_; rintro e w' ⟨rfl, h9⟩; have h8 := h9.symm; subst h8; clear h9)
    go_ret
    exact ⟨rfl, unhide HW⟩
  have hwd : 1 ≤ c.wd ∧ c.wd ≤ 12 := by simpa [inB] using h1
  have hhg : 1 ≤ c.hg ∧ c.hg ≤ 12 := by simpa [inB] using h2
  obtain ⟨hw0, hw1⟩ := hwd
  obtain ⟨hh0, hh1⟩ := hhg
  have ER1 : Hid (r = ((decide ((c.D.length : Int) = c.wd * c.hg) && c.D.all (fun d => inB d (-1000) 10000)) && (decide (c.F.length ≤ 30) && (List.range c.F.length).all (featsB c)))) := by
    show _ = _
    rw [unhide ER]
    unfold headB
    rw [h1, h2, h5]
    cases decide ((c.D.length : Int) = c.wd * c.hg) <;> cases decide (c.F.length ≤ 30) <;> simp
  have HQ1 := hide fun V (hV : Below w.heap.size w V) => depthsOk_any c dao dn dc (.slice fao fn fc) V ((unhide HD).below hV) hw0 hw1 hh0 hh1
  have HQ2 := hide fun V (hV : Below w.heap.size w V) => featuresOk_any c (.slice dao dn dc) fao fn fc V ((unhide HF).below hV) hw0 hw1 hh0 hh1
  obtain ⟨x, ex⟩ : ∃ x, x = (decide ((c.D.length : Int) = c.wd * c.hg) && c.D.all (fun d => inB d (-1000) 10000)) := ⟨_, rfl⟩
  obtain ⟨y, ey⟩ : ∃ y, y = (decide (c.F.length ≤ 30) && (List.range c.F.length).all (featsB c)) := ⟨_, rfl⟩
  simp only [← ex, ← ey] at HQ1 HQ2 ER1
  clear ex ey ER hw0 hw1 hh0 hh1 HD HF
  unfold vChart at HQ1 HQ2 ⊢
  go_enter Try.func13, Try.ntmps13
  go_wp2_with (go_at_call 50; refine (within_any _ _ _ _).mono ?_; rintro e w' ⟨rfl, h9⟩; have h8 := h9.symm; subst h8; clear h9)
  refine (unhide HQ1 _ (unhide HW)).mono ?_
  rintro e w1 ⟨rfl, hb⟩
  replace HW := hide (Below.step (unhide HW) hb)
  replace HO := hide (OwnV.step (unhide HO) hb)
  have b0 := (unhide HO).cell (i := 0) rfl
  have b1 := (unhide HO).cell (i := 1) rfl
  have b2 := (unhide HO).cell (i := 2) rfl
  have b3 := (unhide HO).cell (i := 3) rfl
  have b4 := (unhide HO).cell (i := 4) rfl
  clear hb h1 h2 h5
  cases x
  · have e1 : r = false := by rw [unhide ER1]; rfl
    subst e1
    go_wp2
    go_ret
    exact ⟨rfl, unhide HW⟩
  go_wp2_with fail
  refine (unhide HQ2 _ (unhide HW)).mono ?_
  rintro e w2 ⟨rfl, hb⟩
  replace HW := hide (Below.step (unhide HW) hb)
  have e1 : r = y := by rw [unhide ER1]; rfl
  subst e1
  clear hb b0 b1 b2 b3 b4 ER1
  go_wp2
  go_ret
  exact ⟨rfl, unhide HW⟩

end Go.Proofs.Ytmpicamenjnkkaa

/- Laid together out of: L6Catch. -/
import Derived.Test.YtmpicamenjnkkaaPt
import Derived.Test.YtmpicamenjnkkaaPd
import Derived.Deep.RegionHeld3

/- The law of Catch, walked. Written by wip/mkcatl.py. -/
namespace Go.Proofs.Ytmpicamenjnkkaa
open Go.RowKit

theorem catchN_bd (L : List UpT) : ∀ (f : Nat) (c : Ch) (und : List Nat), c.D.length ≤ 1048576 → c.F.length ≤ 1048576 → (catchN L f c und).1.D.length ≤ 1048576 ∧ (catchN L f c und).1.F.length ≤ 1048576 ∧ (catchN L f c und).2.length ≤ und.length
  | 0, c, und, h1, h2 => ⟨h1, h2, Nat.le_refl _⟩
  | f + 1, c, und, h1, h2 => by
    unfold catchN
    cases und.find? (okAt c L) with
    | none => exact ⟨h1, h2, Nat.le_refl _⟩
    | some i =>
      have hb := applyOf_bd c (L.getD i default) h1 h2
      have ih := catchN_bd L f (applyOf c (L.getD i default)).1 (und.filter (fun r => decide (r ≠ i))) hb.1 hb.2
      refine ⟨ih.1, ih.2.1, Nat.le_trans ih.2.2 (List.length_filter_le _ _)⟩
theorem catch6_bd (c : Ch) (L : List UpT) (h1 : c.D.length ≤ 1048576) (h2 : c.F.length ≤ 1048576) : (catch6 c L).1.D.length ≤ 1048576 ∧ (catch6 c L).1.F.length ≤ 1048576 ∧ (catch6 c L).2.length ≤ 60 := by
  unfold catch6
  split
  · exact ⟨h1, h2, by simp⟩
  · have := catchN_bd L L.length c (List.range L.length) h1 h2
    rw [List.length_range] at this
    exact ⟨this.1, this.2.1, by omega⟩
theorem markIntsK (B U : Nat) (ao : Option Addr) (n cap : Nat) (xs : List Int) (k : Int) (w : World) (h : OwnIntsU B U w (.slice ao n cap) xs) (hn : xs.length ≤ 1048576) (hk0 : 0 ≤ k) (hk1 : k ≤ 4611686018427387904) :
    Calls Try.prog 36 #[.slice ao n cap, .int .i64 k] w fun e w' => e = .returned (.int .i64 (k + xs.length)) ∧ Kept (fun b => B ≤ b ∧ b < U) w w' ∧ OwnIntsU B U w' (.slice ao n cap) (marks k xs.length) := by
  obtain ⟨ao', cap', e, h1, h2, h3⟩ := h
  simp only [Value.slice.injEq] at e
  obtain ⟨rfl, rfl, rfl⟩ := e
  by_cases hne : xs = []
  · subst hne
    refine (markIntS_any ao cap [] k 0 w (fun h => absurd rfl h) hn hk0 hk1).mono ?_
    rintro e w' ⟨rfl, hk, _⟩
    exact ⟨rfl, hk.mono (fun b _ hb => absurd rfl hb.2), ao, cap, by rw [marks_len], by rw [marks_len]; exact h1, h2, fun h => absurd rfl h⟩
  · obtain ⟨g, rfl, hg, hu, ho⟩ := h3 hne
    refine (markIntS_any _ cap xs k g w (fun _ => ⟨rfl, ho⟩) hn hk0 hk1).mono ?_
    rintro e w' ⟨rfl, hk, ho'⟩
    exact ⟨rfl, hk.mono (fun b _ hb => by rw [hb.1]; exact ⟨hg, hu⟩), _, cap, by rw [marks_len], by rw [marks_len]; exact h1, h2, fun _ => ⟨g, rfl, hg, hu, ho' hne⟩⟩
theorem heldIntsK (v : Value) (n : Nat) (k : Int) (W : World) (hW : IntsIn W v (marks k n)) (hn : n ≤ 1048576) (hk0 : 0 ≤ k) (hk1 : k ≤ 4611686018427387904) :
    Calls Try.prog 37 #[v, .int .i64 k] W fun e w' => e = .returned (.int .i64 (k + (n : Int))) ∧ Below W.heap.size W w' := by
  refine (heldIntS_any v (marks k n) k W hW (by rw [marks_len]) (by rw [marks_len]; exact hn) hk0 hk1).mono ?_
  rintro e w' ⟨rfl, rfl⟩
  rw [marks_len]
  exact ⟨rfl, Below.refl _ _⟩
theorem implCatch_l (c : Ch) (L : List UpT) (dao : Option Addr) (dn dc : Nat) (fao : Option Addr) (fn fc : Nat) (lao : Option Addr) (ln lc : Nat) (w : World) (hD : IntsIn w (.slice dao dn dc) c.D) (hF : RFeature w (.slice fao fn fc) c.F) (hL : UpsIn w (.slice lao ln lc) L) (hsD : c.D.length ≤ 1048576) (hsF : c.F.length ≤ 1048576) (hsL : L.length ≤ 1048576)
    (hI : ∀ k, k < L.length → ∀ i, i < (L.getD k default).2.length → -9223372036854775808 ≤ ((L.getD k default).2.getD i default).2.1 ∧ ((L.getD k default).2.getD i default).2.1 ≤ 9223372036854775807) :
    Calls Try.prog 11 #[vChart c.wd c.hg (.slice dao dn dc) (.slice fao fn fc) c.ed, .slice lao ln lc] w fun e w' => ∃ da dk fa fk la lm lk B U gl, e = .returned (.tuple #[vChart (catch6 c L).1.wd (catch6 c L).1.hg (.slice da (catch6 c L).1.D.length dk) (.slice fa (catch6 c L).1.F.length fk) (catch6 c L).1.ed, .slice la lm lk]) ∧ OwnCh B U w' da dk fa fk (catch6 c L).1.D (catch6 c L).1.F (recCells 5 eFeature (catch6 c L).1.F) ∧ OwnIntsU gl (gl + 1) w' (.slice la lm lk) ((catch6 c L).2.map Int.ofNat) ∧ w.heap.size ≤ B ∧ w.heap.size ≤ gl ∧ (gl < B ∨ U ≤ gl) ∧ gl < w'.heap.size ∧ Below w.heap.size w w' := by
  refine (implCatch_any c L dao dn dc fao fn fc lao ln lc w hD hF hL hsD hsF hsL hI).mono ?_
  rintro e w' ⟨da, dk, fa, fk, la, lm, lk, rfl, ⟨B, U, gl, h1, h2, h3, rfl, h5, h6, h7, h8, h9, h10⟩, hb⟩
  refine ⟨da, dk, fa, fk, la, _, lk, B, U, gl, rfl, h3, ⟨la, lk, by rw [List.length_map], by rw [List.length_map]; exact h5, h6, fun hne => ?_⟩, h1, h7, h9, h8, hb⟩
  obtain ⟨e1, e2⟩ := h10 (fun e => hne (by rw [e]; rfl))
  exact ⟨gl, e1, Nat.le_refl _, by omega, e2⟩

set_option maxRecDepth 1000000 in
set_option maxHeartbeats 16000000 in
theorem lawCatch_any (c : Ch) (dao : Option Addr) (dn dc : Nat) (fao : Option Addr) (fn fc : Nat) (L : List UpT) (lao : Option Addr) (ln lc : Nat) (w : World) (hD : IntsIn w (.slice dao dn dc) c.D) (hF : RFeature w (.slice fao fn fc) c.F) (hT : ∀ i, i < c.F.length → (txtFeature (c.F.getD i default)).size ≤ maxLen) (hL : UpsIn w (.slice lao ln lc) L) (hTL : ∀ i, i < L.length → ∀ j, j < (L.getD i default).2.length → (txtNote ((L.getD i default).2.getD j default)).size ≤ maxLen)
    (hI : ∀ k, k < L.length → ∀ i, i < (L.getD k default).2.length → -9223372036854775808 ≤ ((L.getD k default).2.getD i default).2.1 ∧ ((L.getD k default).2.getD i default).2.1 ≤ 9223372036854775807) :
    Calls Try.prog 6 #[vChart c.wd c.hg (.slice dao dn dc) (.slice fao fn fc) c.ed, .slice lao ln lc] w fun e w' => e = .returned (.bool true) ∧ Below w.heap.size w w' := by
  have hBd := catch6_bd c L
  have HSP := hide fun dao dn dc fao fn fc lao ln lc V h1 h2 h3 h4 h5 h6 => specCatch_any c L dao dn dc fao fn fc lao ln lc V h1 h2 h3 h4 h5 h6
  have HI := hide fun dao dn dc fao fn fc lao ln lc V h1 h2 h3 h4 h5 h6 => implCatch_l c L dao dn dc fao fn fc lao ln lc V h1 h2 h3 h4 h5 h6 hI
  obtain ⟨⟨⟨wd', hg', D', F', ed'⟩, und⟩, ev⟩ : ∃ z, z = catch6 c L := ⟨_, rfl⟩
  rw [← ev] at hBd
  simp only [← ev] at HSP HI
  clear ev
  dsimp only at hBd HSP HI
  have hXl : (und.map Int.ofNat).length = und.length := List.length_map ..
  rw [← hXl] at hBd
  clear hXl
  generalize und.map Int.ofNat = XS at *
  have HSZ := hide fun V (hV : Below w.heap.size w V) => szChart_any c.wd c.hg c.ed dao dn dc fao fn fc c.D c.F 1048576 V (hD.below hV) (hF.below hV) hT (by omega) (by omega)
  have HSU := hide fun V l (hV : Below w.heap.size w V) h0 h1 => szUpdateS_any (.slice lao ln lc) L l V (hL.below hV) hTL h0 h1
  have HTO := hide fun h1 h2 V (hV : Below w.heap.size w V) => toChart_any c.wd c.hg c.ed dao dn dc fao fn fc c.D c.F V (hD.below hV) (hF.below hV) h1 h2
  have HTU := hide fun h1 h2 V (hV : Below w.heap.size w V) => toUpdateS_any (.slice lao ln lc) L V (hL.below hV) h1 h2
  have HA := hide (ownV_alloc w #[.int .i64 c.wd, .int .i64 c.hg, .slice dao dn dc, .slice fao fn fc, .int .i64 c.ed] 49)
  have HW := hide (Below.alloc1 w (.cells #[.int .i64 c.wd, .int .i64 c.hg, .slice dao dn dc, .slice fao fn fc, .int .i64 c.ed] 49))
  clear hD hF hT hL hTL hI
  unfold vChart at HSZ HTO HSP HI ⊢
  have a0 := (unhide HA).cell (i := 0) rfl
  have a1 := (unhide HA).cell (i := 1) rfl
  have a2 := (unhide HA).cell (i := 2) rfl
  have a3 := (unhide HA).cell (i := 3) rfl
  have a4 := (unhide HA).cell (i := 4) rfl
  go_enter Try.func6, Try.ntmps6
  go_wp2_with fail
  refine (unhide HSZ _ (unhide HW)).mono ?_
  rintro e w1 ⟨r, rfl, hr0, hr1, hr2, hb⟩
  clear a0 a1 a2 a3 a4
  replace HA := hide ((unhide HA).step hb)
  replace HW := hide (Below.step (unhide HW) hb)
  have HR2 := hide hr2
  clear hb HSZ hr2
  by_cases hr : r < 0
  · go_wp2
    go_ret
    exact ⟨rfl, unhide HW⟩
  obtain ⟨hsD, hsF⟩ := unhide HR2 (by omega)
  replace HTO := hide (unhide HTO hsD hsF)
  obtain ⟨hD', hF', hX'⟩ := hBd hsD hsF
  clear hBd
  go_wp2_with fail
  refine (unhide HSU _ _ (unhide HW) (by omega) (by omega)).mono ?_
  rintro e w2 ⟨r', rfl, ⟨hs0, hs1, hs2⟩, hb⟩
  replace HA := hide ((unhide HA).step hb)
  replace HW := hide (Below.step (unhide HW) hb)
  have HS2 := hide hs2
  clear hb HSU hs2
  by_cases hr' : r' < 0
  · go_wp2
    go_ret
    exact ⟨rfl, unhide HW⟩
  obtain ⟨hsL, hsN⟩ := unhide HS2 (by omega)
  replace HTU := hide (unhide HTU hsL hsN)
  have HSN := hide hsN
  replace HSP := hide fun dao dn dc fao fn fc lao ln lc V h1 h2 h3 => unhide HSP dao dn dc fao fn fc lao ln lc V h1 h2 h3 hsD hsF hsN
  replace HI := hide fun dao dn dc fao fn fc lao ln lc V h1 h2 h3 => unhide HI dao dn dc fao fn fc lao ln lc V h1 h2 h3 hsD hsF hsL
  clear hsN hr hr0 hr1
  have a0 := (unhide HA).cell (i := 0) rfl
  have a1 := (unhide HA).cell (i := 1) rfl
  have a2 := (unhide HA).cell (i := 2) rfl
  have a3 := (unhide HA).cell (i := 3) rfl
  have a4 := (unhide HA).cell (i := 4) rfl
  go_wp2_with fail
  refine (unhide HTO _ (unhide HW)).mono ?_
  rintro e w3 ⟨t1, t2, rfl, ht1, ht2, ho1, ho2, hb⟩
  clear a0 a1 a2 a3 a4
  replace HA := hide ((unhide HA).step hb)
  replace HW := hide (Below.step (unhide HW) hb)
  clear hb
  go_wp2_with fail
  refine (unhide HTU _ (unhide HW)).mono ?_
  rintro e w4 ⟨t3, G3, rfl, ht3, hu, hb⟩
  replace HA := hide ((unhide HA).step hb)
  replace HW := hide (Below.step (unhide HW) hb)
  replace ho1 := ho1.step hb
  replace ho2 := ho2.step hb
  clear hb
  have QC := hide (unhide HSP _ _ _ _ _ _ _ _ _ _ (OwnV.intsIn ho1 (Nat.le_refl _) (by unfold maxLen; omega)) (OwnV.recsIn ho2 (Nat.le_refl _) (by unfold maxLen; omega)) (hu.inn hsL (unhide HSN)))
  clear ho1 ho2 hu ht1 ht2 ht3
  go_wp2_with fail
  refine (unhide QC).mono ?_
  rintro e w5 ⟨da, dk, fa, fk, la, lm, lk, rfl, hoc, hol, hb⟩
  replace HA := hide ((unhide HA).step hb)
  replace HW := hide (Below.step (unhide HW) hb)
  have hz5 := hb.size
  have HS := hide hoc
  have HSL := hide hol.upto
  obtain ⟨B1, eB1⟩ : ∃ z, z = w4.heap.size := ⟨_, rfl⟩
  obtain ⟨U1, eU1⟩ : ∃ z, z = w5.heap.size := ⟨_, rfl⟩
  have hB1 : B1 ≤ U1 := by rw [eB1, eU1]; exact hz5
  rw [← eB1, ← eU1] at HS HSL
  clear hb hoc hol QC eB1 hz5
  have hU1 : U1 ≤ w5.heap.size := by rw [eU1]; exact Nat.le_refl _
  clear eU1
  have hb := Below.alloc1 w5 (.cells #[.int .i64 wd', .int .i64 hg', .slice da D'.length dk, .slice fa F'.length fk, .int .i64 ed'] 27)
  have HG := hide (ownV_alloc w5 #[.int .i64 wd', .int .i64 hg', .slice da D'.length dk, .slice fa F'.length fk, .int .i64 ed'] 27)
  replace HA := hide ((unhide HA).step hb)
  replace HS := hide ((unhide HS).below hb)
  replace HSL := hide ((unhide HSL).below hb)
  replace HW := hide (Below.step (unhide HW) hb)
  clear hb
  have hw0 := (unhide HA).lt
  have hww := (unhide HW).size
  simp only [World.size_alloc] at hw0 hww
  have a0 := (unhide HA).cell (i := 0) rfl
  have a1 := (unhide HA).cell (i := 1) rfl
  have a2 := (unhide HA).cell (i := 2) rfl
  have a3 := (unhide HA).cell (i := 3) rfl
  have a4 := (unhide HA).cell (i := 4) rfl
  go_wp2_with fail
  refine (unhide HTO _ (unhide HW)).mono ?_
  rintro e w6 ⟨g1, g2, rfl, hg1, hg2, ho1, ho2, hb⟩
  clear a0 a1 a2 a3 a4
  replace HA := hide ((unhide HA).step hb)
  replace HS := hide ((unhide HS).below hb)
  replace HSL := hide ((unhide HSL).below hb)
  replace HG := hide ((unhide HG).step hb)
  replace HW := hide (Below.step (unhide HW) hb)
  have HX1 := hide ho1
  have HX2 := hide ho2
  have l2 := ho2.lt
  simp only [World.size_alloc] at hg1
  clear hb ho1 ho2
  have hb := Below.alloc1 w6 (.cells #[.int .i64 c.wd, .int .i64 c.hg, .slice (some ⟨g1, 0, none⟩) c.D.length c.D.length, .slice (some ⟨g2, 0, none⟩) c.F.length c.F.length, .int .i64 c.ed] 27)
  have HX := hide (ownV_alloc w6 #[.int .i64 c.wd, .int .i64 c.hg, .slice (some ⟨g1, 0, none⟩) c.D.length c.D.length, .slice (some ⟨g2, 0, none⟩) c.F.length c.F.length, .int .i64 c.ed] 27)
  replace HA := hide ((unhide HA).step hb)
  replace HS := hide ((unhide HS).below hb)
  replace HSL := hide ((unhide HSL).below hb)
  replace HG := hide ((unhide HG).step hb)
  replace HX1 := hide ((unhide HX1).step hb)
  replace HX2 := hide ((unhide HX2).step hb)
  replace HW := hide (Below.step (unhide HW) hb)
  clear hb
  go_wp2_with fail
  refine (unhide HTU _ (unhide HW)).mono ?_
  rintro e w7 ⟨g3, G3, rfl, hg3, hu, hb⟩
  replace HA := hide ((unhide HA).step hb)
  replace HS := hide ((unhide HS).below hb)
  replace HSL := hide ((unhide HSL).below hb)
  replace HG := hide ((unhide HG).step hb)
  replace HX1 := hide ((unhide HX1).step hb)
  replace HX2 := hide ((unhide HX2).step hb)
  replace HX := hide ((unhide HX).step hb)
  replace HW := hide (Below.step (unhide HW) hb)
  have HU := hide hu
  have hGr : Hid (∀ b, UpT.Bl g3 G3 L.length b → g3 ≤ b ∧ b < w7.heap.size) := fun b h => by
    rcases h with rfl | ⟨r, hr, rfl⟩
    · exact ⟨Nat.le_refl _, hu.1.lt⟩
    · exact ⟨Nat.le_of_lt (hu.2.1 r hr).1, (hu.2.1 r hr).2.lt⟩
  have l3 := hu.1.lt
  simp only [World.size_alloc] at hg3
  clear hb hu
  have QC := hide (unhide HI _ _ _ _ _ _ _ _ _ _ (OwnV.intsIn (unhide HX1) (Nat.le_refl _) (by unfold maxLen; omega)) (OwnV.recsIn (unhide HX2) (Nat.le_refl _) (by unfold maxLen; omega)) ((unhide HU).inn hsL (unhide HSN)))
  have a0 := (unhide HX).cell (i := 0) rfl
  have a1 := (unhide HX).cell (i := 1) rfl
  have a2 := (unhide HX).cell (i := 2) rfl
  have a3 := (unhide HX).cell (i := 3) rfl
  have a4 := (unhide HX).cell (i := 4) rfl
  go_wp2_with fail
  refine (unhide QC).mono ?_
  rintro e w8 ⟨da2, dk2, fa2, fk2, la2, lm2, lk2, B2, U2, gl, rfl, hoc, hol, hB2, hgl, hap, hgl2, hb⟩
  clear a0 a1 a2 a3 a4
  replace HA := hide ((unhide HA).step hb)
  replace HS := hide ((unhide HS).below hb)
  replace HSL := hide ((unhide HSL).below hb)
  replace HG := hide ((unhide HG).step hb)
  replace HX1 := hide ((unhide HX1).step hb)
  replace HX2 := hide ((unhide HX2).step hb)
  replace HX := hide ((unhide HX).step hb)
  replace HU := hide ((unhide HU).step hb)
  replace HW := hide (Below.step (unhide HW) hb)
  have HC := hide hoc
  have HCL := hide hol
  have hU2 := hoc.sizes
  have hz8 := hb.size
  clear hb hoc hol QC
  obtain ⟨E, eE⟩ : ∃ z, z = w7.heap.size := ⟨_, rfl⟩
  rw [← eE] at hGr hB2 hgl l3 hz8
  clear eE
  obtain ⟨hU2a, hU2b⟩ := hU2
  have hb := Below.alloc1 w8 (.cells #[.int .i64 wd', .int .i64 hg', .slice da2 D'.length dk2, .slice fa2 F'.length fk2, .int .i64 ed'] 27)
  have HGG := hide (ownV_alloc w8 #[.int .i64 wd', .int .i64 hg', .slice da2 D'.length dk2, .slice fa2 F'.length fk2, .int .i64 ed'] 27)
  replace HA := hide ((unhide HA).step hb)
  replace HS := hide ((unhide HS).below hb)
  replace HSL := hide ((unhide HSL).below hb)
  replace HG := hide ((unhide HG).step hb)
  replace HX1 := hide ((unhide HX1).step hb)
  replace HX2 := hide ((unhide HX2).step hb)
  replace HX := hide ((unhide HX).step hb)
  replace HU := hide ((unhide HU).step hb)
  replace HC := hide ((unhide HC).below hb)
  replace HCL := hide ((unhide HCL).below hb)
  replace HW := hide (Below.step (unhide HW) hb)
  clear hb
  have HE := hide (eqChart_any wd' hg' ed' _ _ _ _ _ _ _ _ _ _ _ _ D' F' _ (unhide HC).ints (unhide HC).feats (unhide HS).ints (unhide HS).feats)
  unfold vChart at HE
  have a0 := (unhide HGG).cell (i := 0) rfl
  have a1 := (unhide HGG).cell (i := 1) rfl
  have a2 := (unhide HGG).cell (i := 2) rfl
  have a3 := (unhide HGG).cell (i := 3) rfl
  have a4 := (unhide HGG).cell (i := 4) rfl
  have b0 := (unhide HG).cell (i := 0) rfl
  have b1 := (unhide HG).cell (i := 1) rfl
  have b2 := (unhide HG).cell (i := 2) rfl
  have b3 := (unhide HG).cell (i := 3) rfl
  have b4 := (unhide HG).cell (i := 4) rfl
  go_wp2_with fail
  refine (unhide HE).mono ?_
  rintro e w9 ⟨rfl, hb⟩
  clear a0 a1 a2 a3 a4
  clear b0 b1 b2 b3 b4
  replace HA := hide ((unhide HA).step hb)
  replace HS := hide ((unhide HS).below hb)
  replace HSL := hide ((unhide HSL).below hb)
  replace HG := hide ((unhide HG).step hb)
  replace HX1 := hide ((unhide HX1).step hb)
  replace HX2 := hide ((unhide HX2).step hb)
  replace HX := hide ((unhide HX).step hb)
  replace HU := hide ((unhide HU).step hb)
  replace HC := hide ((unhide HC).below hb)
  replace HCL := hide ((unhide HCL).below hb)
  replace HGG := hide ((unhide HGG).step hb)
  replace HW := hide (Below.step (unhide HW) hb)
  clear hb HE
  have HE := hide (eqIntS_o _ _ XS _ (unhide HCL).inn (unhide HSL).inn)
  go_wp2_with fail
  refine (unhide HE).mono ?_
  rintro e w10 ⟨rfl, hb⟩
  replace HA := hide ((unhide HA).step hb)
  replace HS := hide ((unhide HS).below hb)
  replace HSL := hide ((unhide HSL).below hb)
  replace HG := hide ((unhide HG).step hb)
  replace HX1 := hide ((unhide HX1).step hb)
  replace HX2 := hide ((unhide HX2).step hb)
  replace HX := hide ((unhide HX).step hb)
  replace HU := hide ((unhide HU).step hb)
  replace HC := hide ((unhide HC).below hb)
  replace HCL := hide ((unhide HCL).below hb)
  replace HGG := hide ((unhide HGG).step hb)
  replace HW := hide (Below.step (unhide HW) hb)
  clear hb HE
  have a0 := (unhide HA).cell (i := 0) rfl
  have a1 := (unhide HA).cell (i := 1) rfl
  have a2 := (unhide HA).cell (i := 2) rfl
  have a3 := (unhide HA).cell (i := 3) rfl
  have a4 := (unhide HA).cell (i := 4) rfl
  have b0 := (unhide HX).cell (i := 0) rfl
  have b1 := (unhide HX).cell (i := 1) rfl
  have b2 := (unhide HX).cell (i := 2) rfl
  have b3 := (unhide HX).cell (i := 3) rfl
  have b4 := (unhide HX).cell (i := 4) rfl
  go_wp2
  go_region_held3 (fun w' => w'.cell? ⟨w.heap.size, 0, none⟩ = some (.int .i64 c.wd) ∧ w'.cell? ⟨w.heap.size, 1, none⟩ = some (.int .i64 c.hg) ∧ w'.cell? ⟨w.heap.size, 2, none⟩ = some (.slice dao dn dc) ∧ w'.cell? ⟨w.heap.size, 3, none⟩ = some (.slice fao fn fc) ∧ w'.cell? ⟨w.heap.size, 4, none⟩ = some (.int .i64 c.ed) ∧ w'.cell? ⟨w6.heap.size, 0, none⟩ = some (.int .i64 c.wd) ∧ w'.cell? ⟨w6.heap.size, 1, none⟩ = some (.int .i64 c.hg) ∧ w'.cell? ⟨w6.heap.size, 2, none⟩ = some (.slice (some ⟨g1, 0, none⟩) c.D.length c.D.length) ∧ w'.cell? ⟨w6.heap.size, 3, none⟩ = some (.slice (some ⟨g2, 0, none⟩) c.F.length c.F.length) ∧ w'.cell? ⟨w6.heap.size, 4, none⟩ = some (.int .i64 c.ed)) (go_keep) (first
    | (go_at_call 23; refine (unhide HTO _ (by first | exact (unhide HW) | exact (unhide HW).drew)).mono ?_; rintro e w11 ⟨g7, g8, rfl, hg7, hg8, ho7, ho8, hb7⟩; have hb7' : Below w10.heap.size w10 w11 := (by first | exact hb7 | exact ⟨hb7.os, hb7.tape, hb7.output, hb7.size, hb7.block⟩); replace HA := hide ((unhide HA).step hb7'); replace HS := hide ((unhide HS).below hb7'); replace HSL := hide ((unhide HSL).below hb7'); replace HG := hide ((unhide HG).step hb7'); replace HX1 := hide ((unhide HX1).step hb7'); replace HX2 := hide ((unhide HX2).step hb7'); replace HX := hide ((unhide HX).step hb7'); replace HU := hide ((unhide HU).step hb7'); replace HC := hide ((unhide HC).below hb7'); replace HCL := hide ((unhide HCL).below hb7'); replace HGG := hide ((unhide HGG).step hb7'); replace HW := hide (Below.step (unhide HW) hb7'); have HE := hide (eqChart_any c.wd c.hg c.ed _ _ _ _ _ _ _ _ _ _ _ _ c.D c.F w11 (OwnV.intsIn (unhide HX1) (Nat.le_refl _) (by unfold maxLen; omega)) (OwnV.recsIn (unhide HX2) (Nat.le_refl _) (by unfold maxLen; omega)) (OwnV.intsIn ho7 (Nat.le_refl _) (by unfold maxLen; omega)) (OwnV.recsIn ho8 (Nat.le_refl _) (by unfold maxLen; omega))); unfold vChart at HE; have ya0 := (unhide HA).cell (i := 0) rfl; have ya1 := (unhide HA).cell (i := 1) rfl; have ya2 := (unhide HA).cell (i := 2) rfl; have ya3 := (unhide HA).cell (i := 3) rfl; have ya4 := (unhide HA).cell (i := 4) rfl; have yb0 := (unhide HX).cell (i := 0) rfl; have yb1 := (unhide HX).cell (i := 1) rfl; have yb2 := (unhide HX).cell (i := 2) rfl; have yb3 := (unhide HX).cell (i := 3) rfl; have yb4 := (unhide HX).cell (i := 4) rfl; clear hb7 hb7' ho7 ho8)
    | (go_at_call 25; refine (unhide HE).mono ?_; rintro e w12 ⟨rfl, hb8⟩; replace HA := hide ((unhide HA).step hb8); replace HS := hide ((unhide HS).below hb8); replace HSL := hide ((unhide HSL).below hb8); replace HG := hide ((unhide HG).step hb8); replace HX1 := hide ((unhide HX1).step hb8); replace HX2 := hide ((unhide HX2).step hb8); replace HX := hide ((unhide HX).step hb8); replace HU := hide ((unhide HU).step hb8); replace HC := hide ((unhide HC).below hb8); replace HCL := hide ((unhide HCL).below hb8); replace HGG := hide ((unhide HGG).step hb8); replace HW := hide (Below.step (unhide HW) hb8); have ka0 := (unhide HA).cell (i := 0) rfl; have ka1 := (unhide HA).cell (i := 1) rfl; have ka2 := (unhide HA).cell (i := 2) rfl; have ka3 := (unhide HA).cell (i := 3) rfl; have ka4 := (unhide HA).cell (i := 4) rfl; have kb0 := (unhide HX).cell (i := 0) rfl; have kb1 := (unhide HX).cell (i := 1) rfl; have kb2 := (unhide HX).cell (i := 2) rfl; have kb3 := (unhide HX).cell (i := 3) rfl; have kb4 := (unhide HX).cell (i := 4) rfl; clear hb8))
  clear HE
  clear a0 a1 a2 a3 a4 b0 b1 b2 b3 b4 ya0 ya1 ya2 ya3 ya4 yb0 yb1 yb2 yb3 yb4 ka0 ka1 ka2 ka3 ka4 kb0 kb1 kb2 kb3 kb4 hg7 hg8
  go_wp2_with fail
  refine (unhide HTU _ (unhide HW)).mono ?_
  rintro e w13 ⟨g9, G9, rfl, hg9, hu, hb⟩
  replace HA := hide ((unhide HA).step hb)
  replace HS := hide ((unhide HS).below hb)
  replace HSL := hide ((unhide HSL).below hb)
  replace HG := hide ((unhide HG).step hb)
  replace HX1 := hide ((unhide HX1).step hb)
  replace HX2 := hide ((unhide HX2).step hb)
  replace HX := hide ((unhide HX).step hb)
  replace HU := hide ((unhide HU).step hb)
  replace HC := hide ((unhide HC).below hb)
  replace HCL := hide ((unhide HCL).below hb)
  replace HGG := hide ((unhide HGG).step hb)
  replace HW := hide (Below.step (unhide HW) hb)
  have HE := hide (eqUpdateS_any _ _ L _ ((unhide HU).inn hsL (unhide HSN)) (hu.inn hsL (unhide HSN)))
  clear hb hu hg9
  go_wp2_with fail
  refine (unhide HE).mono ?_
  rintro e w14 ⟨rfl, hb⟩
  replace HA := hide ((unhide HA).step hb)
  replace HS := hide ((unhide HS).below hb)
  replace HSL := hide ((unhide HSL).below hb)
  replace HG := hide ((unhide HG).step hb)
  replace HX1 := hide ((unhide HX1).step hb)
  replace HX2 := hide ((unhide HX2).step hb)
  replace HX := hide ((unhide HX).step hb)
  replace HU := hide ((unhide HU).step hb)
  replace HC := hide ((unhide HC).below hb)
  replace HCL := hide ((unhide HCL).below hb)
  replace HGG := hide ((unhide HGG).step hb)
  replace HW := hide (Below.step (unhide HW) hb)
  clear hb HE
  have HM := hide (markChart_any c.wd c.hg c.ed _ c.D.length _ c.F.length c.D c.F g1 g2 1 w14 (fun _ => ⟨rfl, unhide HX1⟩) (fun _ => ⟨rfl, unhide HX2⟩) (by omega) (unhide HX1).lt hsD hsF (by omega) (by omega))
  unfold vChart at HM
  have a0 := (unhide HX).cell (i := 0) rfl
  have a1 := (unhide HX).cell (i := 1) rfl
  have a2 := (unhide HX).cell (i := 2) rfl
  have a3 := (unhide HX).cell (i := 3) rfl
  have a4 := (unhide HX).cell (i := 4) rfl
  go_wp2_with fail
  refine (unhide HM).mono ?_
  rintro e w15 ⟨rfl, hk, -, -⟩
  clear HM
  clear a0 a1 a2 a3 a4
  replace HA := hide ((unhide HA).kept hk (by omega))
  replace HS := hide ((unhide HS).kept hk (fun b h1 h2 e => by omega))
  replace HSL := hide ((unhide HSL).kept hk (fun b h1 h2 e => by omega))
  replace HG := hide ((unhide HG).kept hk (by omega))
  replace HX := hide ((unhide HX).kept hk (by omega))
  replace HU := hide ((unhide HU).kept hk (fun b h1 e => by omega))
  replace HC := hide ((unhide HC).kept hk (fun b h1 h2 e => by omega))
  replace HCL := hide ((unhide HCL).kept hk (fun b h1 h2 e => by omega))
  replace HGG := hide ((unhide HGG).kept hk (by omega))
  replace HW := hide ((unhide HW).trans (hk.below (B := w.heap.size) (by have := (unhide HW).size; omega) (fun k e => by omega)))
  clear hk
  generalize hkk : (1 : Int) + c.D.length + 5 * (c.F.length : Int) = kk
  have hk0 : 0 ≤ kk := by omega
  have hk1 : kk ≤ 1073741824 := by omega
  clear hkk
  have HM := hide (markUpdateS_any g3 L.length G3 L kk w15 (unhide HU) hsL (unhide HSN) hk0 hk1)
  go_wp2_with fail
  refine (unhide HM).mono ?_
  rintro e w16 ⟨kq, rfl, hq0, hq1, hku⟩
  have hk := hku.mono (T' := fun b => g3 ≤ b ∧ b < E) (fun b _ h => unhide hGr b h)
  clear hku HM
  replace HA := hide ((unhide HA).kept hk (by omega))
  replace HS := hide ((unhide HS).kept hk (fun b h1 h2 e => by omega))
  replace HSL := hide ((unhide HSL).kept hk (fun b h1 h2 e => by omega))
  replace HG := hide ((unhide HG).kept hk (by omega))
  replace HC := hide ((unhide HC).kept hk (fun b h1 h2 e => by omega))
  replace HCL := hide ((unhide HCL).kept hk (fun b h1 h2 e => by omega))
  replace HGG := hide ((unhide HGG).kept hk (by omega))
  replace HW := hide ((unhide HW).trans (hk.below (B := w.heap.size) (by have := (unhide HW).size; omega) (fun k e => by omega)))
  clear hk
  have hq0' : decide (kq < 0) = false := decide_eq_false (by omega)
  have HE := hide (eqChart_any wd' hg' ed' _ _ _ _ _ _ _ _ _ _ _ _ D' F' _ (unhide HC).ints (unhide HC).feats (unhide HS).ints (unhide HS).feats)
  unfold vChart at HE
  have a0 := (unhide HGG).cell (i := 0) rfl
  have a1 := (unhide HGG).cell (i := 1) rfl
  have a2 := (unhide HGG).cell (i := 2) rfl
  have a3 := (unhide HGG).cell (i := 3) rfl
  have a4 := (unhide HGG).cell (i := 4) rfl
  have b0 := (unhide HG).cell (i := 0) rfl
  have b1 := (unhide HG).cell (i := 1) rfl
  have b2 := (unhide HG).cell (i := 2) rfl
  have b3 := (unhide HG).cell (i := 3) rfl
  have b4 := (unhide HG).cell (i := 4) rfl
  go_wp2_with fail
  refine (unhide HE).mono ?_
  rintro e w17 ⟨rfl, hb⟩
  clear a0 a1 a2 a3 a4
  clear b0 b1 b2 b3 b4
  replace HA := hide ((unhide HA).step hb)
  replace HS := hide ((unhide HS).below hb)
  replace HSL := hide ((unhide HSL).below hb)
  replace HG := hide ((unhide HG).step hb)
  replace HC := hide ((unhide HC).below hb)
  replace HCL := hide ((unhide HCL).below hb)
  replace HGG := hide ((unhide HGG).step hb)
  replace HW := hide (Below.step (unhide HW) hb)
  clear hb HE
  have HE := hide (eqIntS_o _ _ XS _ (unhide HCL).inn (unhide HSL).inn)
  go_wp2_with fail
  refine (unhide HE).mono ?_
  rintro e w18 ⟨rfl, hb⟩
  replace HA := hide ((unhide HA).step hb)
  replace HS := hide ((unhide HS).below hb)
  replace HSL := hide ((unhide HSL).below hb)
  replace HG := hide ((unhide HG).step hb)
  replace HC := hide ((unhide HC).below hb)
  replace HCL := hide ((unhide HCL).below hb)
  replace HGG := hide ((unhide HGG).step hb)
  replace HW := hide (Below.step (unhide HW) hb)
  clear hb HE
  have HM := hide (markChart_v B2 U2 wd' hg' ed' da2 dk2 fa2 fk2 D' F' w18 (unhide HC) hD' hF')
  unfold vChart at HM
  have a0 := (unhide HGG).cell (i := 0) rfl
  have a1 := (unhide HGG).cell (i := 1) rfl
  have a2 := (unhide HGG).cell (i := 2) rfl
  have a3 := (unhide HGG).cell (i := 3) rfl
  have a4 := (unhide HGG).cell (i := 4) rfl
  go_wp2_with fail
  refine (unhide HM).mono ?_
  rintro e w19 ⟨rfl, hk, ho⟩
  clear HM
  clear a0 a1 a2 a3 a4
  have hggl := (unhide HGG).lt
  replace HA := hide ((unhide HA).kept hk (by omega))
  replace HS := hide ((unhide HS).kept hk (fun b h1 h2 e => by omega))
  replace HSL := hide ((unhide HSL).kept hk (fun b h1 h2 e => by omega))
  replace HG := hide ((unhide HG).kept hk (by omega))
  replace HCL := hide ((unhide HCL).kept hk (fun b h1 h2 e => by omega))
  replace HGG := hide ((unhide HGG).kept hk (by omega))
  replace HW := hide ((unhide HW).trans (hk.below (B := w.heap.size) (by have := (unhide HW).size; omega) (fun k e => by omega)))
  replace HC := hide ho
  clear hk ho
  have HH := hide fun V h => heldChart_v B2 U2 wd' hg' ed' da2 dk2 fa2 fk2 D' F' V h hD' hF'
  unfold vChart at HH
  generalize hmm : (1 : Int) + D'.length + 5 * (F'.length : Int) = mm at *
  have hm0 : 0 ≤ mm := by omega
  have hm1 : mm ≤ 1073741824 := by omega
  clear hmm
  have HM := hide (markIntsK gl (gl + 1) la2 lm2 lk2 XS mm w19 (unhide HCL) (by omega) hm0 (by omega))
  go_wp2_with fail
  refine (unhide HM).mono ?_
  rintro e w20 ⟨rfl, hk, ho⟩
  clear HM
  replace HA := hide ((unhide HA).kept hk (by omega))
  replace HS := hide ((unhide HS).kept hk (fun b h1 h2 e => by omega))
  replace HSL := hide ((unhide HSL).kept hk (fun b h1 h2 e => by omega))
  replace HG := hide ((unhide HG).kept hk (by omega))
  replace HGG := hide ((unhide HGG).kept hk (by omega))
  replace HC := hide ((unhide HC).kept hk (fun b h1 h2 e => by omega))
  replace HW := hide ((unhide HW).trans (hk.below (B := w.heap.size) (by have := (unhide HW).size; omega) (fun k e => by omega)))
  replace HCL := hide ho
  clear hk ho
  have HL2 := hide fun V (h : OwnIntsU gl (gl + 1) V (.slice la2 lm2 lk2) (marks mm XS.length)) => heldIntsK (.slice la2 lm2 lk2) XS.length mm V h.inn (by omega) hm0 (by omega)
  have hm2 : decide (mm < 0) = false := decide_eq_false (by omega)
  generalize hqq : mm + (XS.length : Int) = qq at *
  have hq2 : decide (qq < 0) = false := decide_eq_false (by omega)
  have hq3 : (qq != qq) = false := by simp
  clear hqq
  have a0 := (unhide HGG).cell (i := 0) rfl
  have a1 := (unhide HGG).cell (i := 1) rfl
  have a2 := (unhide HGG).cell (i := 2) rfl
  have a3 := (unhide HGG).cell (i := 3) rfl
  have a4 := (unhide HGG).cell (i := 4) rfl
  go_wp2_with fail
  refine (unhide HH _ (unhide HC)).mono ?_
  rintro e w21 ⟨rfl, hb⟩
  clear a0 a1 a2 a3 a4
  replace HA := hide ((unhide HA).step hb)
  replace HS := hide ((unhide HS).below hb)
  replace HSL := hide ((unhide HSL).below hb)
  replace HG := hide ((unhide HG).step hb)
  replace HGG := hide ((unhide HGG).step hb)
  replace HC := hide ((unhide HC).below hb)
  replace HCL := hide ((unhide HCL).below hb)
  replace HW := hide (Below.step (unhide HW) hb)
  clear hb
  go_wp2_with fail
  refine (unhide HL2 _ (unhide HCL)).mono ?_
  rintro e w22 ⟨rfl, hb⟩
  replace HA := hide ((unhide HA).step hb)
  replace HS := hide ((unhide HS).below hb)
  replace HSL := hide ((unhide HSL).below hb)
  replace HG := hide ((unhide HG).step hb)
  replace HGG := hide ((unhide HGG).step hb)
  replace HC := hide ((unhide HC).below hb)
  replace HCL := hide ((unhide HCL).below hb)
  replace HW := hide (Below.step (unhide HW) hb)
  clear hb
  have a0 := (unhide HA).cell (i := 0) rfl
  have a1 := (unhide HA).cell (i := 1) rfl
  have a2 := (unhide HA).cell (i := 2) rfl
  have a3 := (unhide HA).cell (i := 3) rfl
  have a4 := (unhide HA).cell (i := 4) rfl
  go_wp2_with fail
  refine (unhide HTO _ (unhide HW)).mono ?_
  rintro e w23 ⟨t1, t2, rfl, ht1, ht2, ho1, ho2, hb⟩
  clear a0 a1 a2 a3 a4
  replace HA := hide ((unhide HA).step hb)
  replace HS := hide ((unhide HS).below hb)
  replace HSL := hide ((unhide HSL).below hb)
  replace HG := hide ((unhide HG).step hb)
  replace HGG := hide ((unhide HGG).step hb)
  replace HC := hide ((unhide HC).below hb)
  replace HCL := hide ((unhide HCL).below hb)
  replace HW := hide (Below.step (unhide HW) hb)
  clear hb
  go_wp2_with fail
  refine (unhide HTU _ (unhide HW)).mono ?_
  rintro e w24 ⟨t3, G3, rfl, ht3, hu, hb⟩
  replace HA := hide ((unhide HA).step hb)
  replace HS := hide ((unhide HS).below hb)
  replace HSL := hide ((unhide HSL).below hb)
  replace HG := hide ((unhide HG).step hb)
  replace HGG := hide ((unhide HGG).step hb)
  replace HC := hide ((unhide HC).below hb)
  replace HCL := hide ((unhide HCL).below hb)
  replace HW := hide (Below.step (unhide HW) hb)
  replace ho1 := ho1.step hb
  replace ho2 := ho2.step hb
  clear hb
  have QC := hide (unhide HI _ _ _ _ _ _ _ _ _ _ (OwnV.intsIn ho1 (Nat.le_refl _) (by unfold maxLen; omega)) (OwnV.recsIn ho2 (Nat.le_refl _) (by unfold maxLen; omega)) (hu.inn hsL (unhide HSN)))
  clear ho1 ho2 hu ht1 ht2 ht3
  go_wp2_with fail
  refine (unhide QC).mono ?_
  rintro e w25 ⟨da3, dk3, fa3, fk3, la3, lm3, lk3, B3, U3, gl3, rfl, hoc, hol, -, -, -, -, hb⟩
  replace HA := hide ((unhide HA).step hb)
  replace HS := hide ((unhide HS).below hb)
  replace HSL := hide ((unhide HSL).below hb)
  replace HG := hide ((unhide HG).step hb)
  replace HGG := hide ((unhide HGG).step hb)
  replace HC := hide ((unhide HC).below hb)
  replace HCL := hide ((unhide HCL).below hb)
  replace HW := hide (Below.step (unhide HW) hb)
  have HV := hide hoc
  have HVL := hide hol
  clear hb hoc hol QC
  have hb := Below.alloc1 w25 (.cells #[.int .i64 wd', .int .i64 hg', .slice da3 D'.length dk3, .slice fa3 F'.length fk3, .int .i64 ed'] 27)
  have HGH := hide (ownV_alloc w25 #[.int .i64 wd', .int .i64 hg', .slice da3 D'.length dk3, .slice fa3 F'.length fk3, .int .i64 ed'] 27)
  replace HA := hide ((unhide HA).step hb)
  replace HS := hide ((unhide HS).below hb)
  replace HSL := hide ((unhide HSL).below hb)
  replace HG := hide ((unhide HG).step hb)
  replace HGG := hide ((unhide HGG).step hb)
  replace HC := hide ((unhide HC).below hb)
  replace HCL := hide ((unhide HCL).below hb)
  replace HV := hide ((unhide HV).below hb)
  replace HVL := hide ((unhide HVL).below hb)
  replace HW := hide (Below.step (unhide HW) hb)
  clear hb
  have HE := hide (eqChart_any wd' hg' ed' _ _ _ _ _ _ _ _ _ _ _ _ D' F' _ (unhide HV).ints (unhide HV).feats (unhide HS).ints (unhide HS).feats)
  unfold vChart at HE
  have a0 := (unhide HGH).cell (i := 0) rfl
  have a1 := (unhide HGH).cell (i := 1) rfl
  have a2 := (unhide HGH).cell (i := 2) rfl
  have a3 := (unhide HGH).cell (i := 3) rfl
  have a4 := (unhide HGH).cell (i := 4) rfl
  have b0 := (unhide HG).cell (i := 0) rfl
  have b1 := (unhide HG).cell (i := 1) rfl
  have b2 := (unhide HG).cell (i := 2) rfl
  have b3 := (unhide HG).cell (i := 3) rfl
  have b4 := (unhide HG).cell (i := 4) rfl
  go_wp2_with fail
  refine (unhide HE).mono ?_
  rintro e w26 ⟨rfl, hb⟩
  clear a0 a1 a2 a3 a4
  clear b0 b1 b2 b3 b4
  replace HA := hide ((unhide HA).step hb)
  replace HS := hide ((unhide HS).below hb)
  replace HSL := hide ((unhide HSL).below hb)
  replace HG := hide ((unhide HG).step hb)
  replace HGG := hide ((unhide HGG).step hb)
  replace HC := hide ((unhide HC).below hb)
  replace HCL := hide ((unhide HCL).below hb)
  replace HV := hide ((unhide HV).below hb)
  replace HVL := hide ((unhide HVL).below hb)
  replace HGH := hide ((unhide HGH).step hb)
  replace HW := hide (Below.step (unhide HW) hb)
  clear hb HE
  have HE := hide (eqIntS_o _ _ XS _ (unhide HVL).inn (unhide HSL).inn)
  go_wp2_with fail
  refine (unhide HE).mono ?_
  rintro e w27 ⟨rfl, hb⟩
  replace HA := hide ((unhide HA).step hb)
  replace HS := hide ((unhide HS).below hb)
  replace HSL := hide ((unhide HSL).below hb)
  replace HG := hide ((unhide HG).step hb)
  replace HGG := hide ((unhide HGG).step hb)
  replace HC := hide ((unhide HC).below hb)
  replace HCL := hide ((unhide HCL).below hb)
  replace HV := hide ((unhide HV).below hb)
  replace HVL := hide ((unhide HVL).below hb)
  replace HGH := hide ((unhide HGH).step hb)
  replace HW := hide (Below.step (unhide HW) hb)
  clear hb HE
  have a0 := (unhide HGG).cell (i := 0) rfl
  have a1 := (unhide HGG).cell (i := 1) rfl
  have a2 := (unhide HGG).cell (i := 2) rfl
  have a3 := (unhide HGG).cell (i := 3) rfl
  have a4 := (unhide HGG).cell (i := 4) rfl
  go_wp2_with fail
  refine (unhide HH _ (unhide HC)).mono ?_
  rintro e w28 ⟨rfl, hb⟩
  clear a0 a1 a2 a3 a4
  replace HA := hide ((unhide HA).step hb)
  replace HS := hide ((unhide HS).below hb)
  replace HSL := hide ((unhide HSL).below hb)
  replace HG := hide ((unhide HG).step hb)
  replace HGG := hide ((unhide HGG).step hb)
  replace HC := hide ((unhide HC).below hb)
  replace HCL := hide ((unhide HCL).below hb)
  replace HV := hide ((unhide HV).below hb)
  replace HVL := hide ((unhide HVL).below hb)
  replace HGH := hide ((unhide HGH).step hb)
  replace HW := hide (Below.step (unhide HW) hb)
  clear hb
  go_wp2_with fail
  refine (unhide HL2 _ (unhide HCL)).mono ?_
  rintro e w29 ⟨rfl, hb⟩
  replace HA := hide ((unhide HA).step hb)
  replace HS := hide ((unhide HS).below hb)
  replace HSL := hide ((unhide HSL).below hb)
  replace HG := hide ((unhide HG).step hb)
  replace HGG := hide ((unhide HGG).step hb)
  replace HC := hide ((unhide HC).below hb)
  replace HCL := hide ((unhide HCL).below hb)
  replace HV := hide ((unhide HV).below hb)
  replace HVL := hide ((unhide HVL).below hb)
  replace HGH := hide ((unhide HGH).step hb)
  replace HW := hide (Below.step (unhide HW) hb)
  clear hb
  go_wp2
  go_ret
  exact ⟨rfl, unhide HW⟩

end Go.Proofs.Ytmpicamenjnkkaa

/- Laid together out of: L6Apply6. -/
import Derived.Test.YtmpicamenjnkkaaPo
import Derived.Test.YtmpicamenjnkkaaPe
import Derived.Test.YtmpicamenjnkkaaPd
import Derived.Test.YtmpicamenjnkkaaPk
import Derived.Deep.RegionHeld3
import Derived.Deep.DeepCutAuto

/- The law of Apply6, walked. Written by wip/mkapply6.py. -/
namespace Go.Proofs.Ytmpicamenjnkkaa
open Go.RowKit

theorem below_undrewA {W W' : World} (hb : Below W.drew.heap.size W.drew W') : Below W.heap.size W W' := ⟨hb.os, hb.tape, hb.output, hb.size, hb.block⟩
theorem applyOf_bd (c : Ch) (u : UpT) (h1 : c.D.length ≤ 1048576) (h2 : c.F.length ≤ 1048576) : (applyOf c u).1.D.length ≤ 1048576 ∧ (applyOf c u).1.F.length ≤ 1048576 := by
  unfold applyOf
  split
  · exact ⟨h1, h2⟩
  · next hn =>
    split
    · exact ⟨h1, h2⟩
    · split
      · exact ⟨h1, h2⟩
      · split
        · have hc : chartB c = true := by cases h : chartB c <;> simp_all
          obtain ⟨_, _, _, q4, q5⟩ := notesOf_keeps u.2 c (chartB_head hc).2.2.2.2.2.1
          exact ⟨by simp only [q4]; exact h1, by simp only; omega⟩
        · exact ⟨h1, h2⟩
theorem blks_five {w W : World} {L : List (Nat × List Value)} {g : Nat} {a b c d e : Value} (h : Blks w W L) (ho : OwnV W g [a, b, c, d, e]) (hg : w.heap.size ≤ g) (hL : ∀ p ∈ L, p.1 ≠ g) (a' b' c' d' e' : Value) : Blks w (((((W.setCell ⟨g, 0, none⟩ a').setCell ⟨g, 1, none⟩ b').setCell ⟨g, 2, none⟩ c').setCell ⟨g, 3, none⟩ d').setCell ⟨g, 4, none⟩ e') ((g, [a', b', c', d', e']) :: L) :=
  (h.kept (L' := L) (kept_five (Kept.refl (fun b => b = g) W) rfl a' b' c' d' e') (fun b hb => by omega) (fun p hp => ⟨hp, hL p hp⟩)).push (own_five ho a' b' c' d' e') hg

set_option maxRecDepth 1000000 in
set_option maxHeartbeats 16000000 in
theorem lawApply6_any (c : Ch) (dao : Option Addr) (dn dc : Nat) (fao : Option Addr) (fn fc : Nat) (ed : Int) (nao : Option Addr) (nn nc : Nat) (U : List NoteT) (w : World) (hD : IntsIn w (.slice dao dn dc) c.D) (hF : RFeature w (.slice fao fn fc) c.F) (hT : ∀ i, i < c.F.length → (txtFeature (c.F.getD i default)).size ≤ maxLen) (hN : RNote w (.slice nao nn nc) U) (hTN : ∀ i, i < U.length → (txtNote (U.getD i default)).size ≤ maxLen)
    (hId : ∀ i, i < U.length → -9223372036854775808 ≤ (U.getD i default).2.1 ∧ (U.getD i default).2.1 ≤ 9223372036854775807) :
    Calls Try.prog 5 #[vChart c.wd c.hg (.slice dao dn dc) (.slice fao fn fc) c.ed, vUpdate ed (.slice nao nn nc)] w fun e w' => e = .returned (.bool true) ∧ Below w.heap.size w w' := by
  have hBd := applyOf_bd c (ed, U)
  have HSP := hide fun dao dn dc fao fn fc nao nn nc V h1 h2 h3 h4 h5 h6 => specApply6_any c ed U dao dn dc fao fn fc nao nn nc V h1 h2 h3 h4 h5 h6
  have HI := hide fun dao dn dc fao fn fc nao nn nc V h1 h2 h3 h4 h5 => implApply6_any c ed U dao dn dc fao fn fc nao nn nc V h1 h2 h3 h4 h5 hId
  obtain ⟨⟨⟨wd', hg', D', F', ed'⟩, code⟩, ev⟩ : ∃ z, z = applyOf c (ed, U) := ⟨_, rfl⟩
  rw [← ev] at hBd
  simp only [← ev] at HSP HI
  clear ev
  dsimp only at hBd HSP HI
  have HB := hide (((blks_nil w).made #[.int .i64 c.wd, .int .i64 c.hg, .slice dao dn dc, .slice fao fn fc, .int .i64 c.ed] 49).made #[.int .i64 ed, .slice nao nn nc] 52)
  simp only [World.size_alloc] at HB
  have HB0 : Hid (Blks w _ [(w.heap.size, [.int .i64 c.wd, .int .i64 c.hg, .slice dao dn dc, .slice fao fn fc, .int .i64 c.ed]), (w.heap.size + 1, [.int .i64 ed, .slice nao nn nc])]) := hide ((unhide HB).less (L' := [(w.heap.size, [.int .i64 c.wd, .int .i64 c.hg, .slice dao dn dc, .slice fao fn fc, .int .i64 c.ed]), (w.heap.size + 1, [.int .i64 ed, .slice nao nn nc])]) (by simp))
  replace HB := HB0
  clear HB0
  have HSZ := hide (szChart_any c.wd c.hg c.ed dao dn dc fao fn fc c.D c.F 1048576 _ (hD.below (unhide HB).below) (hF.below (unhide HB).below) hT (by omega) (by omega))
  have HSU : Hid (∀ l V, 0 ≤ l → l ≤ 1048576 → Below w.heap.size w V → Calls Try.prog 21 #[vUpdate ed (.slice nao nn nc), .int .i64 l] V fun e w' => ∃ r, e = .returned (.int .i64 r) ∧ SizedL U.length r ∧ Below V.heap.size V w') := fun l V h0 h1 hV => szUpdate_any ed nao nn nc U l V (hN.below hV) hTN h0 h1
  have HTO : Hid (c.D.length ≤ 1048576 → c.F.length ≤ 1048576 → ∀ V, Below w.heap.size w V → Calls Try.prog 23 #[vChart c.wd c.hg (.slice dao dn dc) (.slice fao fn fc) c.ed] V fun e w' => ∃ g1 g2, e = .returned (vChart c.wd c.hg (.slice (some ⟨g1, 0, none⟩) c.D.length c.D.length) (.slice (some ⟨g2, 0, none⟩) c.F.length c.F.length) c.ed) ∧ V.heap.size ≤ g1 ∧ g1 < g2 ∧ OwnV w' g1 (ints c.D) ∧ OwnV w' g2 (recCells 5 eFeature c.F) ∧ Below V.heap.size V w') :=
    fun h1 h2 V hV => toChart_any c.wd c.hg c.ed dao dn dc fao fn fc c.D c.F V (hD.below hV) (hF.below hV) h1 h2
  have HTU : Hid (U.length ≤ 1048576 → ∀ V, Below w.heap.size w V → Calls Try.prog 24 #[vUpdate ed (.slice nao nn nc)] V fun e w' => ∃ g, e = .returned (vUpdate ed (.slice (some ⟨g, 0, none⟩) U.length U.length)) ∧ V.heap.size ≤ g ∧ OwnV w' g (recCells 7 eNote U) ∧ Below V.heap.size V w') := fun h1 V hV => toUpdate_any ed nao nn nc U V (hN.below hV) h1
  clear hD hF hT hN hTN hId
  unfold vChart at HSZ HTO HSP HI ⊢
  unfold vUpdate at HSU HTU HSP HI ⊢
  go_enter Try.func5, Try.ntmps5
  go_wp2_with fail
  refine (unhide HSZ).mono ?_
  rintro e w1 ⟨r, rfl, hr0, hr1, hr2, hb⟩
  replace HB := hide ((unhide HB).step hb)
  have HR2 := hide hr2
  clear hb HSZ hr2
  by_cases hr : r < 0
  · have HW := hide (unhide HB).below
    go_wp2
    go_ret
    exact ⟨rfl, unhide HW⟩
  obtain ⟨hsD, hsF⟩ := unhide HR2 (by omega)
  replace HTO := hide (unhide HTO hsD hsF)
  obtain ⟨hD', hF'⟩ := hBd hsD hsF
  clear hBd
  have hq := (unhide HB).at (g := w.heap.size + 1) (vs := [.int .i64 ed, .slice nao nn nc]) (by simp)
  have b0 := hq.cell (i := 0) rfl
  have b1 := hq.cell (i := 1) rfl
  clear hq
  go_wp2_with fail
  refine (unhide HSU _ _ (by omega) (by omega) (unhide HB).below).mono ?_
  rintro e w2 ⟨r', rfl, ⟨hs0, hs1, hs2⟩, hb⟩
  replace HB := hide ((unhide HB).step hb)
  clear hb HSU b0 b1
  by_cases hr' : r' < 0
  · have HW := hide (unhide HB).below
    go_wp2
    go_ret
    exact ⟨rfl, unhide HW⟩
  have hsU := hs2 (by omega)
  replace HTU := hide (unhide HTU hsU)
  replace HSP := hide fun dao dn dc fao fn fc nao nn nc V h1 h2 h3 => unhide HSP dao dn dc fao fn fc nao nn nc V h1 h2 h3 hsD hsF hsU
  replace HI := hide fun dao dn dc fao fn fc nao nn nc V h1 h2 h3 => unhide HI dao dn dc fao fn fc nao nn nc V h1 h2 h3 hsD hsF
  have hq := (unhide HB).at (g := w.heap.size) (vs := [.int .i64 c.wd, .int .i64 c.hg, .slice dao dn dc, .slice fao fn fc, .int .i64 c.ed]) (by simp)
  have a0 := hq.cell (i := 0) rfl
  have a1 := hq.cell (i := 1) rfl
  have a2 := hq.cell (i := 2) rfl
  have a3 := hq.cell (i := 3) rfl
  have a4 := hq.cell (i := 4) rfl
  clear hq
  have hq := (unhide HB).at (g := w.heap.size + 1) (vs := [.int .i64 ed, .slice nao nn nc]) (by simp)
  have b0 := hq.cell (i := 0) rfl
  have b1 := hq.cell (i := 1) rfl
  clear hq
  have mo10 := (unhide HB).apart (g := w.heap.size) (vs := [.int .i64 c.wd, .int .i64 c.hg, .slice dao dn dc, .slice fao fn fc, .int .i64 c.ed]) (by simp); have mo11 := (unhide HB).apart (g := w.heap.size + 1) (vs := [.int .i64 ed, .slice nao nn nc]) (by simp); obtain ⟨mo1a, mo1b⟩ := mo10; obtain ⟨mo1c, mo1d⟩ := mo11
  go_wp2_with fail
  go_cut [6, 7] (fun sl sb wx => ∃ (gw : Nat) (da : Option Addr) (dk : Nat) (fa : Option Addr) (fk Bq Uq : Nat), sl = .pointer (some ⟨gw, 0, none⟩) ∧ sb = .int .i64 code ∧ Hid (Blks w wx [(gw, [.int .i64 wd', .int .i64 hg', .slice da D'.length dk, .slice fa F'.length fk, .int .i64 ed']), (w.heap.size, [.int .i64 c.wd, .int .i64 c.hg, .slice dao dn dc, .slice fao fn fc, .int .i64 c.ed]), (w.heap.size + 1, [.int .i64 ed, .slice nao nn nc])]) ∧ Hid (OwnCh Bq Uq wx da dk fa fk D' F' (recCells 5 eFeature F')))
  case first =>
    go_region_held3 (fun w' => w'.cell? ⟨w.heap.size, 0, none⟩ = some (.int .i64 c.wd) ∧ w'.cell? ⟨w.heap.size, 1, none⟩ = some (.int .i64 c.hg) ∧ w'.cell? ⟨w.heap.size, 2, none⟩ = some (.slice dao dn dc) ∧ w'.cell? ⟨w.heap.size, 3, none⟩ = some (.slice fao fn fc) ∧ w'.cell? ⟨w.heap.size, 4, none⟩ = some (.int .i64 c.ed) ∧ w'.cell? ⟨w.heap.size + 1, 0, none⟩ = some (.int .i64 ed) ∧ w'.cell? ⟨w.heap.size + 1, 1, none⟩ = some (.slice nao nn nc)) (go_keep) (first
      | (go_at_call 23; refine (unhide HTO _ (by first | exact (unhide HB).below | exact (unhide HB).below.drew | exact ((unhide HB).step (Below.alloc1 _ _)).below | exact ((unhide HB).step (Below.alloc1 _ _)).below.drew)).mono ?_; rintro e wa ⟨g1, g2, rfl, hg1, hg2, ho1, ho2, hb⟩; (try (have hgB := (unhide HNW).lt)); (first | (have HB' := hide ((unhide HB).step hb)) | (have HB' := hide ((unhide HB).step (below_undrewA hb))) | (have HB' := hide ((unhide HB).step (Below.step (Below.alloc1 _ _) hb)); have HNW := hide (OwnV.step (ownV_alloc _ _ _) hb); have hgN := (unhide HB).below.size; have hap := (fun p hp => (unhide HB).lt p hp)) | (have HB' := hide ((unhide HB).step (Below.step (Below.alloc1 _ _) (below_undrewA hb))); have HNW := hide (OwnV.step (OwnV.drew (ownV_alloc _ _ _)) hb); have hgN := (unhide HB).below.size; have hap := (fun p hp => (unhide HB).lt p hp))); replace HB := HB'; clear HB'; (try replace HNW := hide (OwnV.step (unhide HNW) hb)); (try (have n0 := (unhide HNW).cell (i := 0) rfl; have n1 := (unhide HNW).cell (i := 1) rfl; have n2 := (unhide HNW).cell (i := 2) rfl; have n3 := (unhide HNW).cell (i := 3) rfl; have n4 := (unhide HNW).cell (i := 4) rfl; have nf := (unhide HNW).frozen)); have HO1 := hide ho1; have HO2 := hide ho2; have hq := (unhide HB).at (g := w.heap.size) (vs := [.int .i64 c.wd, .int .i64 c.hg, .slice dao dn dc, .slice fao fn fc, .int .i64 c.ed]) (by simp); have txa0 := hq.cell (i := 0) rfl; have txa1 := hq.cell (i := 1) rfl; have txa2 := hq.cell (i := 2) rfl; have txa3 := hq.cell (i := 3) rfl; have txa4 := hq.cell (i := 4) rfl; clear hq; have hq := (unhide HB).at (g := w.heap.size + 1) (vs := [.int .i64 ed, .slice nao nn nc]) (by simp); have txb0 := hq.cell (i := 0) rfl; have txb1 := hq.cell (i := 1) rfl; clear hq; have mox0 := (unhide HB).apart (g := w.heap.size) (vs := [.int .i64 c.wd, .int .i64 c.hg, .slice dao dn dc, .slice fao fn fc, .int .i64 c.ed]) (by simp); have mox1 := (unhide HB).apart (g := w.heap.size + 1) (vs := [.int .i64 ed, .slice nao nn nc]) (by simp); obtain ⟨moxa, moxb⟩ := mox0; obtain ⟨moxc, moxd⟩ := mox1; clear hb ho1 ho2)
      | (go_at_call 24; refine (unhide HTU _ (by first | exact (unhide HB).below | exact (unhide HB).below.drew | exact ((unhide HB).step (Below.alloc1 _ _)).below | exact ((unhide HB).step (Below.alloc1 _ _)).below.drew)).mono ?_; rintro e wb ⟨g3, rfl, hg3, ho3, hb⟩; (try (have hgB := (unhide HNW).lt)); (first | (have HB' := hide ((unhide HB).step hb); have HO1' := hide (OwnV.step (unhide HO1) hb); have HO2' := hide (OwnV.step (unhide HO2) hb)) | (have HB' := hide ((unhide HB).step (below_undrewA hb)); have HO1' := hide (OwnV.step (unhide HO1) (below_undrewA hb)); have HO2' := hide (OwnV.step (unhide HO2) (below_undrewA hb))) | (have HB' := hide ((unhide HB).step (Below.step (Below.alloc1 _ _) hb)); have HO1' := hide (OwnV.step (unhide HO1) (Below.step (Below.alloc1 _ _) hb)); have HO2' := hide (OwnV.step (unhide HO2) (Below.step (Below.alloc1 _ _) hb)); have HNW := hide (OwnV.step (ownV_alloc _ _ _) hb); have hgN := (unhide HB).below.size; have hap := (fun p hp => (unhide HB).lt p hp)) | (have HB' := hide ((unhide HB).step (Below.step (Below.alloc1 _ _) (below_undrewA hb))); have HO1' := hide (OwnV.step (unhide HO1) (Below.step (Below.alloc1 _ _) (below_undrewA hb))); have HO2' := hide (OwnV.step (unhide HO2) (Below.step (Below.alloc1 _ _) (below_undrewA hb))); have HNW := hide (OwnV.step (OwnV.drew (ownV_alloc _ _ _)) hb); have hgN := (unhide HB).below.size; have hap := (fun p hp => (unhide HB).lt p hp))); replace HB := HB'; clear HB'; replace HO1 := HO1'; clear HO1'; replace HO2 := HO2'; clear HO2'; (try replace HNW := hide (OwnV.step (unhide HNW) hb)); (try (have n0 := (unhide HNW).cell (i := 0) rfl; have n1 := (unhide HNW).cell (i := 1) rfl; have n2 := (unhide HNW).cell (i := 2) rfl; have n3 := (unhide HNW).cell (i := 3) rfl; have n4 := (unhide HNW).cell (i := 4) rfl; have nf := (unhide HNW).frozen)); have HO3 := hide ho3; have hq := (unhide HB).at (g := w.heap.size) (vs := [.int .i64 c.wd, .int .i64 c.hg, .slice dao dn dc, .slice fao fn fc, .int .i64 c.ed]) (by simp); have tya0 := hq.cell (i := 0) rfl; have tya1 := hq.cell (i := 1) rfl; have tya2 := hq.cell (i := 2) rfl; have tya3 := hq.cell (i := 3) rfl; have tya4 := hq.cell (i := 4) rfl; clear hq; have hq := (unhide HB).at (g := w.heap.size + 1) (vs := [.int .i64 ed, .slice nao nn nc]) (by simp); have tyb0 := hq.cell (i := 0) rfl; have tyb1 := hq.cell (i := 1) rfl; clear hq; have moy0 := (unhide HB).apart (g := w.heap.size) (vs := [.int .i64 c.wd, .int .i64 c.hg, .slice dao dn dc, .slice fao fn fc, .int .i64 c.ed]) (by simp); have moy1 := (unhide HB).apart (g := w.heap.size + 1) (vs := [.int .i64 ed, .slice nao nn nc]) (by simp); obtain ⟨moya, moyb⟩ := moy0; obtain ⟨moyc, moyd⟩ := moy1; clear hb ho3)
      | (go_at_call 22; refine (unhide HSP _ _ _ _ _ _ _ _ _ _ (by first | exact OwnV.intsIn (unhide HO1) (Nat.le_refl _) (by unfold maxLen; omega) | exact OwnV.intsIn (OwnV.drew (unhide HO1)) (Nat.le_refl _) (by unfold maxLen; omega) | exact OwnV.intsIn (OwnV.step (unhide HO1) (Below.alloc1 _ _)) (Nat.le_refl _) (by unfold maxLen; omega) | exact OwnV.intsIn (OwnV.drew (OwnV.step (unhide HO1) (Below.alloc1 _ _))) (Nat.le_refl _) (by unfold maxLen; omega)) (by first | exact OwnV.recsIn (unhide HO2) (Nat.le_refl _) (by unfold maxLen; omega) | exact OwnV.recsIn (OwnV.drew (unhide HO2)) (Nat.le_refl _) (by unfold maxLen; omega) | exact OwnV.recsIn (OwnV.step (unhide HO2) (Below.alloc1 _ _)) (Nat.le_refl _) (by unfold maxLen; omega) | exact OwnV.recsIn (OwnV.drew (OwnV.step (unhide HO2) (Below.alloc1 _ _))) (Nat.le_refl _) (by unfold maxLen; omega)) (by first | exact OwnV.recsIn (unhide HO3) (Nat.le_refl _) (by unfold maxLen; omega) | exact OwnV.recsIn (OwnV.drew (unhide HO3)) (Nat.le_refl _) (by unfold maxLen; omega) | exact OwnV.recsIn (OwnV.step (unhide HO3) (Below.alloc1 _ _)) (Nat.le_refl _) (by unfold maxLen; omega) | exact OwnV.recsIn (OwnV.drew (OwnV.step (unhide HO3) (Below.alloc1 _ _))) (Nat.le_refl _) (by unfold maxLen; omega))).mono ?_; rintro e wc' ⟨qa, qk, qb, ql, rfl, hoc, hb⟩; (try (have hgB := (unhide HNW).lt)); (first | (have HB' := hide ((unhide HB).step hb)) | (have HB' := hide ((unhide HB).step (below_undrewA hb))) | (have HB' := hide ((unhide HB).step (Below.step (Below.alloc1 _ _) hb)); have HNW := hide (OwnV.step (ownV_alloc _ _ _) hb); have hgN := (unhide HB).below.size; have hap := (fun p hp => (unhide HB).lt p hp)) | (have HB' := hide ((unhide HB).step (Below.step (Below.alloc1 _ _) (below_undrewA hb))); have HNW := hide (OwnV.step (OwnV.drew (ownV_alloc _ _ _)) hb); have hgN := (unhide HB).below.size; have hap := (fun p hp => (unhide HB).lt p hp))); replace HB := HB'; clear HB'; (try replace HNW := hide (OwnV.step (unhide HNW) hb)); (try (have n0 := (unhide HNW).cell (i := 0) rfl; have n1 := (unhide HNW).cell (i := 1) rfl; have n2 := (unhide HNW).cell (i := 2) rfl; have n3 := (unhide HNW).cell (i := 3) rfl; have n4 := (unhide HNW).cell (i := 4) rfl; have nf := (unhide HNW).frozen)); have HS9 := hide hoc; have hq := (unhide HB).at (g := w.heap.size) (vs := [.int .i64 c.wd, .int .i64 c.hg, .slice dao dn dc, .slice fao fn fc, .int .i64 c.ed]) (by simp); have tza0 := hq.cell (i := 0) rfl; have tza1 := hq.cell (i := 1) rfl; have tza2 := hq.cell (i := 2) rfl; have tza3 := hq.cell (i := 3) rfl; have tza4 := hq.cell (i := 4) rfl; clear hq; have hq := (unhide HB).at (g := w.heap.size + 1) (vs := [.int .i64 ed, .slice nao nn nc]) (by simp); have tzb0 := hq.cell (i := 0) rfl; have tzb1 := hq.cell (i := 1) rfl; clear hq; have moz0 := (unhide HB).apart (g := w.heap.size) (vs := [.int .i64 c.wd, .int .i64 c.hg, .slice dao dn dc, .slice fao fn fc, .int .i64 c.ed]) (by simp); have moz1 := (unhide HB).apart (g := w.heap.size + 1) (vs := [.int .i64 ed, .slice nao nn nc]) (by simp); obtain ⟨moza, mozb⟩ := moz0; obtain ⟨mozc, mozd⟩ := moz1; clear hb hoc))
    all_goals
      go_wp2_with fail
      go_meet
      first
        | exact ⟨_, _, _, _, _, _, _, rfl, rfl, (unhide HB).made _ _, (unhide HS9).below (Below.alloc1 _ _)⟩
        | exact ⟨_, _, _, _, _, _, _, rfl, rfl, blks_five (unhide HB) (unhide HNW) hgN (fun p hp => by have := hap p hp; omega) _ _ _ _ _, (unhide HS9).kept (kept_five (Kept.refl (fun b => b = _) _) rfl _ _ _ _ _) (fun b hb1 hb2 e => by first | omega | (simp only [World.size_alloc] at hb1; omega) | (have hb3 : _ ≤ b := hb1; simp [World.drew] at hb3; omega))⟩
  case rest =>
  obtain ⟨gw, da, dk, fa, fk, Bq, Uq, rfl, rfl, HB', HS'⟩ := hcut
  clear HB a0 a1 a2 a3 a4 b0 b1 HSP mo1a mo1b mo1c mo1d
  have HB := HB'
  have HS := HS'
  clear HB' HS'
  obtain ⟨hqB, hqU⟩ := (unhide HS).sizes
  have hgw : gw < wc.heap.size := (unhide HB).lt (gw, [.int .i64 wd', .int .i64 hg', .slice da D'.length dk, .slice fa F'.length fk, .int .i64 ed']) (by simp)
  have hgA : w.heap.size + 1 < wc.heap.size := (unhide HB).lt (w.heap.size + 1, [.int .i64 ed, .slice nao nn nc]) (by simp)
  have hq := (unhide HB).at (g := w.heap.size) (vs := [.int .i64 c.wd, .int .i64 c.hg, .slice dao dn dc, .slice fao fn fc, .int .i64 c.ed]) (by simp)
  have a0 := hq.cell (i := 0) rfl
  have a1 := hq.cell (i := 1) rfl
  have a2 := hq.cell (i := 2) rfl
  have a3 := hq.cell (i := 3) rfl
  have a4 := hq.cell (i := 4) rfl
  clear hq
  go_wp2_with fail
  refine (unhide HTO _ (unhide HB).below).mono ?_
  rintro e w4 ⟨g1, g2, rfl, hg1, hg2, ho1, ho2, hb⟩
  have zc := (unhide HB).below.size
  replace HB := hide ((unhide HB).step hb)
  replace HS := hide ((unhide HS).below hb)
  have l1 := ho1.lt
  have l2 := ho2.lt
  clear hb
  clear a0 a1 a2 a3 a4
  have AL := Below.alloc1 w4 (.cells #[.int .i64 c.wd, .int .i64 c.hg, .slice (some ⟨g1, 0, none⟩) c.D.length c.D.length, .slice (some ⟨g2, 0, none⟩) c.F.length c.F.length, .int .i64 c.ed] 27)
  replace HB := hide ((((unhide HB).push ho1 (by omega)).push ho2 (by omega)).made #[.int .i64 c.wd, .int .i64 c.hg, .slice (some ⟨g1, 0, none⟩) c.D.length c.D.length, .slice (some ⟨g2, 0, none⟩) c.F.length c.F.length, .int .i64 c.ed] 27)
  replace HS := hide ((unhide HS).below AL)
  clear AL
  go_upto_region 10 with (fail)
  obtain ⟨W4, eW4⟩ : ∃ z, z = w4.alloc (.cells #[.int .i64 c.wd, .int .i64 c.hg, .slice (some ⟨g1, 0, none⟩) c.D.length c.D.length, .slice (some ⟨g2, 0, none⟩) c.F.length c.F.length, .int .i64 c.ed] 27) := ⟨_, rfl⟩
  obtain ⟨gx, egx⟩ : ∃ z, z = w4.heap.size := ⟨_, rfl⟩
  rw [← eW4] at HB HS ⊢
  have zW4 : W4.heap.size = gx + 1 := by rw [eW4, World.size_alloc, egx]
  have ygx : w4.heap.size = gx := egx.symm
  rw [← egx] at HB ⊢
  clear eW4 egx
  clear ho1 ho2
  have hq := (unhide HB).at (g := w.heap.size + 1) (vs := [.int .i64 ed, .slice nao nn nc]) (by simp)
  have b0 := hq.cell (i := 0) rfl
  have b1 := hq.cell (i := 1) rfl
  clear hq
  go_wp2_with fail
  refine (unhide HTU _ (unhide HB).below).mono ?_
  rintro e w5 ⟨g3, rfl, hg3, ho3, hb⟩
  replace HB := hide ((unhide HB).step hb)
  replace HS := hide ((unhide HS).below hb)
  have l3 := ho3.lt
  clear hb
  clear b0 b1
  have AL := Below.alloc1 w5 (.cells #[.int .i64 ed, .slice (some ⟨g3, 0, none⟩) U.length U.length] 35)
  replace HB := hide (((unhide HB).push ho3 (by omega)).made #[.int .i64 ed, .slice (some ⟨g3, 0, none⟩) U.length U.length] 35)
  replace HS := hide ((unhide HS).below AL)
  clear AL
  go_upto_region 11 with (fail)
  obtain ⟨W5, eW5⟩ : ∃ z, z = w5.alloc (.cells #[.int .i64 ed, .slice (some ⟨g3, 0, none⟩) U.length U.length] 35) := ⟨_, rfl⟩
  obtain ⟨gy, egy⟩ : ∃ z, z = w5.heap.size := ⟨_, rfl⟩
  rw [← eW5] at HB HS ⊢
  have zW5 : W5.heap.size = gy + 1 := by rw [eW5, World.size_alloc, egy]
  have ygy : w5.heap.size = gy := egy.symm
  rw [← egy] at HB ⊢
  clear eW5 egy
  clear ho3
  have HIC := hide (unhide HI _ _ _ _ _ _ _ _ _ _ (OwnV.intsIn ((unhide HB).at (g := g1) (vs := ints c.D) (by simp)) (Nat.le_refl _) (by unfold maxLen; omega)) (OwnV.recsIn ((unhide HB).at (g := g2) (vs := recCells 5 eFeature c.F) (by simp)) (Nat.le_refl _) (by unfold maxLen; omega)) (OwnV.recsIn ((unhide HB).at (g := g3) (vs := recCells 7 eNote U) (by simp)) (Nat.le_refl _) (by unfold maxLen; omega)))
  have hq := (unhide HB).at (g := gx) (vs := [.int .i64 c.wd, .int .i64 c.hg, .slice (some ⟨g1, 0, none⟩) c.D.length c.D.length, .slice (some ⟨g2, 0, none⟩) c.F.length c.F.length, .int .i64 c.ed]) (by simp)
  have b0 := hq.cell (i := 0) rfl
  have b1 := hq.cell (i := 1) rfl
  have b2 := hq.cell (i := 2) rfl
  have b3 := hq.cell (i := 3) rfl
  have b4 := hq.cell (i := 4) rfl
  clear hq
  have hq := (unhide HB).at (g := gy) (vs := [.int .i64 ed, .slice (some ⟨g3, 0, none⟩) U.length U.length]) (by simp)
  have d0 := hq.cell (i := 0) rfl
  have d1 := hq.cell (i := 1) rfl
  clear hq
  go_wp2_with fail
  refine (unhide HIC).mono ?_
  rintro e w6 ⟨da2, dk2, fa2, fk2, rfl, hog, hb⟩
  have z6 := hb.size
  replace HB := hide ((unhide HB).step hb)
  replace HS := hide ((unhide HS).below hb)
  have HG := hide hog
  obtain ⟨B2, eB2⟩ : ∃ z, z = W5.heap.size := ⟨_, rfl⟩
  obtain ⟨U2, eU2⟩ : ∃ z, z = w6.heap.size := ⟨_, rfl⟩
  rw [← eB2, ← eU2] at HG
  clear hb hog HIC
  clear b0 b1 b2 b3 b4 d0 d1
  have AL := Below.alloc1 w6 (.cells #[.int .i64 wd', .int .i64 hg', .slice da2 D'.length dk2, .slice fa2 F'.length fk2, .int .i64 ed'] 27)
  replace HB := hide ((unhide HB).made #[.int .i64 wd', .int .i64 hg', .slice da2 D'.length dk2, .slice fa2 F'.length fk2, .int .i64 ed'] 27)
  replace HS := hide ((unhide HS).below AL)
  replace HG := hide ((unhide HG).below AL)
  clear AL
  go_upto_region 12 with (fail)
  obtain ⟨W6, eW6⟩ : ∃ z, z = w6.alloc (.cells #[.int .i64 wd', .int .i64 hg', .slice da2 D'.length dk2, .slice fa2 F'.length fk2, .int .i64 ed'] 27) := ⟨_, rfl⟩
  obtain ⟨gg, egg⟩ : ∃ z, z = w6.heap.size := ⟨_, rfl⟩
  rw [← eW6] at HB HS HG ⊢
  have zW6 : W6.heap.size = gg + 1 := by rw [eW6, World.size_alloc, egg]
  have ygg : w6.heap.size = gg := egg.symm
  rw [← egg] at HB ⊢
  clear eW6 egg
  have hcc : (code != code) = false := by simp
  have HE := hide (eqChart_any wd' hg' ed' _ _ _ _ _ _ _ _ _ _ _ _ D' F' _ (unhide HG).ints (unhide HG).feats (unhide HS).ints (unhide HS).feats)
  unfold vChart at HE
  have hq := (unhide HB).at (g := gg) (vs := [.int .i64 wd', .int .i64 hg', .slice da2 D'.length dk2, .slice fa2 F'.length fk2, .int .i64 ed']) (by simp)
  have a0 := hq.cell (i := 0) rfl
  have a1 := hq.cell (i := 1) rfl
  have a2 := hq.cell (i := 2) rfl
  have a3 := hq.cell (i := 3) rfl
  have a4 := hq.cell (i := 4) rfl
  clear hq
  have hq := (unhide HB).at (g := gw) (vs := [.int .i64 wd', .int .i64 hg', .slice da D'.length dk, .slice fa F'.length fk, .int .i64 ed']) (by simp)
  have b0 := hq.cell (i := 0) rfl
  have b1 := hq.cell (i := 1) rfl
  have b2 := hq.cell (i := 2) rfl
  have b3 := hq.cell (i := 3) rfl
  have b4 := hq.cell (i := 4) rfl
  clear hq
  go_wp2_with fail
  refine (unhide HE).mono ?_
  rintro e w7 ⟨rfl, hb⟩
  replace HB := hide ((unhide HB).step hb)
  replace HS := hide ((unhide HS).below hb)
  replace HG := hide ((unhide HG).below hb)
  have zw7 := hb.size
  clear hb HE
  clear a0 a1 a2 a3 a4 b0 b1 b2 b3 b4
  have hq := (unhide HB).at (g := w.heap.size) (vs := [.int .i64 c.wd, .int .i64 c.hg, .slice dao dn dc, .slice fao fn fc, .int .i64 c.ed]) (by simp)
  have a00 := hq.cell (i := 0) rfl
  have a01 := hq.cell (i := 1) rfl
  have a02 := hq.cell (i := 2) rfl
  have a03 := hq.cell (i := 3) rfl
  have a04 := hq.cell (i := 4) rfl
  clear hq
  have hq := (unhide HB).at (g := gx) (vs := [.int .i64 c.wd, .int .i64 c.hg, .slice (some ⟨g1, 0, none⟩) c.D.length c.D.length, .slice (some ⟨g2, 0, none⟩) c.F.length c.F.length, .int .i64 c.ed]) (by simp)
  have a10 := hq.cell (i := 0) rfl
  have a11 := hq.cell (i := 1) rfl
  have a12 := hq.cell (i := 2) rfl
  have a13 := hq.cell (i := 3) rfl
  have a14 := hq.cell (i := 4) rfl
  clear hq
  go_wp2_with fail
  go_region_held3 (fun w' => w'.cell? ⟨w.heap.size, 0, none⟩ = some (.int .i64 c.wd) ∧ w'.cell? ⟨w.heap.size, 1, none⟩ = some (.int .i64 c.hg) ∧ w'.cell? ⟨w.heap.size, 2, none⟩ = some (.slice dao dn dc) ∧ w'.cell? ⟨w.heap.size, 3, none⟩ = some (.slice fao fn fc) ∧ w'.cell? ⟨w.heap.size, 4, none⟩ = some (.int .i64 c.ed) ∧ w'.cell? ⟨gx, 0, none⟩ = some (.int .i64 c.wd) ∧ w'.cell? ⟨gx, 1, none⟩ = some (.int .i64 c.hg) ∧ w'.cell? ⟨gx, 2, none⟩ = some (.slice (some ⟨g1, 0, none⟩) c.D.length c.D.length) ∧ w'.cell? ⟨gx, 3, none⟩ = some (.slice (some ⟨g2, 0, none⟩) c.F.length c.F.length) ∧ w'.cell? ⟨gx, 4, none⟩ = some (.int .i64 c.ed)) (go_keep) (first
    | (go_at_call 23; refine (unhide HTO _ (by first | exact (unhide HB).below | exact (unhide HB).below.drew)).mono ?_; rintro e w9 ⟨g7, g8, rfl, hg7, hg8, ho7, ho8, hb7⟩; have hb7' : Below w7.heap.size w7 w9 := (by first | exact hb7 | exact ⟨hb7.os, hb7.tape, hb7.output, hb7.size, hb7.block⟩); have z9 := hb7'.size; replace HB := hide ((unhide HB).step hb7'); replace HS := hide ((unhide HS).below hb7'); replace HG := hide ((unhide HG).below hb7'); have HE := hide (eqChart_any c.wd c.hg c.ed _ _ _ _ _ _ _ _ _ _ _ _ c.D c.F w9 (OwnV.intsIn ((unhide HB).at (g := g1) (vs := ints c.D) (by simp)) (Nat.le_refl _) (by unfold maxLen; omega)) (OwnV.recsIn ((unhide HB).at (g := g2) (vs := recCells 5 eFeature c.F) (by simp)) (Nat.le_refl _) (by unfold maxLen; omega)) (OwnV.intsIn ho7 (Nat.le_refl _) (by unfold maxLen; omega)) (OwnV.recsIn ho8 (Nat.le_refl _) (by unfold maxLen; omega))); unfold vChart at HE; have hq := (unhide HB).at (g := w.heap.size) (vs := [.int .i64 c.wd, .int .i64 c.hg, .slice dao dn dc, .slice fao fn fc, .int .i64 c.ed]) (by simp); have ff00 := hq.cell (i := 0) rfl; have ff01 := hq.cell (i := 1) rfl; have ff02 := hq.cell (i := 2) rfl; have ff03 := hq.cell (i := 3) rfl; have ff04 := hq.cell (i := 4) rfl; clear hq; have hq := (unhide HB).at (g := gx) (vs := [.int .i64 c.wd, .int .i64 c.hg, .slice (some ⟨g1, 0, none⟩) c.D.length c.D.length, .slice (some ⟨g2, 0, none⟩) c.F.length c.F.length, .int .i64 c.ed]) (by simp); have ff10 := hq.cell (i := 0) rfl; have ff11 := hq.cell (i := 1) rfl; have ff12 := hq.cell (i := 2) rfl; have ff13 := hq.cell (i := 3) rfl; have ff14 := hq.cell (i := 4) rfl; clear hq; clear hb7 hb7')
    | (go_at_call 25; refine (unhide HE).mono ?_; rintro e w10 ⟨rfl, hb8⟩; have z10 := hb8.size; replace HB := hide ((unhide HB).step hb8); replace HS := hide ((unhide HS).below hb8); replace HG := hide ((unhide HG).below hb8); have hq := (unhide HB).at (g := w.heap.size) (vs := [.int .i64 c.wd, .int .i64 c.hg, .slice dao dn dc, .slice fao fn fc, .int .i64 c.ed]) (by simp); have k00 := hq.cell (i := 0) rfl; have k01 := hq.cell (i := 1) rfl; have k02 := hq.cell (i := 2) rfl; have k03 := hq.cell (i := 3) rfl; have k04 := hq.cell (i := 4) rfl; clear hq; have hq := (unhide HB).at (g := gx) (vs := [.int .i64 c.wd, .int .i64 c.hg, .slice (some ⟨g1, 0, none⟩) c.D.length c.D.length, .slice (some ⟨g2, 0, none⟩) c.F.length c.F.length, .int .i64 c.ed]) (by simp); have k10 := hq.cell (i := 0) rfl; have k11 := hq.cell (i := 1) rfl; have k12 := hq.cell (i := 2) rfl; have k13 := hq.cell (i := 3) rfl; have k14 := hq.cell (i := 4) rfl; clear hq; clear hb8))
  clear HE
  have hq := (unhide HB).at (g := w.heap.size + 1) (vs := [.int .i64 ed, .slice nao nn nc]) (by simp)
  have a00 := hq.cell (i := 0) rfl
  have a01 := hq.cell (i := 1) rfl
  clear hq
  have hq := (unhide HB).at (g := gy) (vs := [.int .i64 ed, .slice (some ⟨g3, 0, none⟩) U.length U.length]) (by simp)
  have a10 := hq.cell (i := 0) rfl
  have a11 := hq.cell (i := 1) rfl
  clear hq
  go_wp2_with fail
  go_region_held3 (fun w' => w'.cell? ⟨w.heap.size + 1, 0, none⟩ = some (.int .i64 ed) ∧ w'.cell? ⟨w.heap.size + 1, 1, none⟩ = some (.slice nao nn nc) ∧ w'.cell? ⟨gy, 0, none⟩ = some (.int .i64 ed) ∧ w'.cell? ⟨gy, 1, none⟩ = some (.slice (some ⟨g3, 0, none⟩) U.length U.length)) (go_keep) (first
    | (go_at_call 24; refine (unhide HTU _ (by first | exact (unhide HB).below | exact (unhide HB).below.drew)).mono ?_; rintro e w9 ⟨g9, rfl, hg9, ho9, hb7⟩; have hb7' : Below w10.heap.size w10 w9 := (by first | exact hb7 | exact ⟨hb7.os, hb7.tape, hb7.output, hb7.size, hb7.block⟩); have z9 := hb7'.size; replace HB := hide ((unhide HB).step hb7'); replace HS := hide ((unhide HS).below hb7'); replace HG := hide ((unhide HG).below hb7'); have HE := hide (eqUpdate_any ed _ _ _ _ _ _ U w9 (OwnV.recsIn ((unhide HB).at (g := g3) (vs := recCells 7 eNote U) (by simp)) (Nat.le_refl _) (by unfold maxLen; omega)) (OwnV.recsIn ho9 (Nat.le_refl _) (by unfold maxLen; omega))); unfold vUpdate at HE; have hq := (unhide HB).at (g := w.heap.size + 1) (vs := [.int .i64 ed, .slice nao nn nc]) (by simp); have ff00 := hq.cell (i := 0) rfl; have ff01 := hq.cell (i := 1) rfl; clear hq; have hq := (unhide HB).at (g := gy) (vs := [.int .i64 ed, .slice (some ⟨g3, 0, none⟩) U.length U.length]) (by simp); have ff10 := hq.cell (i := 0) rfl; have ff11 := hq.cell (i := 1) rfl; clear hq; clear hb7 hb7')
    | (go_at_call 26; refine (unhide HE).mono ?_; rintro e w11 ⟨rfl, hb8⟩; have z10 := hb8.size; replace HB := hide ((unhide HB).step hb8); replace HS := hide ((unhide HS).below hb8); replace HG := hide ((unhide HG).below hb8); have hq := (unhide HB).at (g := w.heap.size + 1) (vs := [.int .i64 ed, .slice nao nn nc]) (by simp); have k00 := hq.cell (i := 0) rfl; have k01 := hq.cell (i := 1) rfl; clear hq; have hq := (unhide HB).at (g := gy) (vs := [.int .i64 ed, .slice (some ⟨g3, 0, none⟩) U.length U.length]) (by simp); have k10 := hq.cell (i := 0) rfl; have k11 := hq.cell (i := 1) rfl; clear hq; clear hb8))
  clear HE
  have HM := hide (markChart_any c.wd c.hg c.ed _ c.D.length _ c.F.length c.D c.F g1 g2 1 w11 (fun _ => ⟨rfl, (unhide HB).at (g := g1) (vs := ints c.D) (by simp)⟩) (fun _ => ⟨rfl, (unhide HB).at (g := g2) (vs := recCells 5 eFeature c.F) (by simp)⟩) (by omega) (((unhide HB).at (g := g1) (vs := ints c.D) (by simp)).lt) hsD hsF (by omega) (by omega))
  unfold vChart at HM
  have hq := (unhide HB).at (g := gx) (vs := [.int .i64 c.wd, .int .i64 c.hg, .slice (some ⟨g1, 0, none⟩) c.D.length c.D.length, .slice (some ⟨g2, 0, none⟩) c.F.length c.F.length, .int .i64 c.ed]) (by simp)
  have a0 := hq.cell (i := 0) rfl
  have a1 := hq.cell (i := 1) rfl
  have a2 := hq.cell (i := 2) rfl
  have a3 := hq.cell (i := 3) rfl
  have a4 := hq.cell (i := 4) rfl
  clear hq
  go_wp2_with fail
  refine (unhide HM).mono ?_
  rintro e w12 ⟨rfl, hk, -, -⟩
  clear HM a0 a1 a2 a3 a4
  have hwx := (unhide HB).lt (gx, [.int .i64 c.wd, .int .i64 c.hg, .slice (some ⟨g1, 0, none⟩) c.D.length c.D.length, .slice (some ⟨g2, 0, none⟩) c.F.length c.F.length, .int .i64 c.ed]) (by simp)
  have z12 := hk.size
  replace HB := hide ((unhide HB).kept (L' := [(gg, [.int .i64 wd', .int .i64 hg', .slice da2 D'.length dk2, .slice fa2 F'.length fk2, .int .i64 ed']), (gy, [.int .i64 ed, .slice (some ⟨g3, 0, none⟩) U.length U.length]), (g3, recCells 7 eNote U), (gw, [.int .i64 wd', .int .i64 hg', .slice da D'.length dk, .slice fa F'.length fk, .int .i64 ed']), (w.heap.size, [.int .i64 c.wd, .int .i64 c.hg, .slice dao dn dc, .slice fao fn fc, .int .i64 c.ed]), (w.heap.size + 1, [.int .i64 ed, .slice nao nn nc])]) hk (fun b h => by omega) (by intro p hp; simp only [List.mem_cons, List.not_mem_nil, or_false] at hp; rcases hp with rfl | rfl | rfl | rfl | rfl | rfl <;> exact ⟨by simp, by simp only; omega⟩))
  replace HS := hide ((unhide HS).kept hk (fun b h1 h2 e => by omega))
  replace HG := hide ((unhide HG).kept hk (fun b h1 h2 e => by omega))
  clear hk
  generalize hkk : (1 : Int) + c.D.length + 5 * (c.F.length : Int) = kk
  have hk0 : 0 ≤ kk := by omega
  have hk1 : kk ≤ 1073741824 := by omega
  clear hkk
  have HM := hide (markUpdate_any ed g3 U.length U kk w12 ((unhide HB).at (g := g3) (vs := recCells 7 eNote U) (by simp)) hsU hk0 hk1)
  unfold vUpdate at HM
  have hq := (unhide HB).at (g := gy) (vs := [.int .i64 ed, .slice (some ⟨g3, 0, none⟩) U.length U.length]) (by simp)
  have a0 := hq.cell (i := 0) rfl
  have a1 := hq.cell (i := 1) rfl
  clear hq
  go_wp2_with fail
  refine (unhide HM).mono ?_
  rintro e w13 ⟨rfl, hk⟩
  clear HM a0 a1
  have z13 := hk.size
  replace HB := hide ((unhide HB).kept (L' := [(gg, [.int .i64 wd', .int .i64 hg', .slice da2 D'.length dk2, .slice fa2 F'.length fk2, .int .i64 ed']), (gw, [.int .i64 wd', .int .i64 hg', .slice da D'.length dk, .slice fa F'.length fk, .int .i64 ed']), (w.heap.size, [.int .i64 c.wd, .int .i64 c.hg, .slice dao dn dc, .slice fao fn fc, .int .i64 c.ed]), (w.heap.size + 1, [.int .i64 ed, .slice nao nn nc])]) hk (fun b h => by omega) (by intro p hp; simp only [List.mem_cons, List.not_mem_nil, or_false] at hp; rcases hp with rfl | rfl | rfl | rfl <;> exact ⟨by simp, by simp only; omega⟩))
  replace HS := hide ((unhide HS).kept hk (fun b h1 h2 e => by omega))
  replace HG := hide ((unhide HG).kept hk (fun b h1 h2 e => by omega))
  clear hk
  generalize hkq : kk + 7 * (U.length : Int) = kq
  have hq0 : decide (kq < 0) = false := decide_eq_false (by omega)
  have hq0' : ¬ kq < 0 := by omega
  clear hkq
  have HE := hide (eqChart_any wd' hg' ed' _ _ _ _ _ _ _ _ _ _ _ _ D' F' _ (unhide HG).ints (unhide HG).feats (unhide HS).ints (unhide HS).feats)
  unfold vChart at HE
  have hq := (unhide HB).at (g := gg) (vs := [.int .i64 wd', .int .i64 hg', .slice da2 D'.length dk2, .slice fa2 F'.length fk2, .int .i64 ed']) (by simp)
  have a0 := hq.cell (i := 0) rfl
  have a1 := hq.cell (i := 1) rfl
  have a2 := hq.cell (i := 2) rfl
  have a3 := hq.cell (i := 3) rfl
  have a4 := hq.cell (i := 4) rfl
  clear hq
  have hq := (unhide HB).at (g := gw) (vs := [.int .i64 wd', .int .i64 hg', .slice da D'.length dk, .slice fa F'.length fk, .int .i64 ed']) (by simp)
  have b0 := hq.cell (i := 0) rfl
  have b1 := hq.cell (i := 1) rfl
  have b2 := hq.cell (i := 2) rfl
  have b3 := hq.cell (i := 3) rfl
  have b4 := hq.cell (i := 4) rfl
  clear hq
  go_wp2_with fail
  refine (unhide HE).mono ?_
  rintro e w14 ⟨rfl, hb⟩
  replace HB := hide ((unhide HB).step hb)
  replace HS := hide ((unhide HS).below hb)
  replace HG := hide ((unhide HG).below hb)
  have zw14 := hb.size
  clear hb HE
  clear a0 a1 a2 a3 a4 b0 b1 b2 b3 b4
  have HM := hide (markChart_v B2 U2 wd' hg' ed' da2 dk2 fa2 fk2 D' F' w14 (unhide HG) hD' hF')
  unfold vChart at HM
  have hq := (unhide HB).at (g := gg) (vs := [.int .i64 wd', .int .i64 hg', .slice da2 D'.length dk2, .slice fa2 F'.length fk2, .int .i64 ed']) (by simp)
  have a0 := hq.cell (i := 0) rfl
  have a1 := hq.cell (i := 1) rfl
  have a2 := hq.cell (i := 2) rfl
  have a3 := hq.cell (i := 3) rfl
  have a4 := hq.cell (i := 4) rfl
  clear hq
  go_wp2_with fail
  refine (unhide HM).mono ?_
  rintro e w15 ⟨rfl, hk, ho⟩
  replace HG := hide ho
  clear HM ho a0 a1 a2 a3 a4
  have z15 := hk.size
  have hgW := (unhide HB).own (gw, [.int .i64 wd', .int .i64 hg', .slice da D'.length dk, .slice fa F'.length fk, .int .i64 ed']) (by simp)
  replace HB := hide ((unhide HB).kept (L' := [(gg, [.int .i64 wd', .int .i64 hg', .slice da2 D'.length dk2, .slice fa2 F'.length fk2, .int .i64 ed']), (gw, [.int .i64 wd', .int .i64 hg', .slice da D'.length dk, .slice fa F'.length fk, .int .i64 ed']), (w.heap.size, [.int .i64 c.wd, .int .i64 c.hg, .slice dao dn dc, .slice fao fn fc, .int .i64 c.ed]), (w.heap.size + 1, [.int .i64 ed, .slice nao nn nc])]) hk (fun b h => by omega) (by intro p hp; simp only [List.mem_cons, List.not_mem_nil, or_false] at hp; rcases hp with rfl | rfl | rfl | rfl <;> exact ⟨by simp, by simp only; omega⟩))
  replace HS := hide ((unhide HS).kept hk (fun b h1 h2 e => by omega))
  clear hk
  have HH := hide fun V h => heldChart_v B2 U2 wd' hg' ed' da2 dk2 fa2 fk2 D' F' V h hD' hF'
  unfold vChart at HH
  generalize hmm : (1 : Int) + D'.length + 5 * (F'.length : Int) = mm at *
  have hm0 : decide (mm < 0) = false := decide_eq_false (by omega)
  have hm0' : ¬ mm < 0 := by omega
  have hmx : (mm != mm) = false := by simp
  clear hmm
  have hq := (unhide HB).at (g := gg) (vs := [.int .i64 wd', .int .i64 hg', .slice da2 D'.length dk2, .slice fa2 F'.length fk2, .int .i64 ed']) (by simp)
  have a0 := hq.cell (i := 0) rfl
  have a1 := hq.cell (i := 1) rfl
  have a2 := hq.cell (i := 2) rfl
  have a3 := hq.cell (i := 3) rfl
  have a4 := hq.cell (i := 4) rfl
  clear hq
  go_wp2_with fail
  refine (unhide HH _ (unhide HG)).mono ?_
  rintro e w16 ⟨rfl, hb⟩
  replace HB := hide ((unhide HB).step hb)
  replace HS := hide ((unhide HS).below hb)
  replace HG := hide ((unhide HG).below hb)
  have zw16 := hb.size
  clear hb a0 a1 a2 a3 a4
  have hq := (unhide HB).at (g := w.heap.size) (vs := [.int .i64 c.wd, .int .i64 c.hg, .slice dao dn dc, .slice fao fn fc, .int .i64 c.ed]) (by simp)
  have a0 := hq.cell (i := 0) rfl
  have a1 := hq.cell (i := 1) rfl
  have a2 := hq.cell (i := 2) rfl
  have a3 := hq.cell (i := 3) rfl
  have a4 := hq.cell (i := 4) rfl
  clear hq
  have hq := (unhide HB).at (g := w.heap.size + 1) (vs := [.int .i64 ed, .slice nao nn nc]) (by simp)
  have b0 := hq.cell (i := 0) rfl
  have b1 := hq.cell (i := 1) rfl
  clear hq
  have mo20 := (unhide HB).apart (g := w.heap.size) (vs := [.int .i64 c.wd, .int .i64 c.hg, .slice dao dn dc, .slice fao fn fc, .int .i64 c.ed]) (by simp); have mo21 := (unhide HB).apart (g := w.heap.size + 1) (vs := [.int .i64 ed, .slice nao nn nc]) (by simp); obtain ⟨mo2a, mo2b⟩ := mo20; obtain ⟨mo2c, mo2d⟩ := mo21
  go_wp2_with fail
  go_cut [15, 16] (fun sl sb wx => ∃ (gh : Nat) (da3 : Option Addr) (dk3 : Nat) (fa3 : Option Addr) (fk3 Bh Uh : Nat), sl = .pointer (some ⟨gh, 0, none⟩) ∧ sb = .int .i64 code ∧ Hid (Blks w wx [(gh, [.int .i64 wd', .int .i64 hg', .slice da3 D'.length dk3, .slice fa3 F'.length fk3, .int .i64 ed']), (gg, [.int .i64 wd', .int .i64 hg', .slice da2 D'.length dk2, .slice fa2 F'.length fk2, .int .i64 ed']), (gw, [.int .i64 wd', .int .i64 hg', .slice da D'.length dk, .slice fa F'.length fk, .int .i64 ed']), (w.heap.size, [.int .i64 c.wd, .int .i64 c.hg, .slice dao dn dc, .slice fao fn fc, .int .i64 c.ed]), (w.heap.size + 1, [.int .i64 ed, .slice nao nn nc])]) ∧ Hid (OwnCh Bh Uh wx da3 dk3 fa3 fk3 D' F' (recCells 5 eFeature F')) ∧ Hid (OwnCh Bq Uq wx da dk fa fk D' F' (recCells 5 eFeature F')) ∧ Hid (OwnCh B2 U2 wx da2 dk2 fa2 fk2 (marks 1 D'.length) F' (feMarks (1 + D'.length) F'.length)))
  case first =>
    go_region_held3 (fun w' => w'.cell? ⟨w.heap.size, 0, none⟩ = some (.int .i64 c.wd) ∧ w'.cell? ⟨w.heap.size, 1, none⟩ = some (.int .i64 c.hg) ∧ w'.cell? ⟨w.heap.size, 2, none⟩ = some (.slice dao dn dc) ∧ w'.cell? ⟨w.heap.size, 3, none⟩ = some (.slice fao fn fc) ∧ w'.cell? ⟨w.heap.size, 4, none⟩ = some (.int .i64 c.ed) ∧ w'.cell? ⟨w.heap.size + 1, 0, none⟩ = some (.int .i64 ed) ∧ w'.cell? ⟨w.heap.size + 1, 1, none⟩ = some (.slice nao nn nc)) (go_keep) (first
      | (go_at_call 23; refine (unhide HTO _ (by first | exact (unhide HB).below | exact (unhide HB).below.drew | exact ((unhide HB).step (Below.alloc1 _ _)).below | exact ((unhide HB).step (Below.alloc1 _ _)).below.drew)).mono ?_; rintro e wa ⟨g1, g2, rfl, hg1, hg2, ho1, ho2, hb⟩; (try (have hgB := (unhide HNW).lt)); (first | (have HB' := hide ((unhide HB).step hb); have HS' := hide ((unhide HS).below hb); have HG' := hide ((unhide HG).below hb)) | (have HB' := hide ((unhide HB).step (below_undrewA hb)); have HS' := hide ((unhide HS).below (below_undrewA hb)); have HG' := hide ((unhide HG).below (below_undrewA hb))) | (have HB' := hide ((unhide HB).step (Below.step (Below.alloc1 _ _) hb)); have HS' := hide ((unhide HS).below (Below.step (Below.alloc1 _ _) hb)); have HG' := hide ((unhide HG).below (Below.step (Below.alloc1 _ _) hb)); have HNW := hide (OwnV.step (ownV_alloc _ _ _) hb); have hgN := (unhide HB).below.size; have hap := (fun p hp => (unhide HB).lt p hp); have hszHS := (unhide HS).sizes.2; have hszHG := (unhide HG).sizes.2) | (have HB' := hide ((unhide HB).step (Below.step (Below.alloc1 _ _) (below_undrewA hb))); have HS' := hide ((unhide HS).below (Below.step (Below.alloc1 _ _) (below_undrewA hb))); have HG' := hide ((unhide HG).below (Below.step (Below.alloc1 _ _) (below_undrewA hb))); have HNW := hide (OwnV.step (OwnV.drew (ownV_alloc _ _ _)) hb); have hgN := (unhide HB).below.size; have hap := (fun p hp => (unhide HB).lt p hp); have hszHS := (unhide HS).sizes.2; have hszHG := (unhide HG).sizes.2)); replace HB := HB'; clear HB'; replace HS := HS'; clear HS'; replace HG := HG'; clear HG'; (try replace HNW := hide (OwnV.step (unhide HNW) hb)); (try (have n0 := (unhide HNW).cell (i := 0) rfl; have n1 := (unhide HNW).cell (i := 1) rfl; have n2 := (unhide HNW).cell (i := 2) rfl; have n3 := (unhide HNW).cell (i := 3) rfl; have n4 := (unhide HNW).cell (i := 4) rfl; have nf := (unhide HNW).frozen)); have HO1 := hide ho1; have HO2 := hide ho2; have hq := (unhide HB).at (g := w.heap.size) (vs := [.int .i64 c.wd, .int .i64 c.hg, .slice dao dn dc, .slice fao fn fc, .int .i64 c.ed]) (by simp); have txa0 := hq.cell (i := 0) rfl; have txa1 := hq.cell (i := 1) rfl; have txa2 := hq.cell (i := 2) rfl; have txa3 := hq.cell (i := 3) rfl; have txa4 := hq.cell (i := 4) rfl; clear hq; have hq := (unhide HB).at (g := w.heap.size + 1) (vs := [.int .i64 ed, .slice nao nn nc]) (by simp); have txb0 := hq.cell (i := 0) rfl; have txb1 := hq.cell (i := 1) rfl; clear hq; have mox0 := (unhide HB).apart (g := w.heap.size) (vs := [.int .i64 c.wd, .int .i64 c.hg, .slice dao dn dc, .slice fao fn fc, .int .i64 c.ed]) (by simp); have mox1 := (unhide HB).apart (g := w.heap.size + 1) (vs := [.int .i64 ed, .slice nao nn nc]) (by simp); obtain ⟨moxa, moxb⟩ := mox0; obtain ⟨moxc, moxd⟩ := mox1; clear hb ho1 ho2)
      | (go_at_call 24; refine (unhide HTU _ (by first | exact (unhide HB).below | exact (unhide HB).below.drew | exact ((unhide HB).step (Below.alloc1 _ _)).below | exact ((unhide HB).step (Below.alloc1 _ _)).below.drew)).mono ?_; rintro e wb ⟨g3, rfl, hg3, ho3, hb⟩; (try (have hgB := (unhide HNW).lt)); (first | (have HB' := hide ((unhide HB).step hb); have HO1' := hide (OwnV.step (unhide HO1) hb); have HO2' := hide (OwnV.step (unhide HO2) hb); have HS' := hide ((unhide HS).below hb); have HG' := hide ((unhide HG).below hb)) | (have HB' := hide ((unhide HB).step (below_undrewA hb)); have HO1' := hide (OwnV.step (unhide HO1) (below_undrewA hb)); have HO2' := hide (OwnV.step (unhide HO2) (below_undrewA hb)); have HS' := hide ((unhide HS).below (below_undrewA hb)); have HG' := hide ((unhide HG).below (below_undrewA hb))) | (have HB' := hide ((unhide HB).step (Below.step (Below.alloc1 _ _) hb)); have HO1' := hide (OwnV.step (unhide HO1) (Below.step (Below.alloc1 _ _) hb)); have HO2' := hide (OwnV.step (unhide HO2) (Below.step (Below.alloc1 _ _) hb)); have HS' := hide ((unhide HS).below (Below.step (Below.alloc1 _ _) hb)); have HG' := hide ((unhide HG).below (Below.step (Below.alloc1 _ _) hb)); have HNW := hide (OwnV.step (ownV_alloc _ _ _) hb); have hgN := (unhide HB).below.size; have hap := (fun p hp => (unhide HB).lt p hp); have hszHS := (unhide HS).sizes.2; have hszHG := (unhide HG).sizes.2) | (have HB' := hide ((unhide HB).step (Below.step (Below.alloc1 _ _) (below_undrewA hb))); have HO1' := hide (OwnV.step (unhide HO1) (Below.step (Below.alloc1 _ _) (below_undrewA hb))); have HO2' := hide (OwnV.step (unhide HO2) (Below.step (Below.alloc1 _ _) (below_undrewA hb))); have HS' := hide ((unhide HS).below (Below.step (Below.alloc1 _ _) (below_undrewA hb))); have HG' := hide ((unhide HG).below (Below.step (Below.alloc1 _ _) (below_undrewA hb))); have HNW := hide (OwnV.step (OwnV.drew (ownV_alloc _ _ _)) hb); have hgN := (unhide HB).below.size; have hap := (fun p hp => (unhide HB).lt p hp); have hszHS := (unhide HS).sizes.2; have hszHG := (unhide HG).sizes.2)); replace HB := HB'; clear HB'; replace HO1 := HO1'; clear HO1'; replace HO2 := HO2'; clear HO2'; replace HS := HS'; clear HS'; replace HG := HG'; clear HG'; (try replace HNW := hide (OwnV.step (unhide HNW) hb)); (try (have n0 := (unhide HNW).cell (i := 0) rfl; have n1 := (unhide HNW).cell (i := 1) rfl; have n2 := (unhide HNW).cell (i := 2) rfl; have n3 := (unhide HNW).cell (i := 3) rfl; have n4 := (unhide HNW).cell (i := 4) rfl; have nf := (unhide HNW).frozen)); have HO3 := hide ho3; have hq := (unhide HB).at (g := w.heap.size) (vs := [.int .i64 c.wd, .int .i64 c.hg, .slice dao dn dc, .slice fao fn fc, .int .i64 c.ed]) (by simp); have tya0 := hq.cell (i := 0) rfl; have tya1 := hq.cell (i := 1) rfl; have tya2 := hq.cell (i := 2) rfl; have tya3 := hq.cell (i := 3) rfl; have tya4 := hq.cell (i := 4) rfl; clear hq; have hq := (unhide HB).at (g := w.heap.size + 1) (vs := [.int .i64 ed, .slice nao nn nc]) (by simp); have tyb0 := hq.cell (i := 0) rfl; have tyb1 := hq.cell (i := 1) rfl; clear hq; have moy0 := (unhide HB).apart (g := w.heap.size) (vs := [.int .i64 c.wd, .int .i64 c.hg, .slice dao dn dc, .slice fao fn fc, .int .i64 c.ed]) (by simp); have moy1 := (unhide HB).apart (g := w.heap.size + 1) (vs := [.int .i64 ed, .slice nao nn nc]) (by simp); obtain ⟨moya, moyb⟩ := moy0; obtain ⟨moyc, moyd⟩ := moy1; clear hb ho3)
      | (go_at_call 9; refine (unhide HI _ _ _ _ _ _ _ _ _ _ (by first | exact OwnV.intsIn (unhide HO1) (Nat.le_refl _) (by unfold maxLen; omega) | exact OwnV.intsIn (OwnV.drew (unhide HO1)) (Nat.le_refl _) (by unfold maxLen; omega) | exact OwnV.intsIn (OwnV.step (unhide HO1) (Below.alloc1 _ _)) (Nat.le_refl _) (by unfold maxLen; omega) | exact OwnV.intsIn (OwnV.drew (OwnV.step (unhide HO1) (Below.alloc1 _ _))) (Nat.le_refl _) (by unfold maxLen; omega)) (by first | exact OwnV.recsIn (unhide HO2) (Nat.le_refl _) (by unfold maxLen; omega) | exact OwnV.recsIn (OwnV.drew (unhide HO2)) (Nat.le_refl _) (by unfold maxLen; omega) | exact OwnV.recsIn (OwnV.step (unhide HO2) (Below.alloc1 _ _)) (Nat.le_refl _) (by unfold maxLen; omega) | exact OwnV.recsIn (OwnV.drew (OwnV.step (unhide HO2) (Below.alloc1 _ _))) (Nat.le_refl _) (by unfold maxLen; omega)) (by first | exact OwnV.recsIn (unhide HO3) (Nat.le_refl _) (by unfold maxLen; omega) | exact OwnV.recsIn (OwnV.drew (unhide HO3)) (Nat.le_refl _) (by unfold maxLen; omega) | exact OwnV.recsIn (OwnV.step (unhide HO3) (Below.alloc1 _ _)) (Nat.le_refl _) (by unfold maxLen; omega) | exact OwnV.recsIn (OwnV.drew (OwnV.step (unhide HO3) (Below.alloc1 _ _))) (Nat.le_refl _) (by unfold maxLen; omega))).mono ?_; rintro e wc' ⟨qa, qk, qb, ql, rfl, hoc, hb⟩; (try (have hgB := (unhide HNW).lt)); (first | (have HB' := hide ((unhide HB).step hb); have HS' := hide ((unhide HS).below hb); have HG' := hide ((unhide HG).below hb)) | (have HB' := hide ((unhide HB).step (below_undrewA hb)); have HS' := hide ((unhide HS).below (below_undrewA hb)); have HG' := hide ((unhide HG).below (below_undrewA hb))) | (have HB' := hide ((unhide HB).step (Below.step (Below.alloc1 _ _) hb)); have HS' := hide ((unhide HS).below (Below.step (Below.alloc1 _ _) hb)); have HG' := hide ((unhide HG).below (Below.step (Below.alloc1 _ _) hb)); have HNW := hide (OwnV.step (ownV_alloc _ _ _) hb); have hgN := (unhide HB).below.size; have hap := (fun p hp => (unhide HB).lt p hp); have hszHS := (unhide HS).sizes.2; have hszHG := (unhide HG).sizes.2) | (have HB' := hide ((unhide HB).step (Below.step (Below.alloc1 _ _) (below_undrewA hb))); have HS' := hide ((unhide HS).below (Below.step (Below.alloc1 _ _) (below_undrewA hb))); have HG' := hide ((unhide HG).below (Below.step (Below.alloc1 _ _) (below_undrewA hb))); have HNW := hide (OwnV.step (OwnV.drew (ownV_alloc _ _ _)) hb); have hgN := (unhide HB).below.size; have hap := (fun p hp => (unhide HB).lt p hp); have hszHS := (unhide HS).sizes.2; have hszHG := (unhide HG).sizes.2)); replace HB := HB'; clear HB'; replace HS := HS'; clear HS'; replace HG := HG'; clear HG'; (try replace HNW := hide (OwnV.step (unhide HNW) hb)); (try (have n0 := (unhide HNW).cell (i := 0) rfl; have n1 := (unhide HNW).cell (i := 1) rfl; have n2 := (unhide HNW).cell (i := 2) rfl; have n3 := (unhide HNW).cell (i := 3) rfl; have n4 := (unhide HNW).cell (i := 4) rfl; have nf := (unhide HNW).frozen)); have HS9 := hide hoc; have hq := (unhide HB).at (g := w.heap.size) (vs := [.int .i64 c.wd, .int .i64 c.hg, .slice dao dn dc, .slice fao fn fc, .int .i64 c.ed]) (by simp); have tza0 := hq.cell (i := 0) rfl; have tza1 := hq.cell (i := 1) rfl; have tza2 := hq.cell (i := 2) rfl; have tza3 := hq.cell (i := 3) rfl; have tza4 := hq.cell (i := 4) rfl; clear hq; have hq := (unhide HB).at (g := w.heap.size + 1) (vs := [.int .i64 ed, .slice nao nn nc]) (by simp); have tzb0 := hq.cell (i := 0) rfl; have tzb1 := hq.cell (i := 1) rfl; clear hq; have moz0 := (unhide HB).apart (g := w.heap.size) (vs := [.int .i64 c.wd, .int .i64 c.hg, .slice dao dn dc, .slice fao fn fc, .int .i64 c.ed]) (by simp); have moz1 := (unhide HB).apart (g := w.heap.size + 1) (vs := [.int .i64 ed, .slice nao nn nc]) (by simp); obtain ⟨moza, mozb⟩ := moz0; obtain ⟨mozc, mozd⟩ := moz1; clear hb hoc))
    all_goals
      go_wp2_with fail
      go_meet
      first
        | exact ⟨_, _, _, _, _, _, _, rfl, rfl, (unhide HB).made _ _, (unhide HS9).below (Below.alloc1 _ _), (unhide HS).below (Below.alloc1 _ _), (unhide HG).below (Below.alloc1 _ _)⟩
        | exact ⟨_, _, _, _, _, _, _, rfl, rfl, blks_five (unhide HB) (unhide HNW) hgN (fun p hp => by have := hap p hp; omega) _ _ _ _ _, (unhide HS9).kept (kept_five (Kept.refl (fun b => b = _) _) rfl _ _ _ _ _) (fun b hb1 hb2 e => by first | omega | (simp only [World.size_alloc] at hb1; omega) | (have hb3 : _ ≤ b := hb1; simp [World.drew] at hb3; omega)), (unhide HS).kept (kept_five (Kept.refl (fun b => b = _) _) rfl _ _ _ _ _) (fun b hb1 hb2 e => by omega), (unhide HG).kept (kept_five (Kept.refl (fun b => b = _) _) rfl _ _ _ _ _) (fun b hb1 hb2 e => by omega)⟩
  case rest =>
  obtain ⟨gh, da3, dk3, fa3, fk3, Bh, Uh, rfl, rfl, HB', HV', HS', HG'⟩ := hcut
  clear HB HS HG a0 a1 a2 a3 a4 b0 b1 mo2a mo2b mo2c mo2d
  have HB := HB'
  have HS := HS'
  have HG := HG'
  have HV := HV'
  clear HB' HS' HG' HV'
  have HE := hide (eqChart_any wd' hg' ed' _ _ _ _ _ _ _ _ _ _ _ _ D' F' _ (unhide HV).ints (unhide HV).feats (unhide HS).ints (unhide HS).feats)
  unfold vChart at HE
  have hq := (unhide HB).at (g := gh) (vs := [.int .i64 wd', .int .i64 hg', .slice da3 D'.length dk3, .slice fa3 F'.length fk3, .int .i64 ed']) (by simp)
  have a0 := hq.cell (i := 0) rfl
  have a1 := hq.cell (i := 1) rfl
  have a2 := hq.cell (i := 2) rfl
  have a3 := hq.cell (i := 3) rfl
  have a4 := hq.cell (i := 4) rfl
  clear hq
  have hq := (unhide HB).at (g := gw) (vs := [.int .i64 wd', .int .i64 hg', .slice da D'.length dk, .slice fa F'.length fk, .int .i64 ed']) (by simp)
  have b0 := hq.cell (i := 0) rfl
  have b1 := hq.cell (i := 1) rfl
  have b2 := hq.cell (i := 2) rfl
  have b3 := hq.cell (i := 3) rfl
  have b4 := hq.cell (i := 4) rfl
  clear hq
  go_wp2_with fail
  refine (unhide HE).mono ?_
  rintro e w17 ⟨rfl, hb⟩
  replace HB := hide ((unhide HB).step hb)
  replace HS := hide ((unhide HS).below hb)
  replace HG := hide ((unhide HG).below hb)
  clear hb HE
  clear a0 a1 a2 a3 a4 b0 b1 b2 b3 b4
  have hq := (unhide HB).at (g := gg) (vs := [.int .i64 wd', .int .i64 hg', .slice da2 D'.length dk2, .slice fa2 F'.length fk2, .int .i64 ed']) (by simp)
  have a0 := hq.cell (i := 0) rfl
  have a1 := hq.cell (i := 1) rfl
  have a2 := hq.cell (i := 2) rfl
  have a3 := hq.cell (i := 3) rfl
  have a4 := hq.cell (i := 4) rfl
  clear hq
  go_wp2_with fail
  refine (unhide HH _ (unhide HG)).mono ?_
  rintro e w18 ⟨rfl, hb⟩
  replace HB := hide ((unhide HB).step hb)
  replace HS := hide ((unhide HS).below hb)
  replace HG := hide ((unhide HG).below hb)
  have zw18 := hb.size
  clear hb a0 a1 a2 a3 a4
  have HW := hide (unhide HB).below
  go_wp2
  go_ret
  all_goals exact ⟨rfl, unhide HW⟩

end Go.Proofs.Ytmpicamenjnkkaa

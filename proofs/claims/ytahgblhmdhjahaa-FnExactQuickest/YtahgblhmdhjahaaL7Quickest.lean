/- The law of Quickest, walked. Written by wip/mkexact7.py. -/
import Derived.Test.YtahgblhmdhjahaaSeG
import Derived.Test.YtahgblhmdhjahaaImQuickest
import Derived.Test.YtahgblhmdhjahaaSeF
import Derived.Test.YtahgblhmdhjahaaBlkA
import Derived.Test.YtahgblhmdhjahaaOwC
import Derived.Deep.RegionHeld3
import Derived.Deep.DeepCutAuto
namespace Go.Proofs.Ytahgblhmdhjahaa
open Go.RowKit

set_option maxRecDepth 10000 in
set_option maxHeartbeats 8000000 in
theorem lawQuickest_any (s : Se) (dao : Option Addr) (dn dc : Nat) (fao : Option Addr) (fn fc : Nat) (x : Int) (y : Int) (z : Int) (w : World) (hD : IntsIn w (.slice dao dn dc) s.D) (hF : RClosed w (.slice fao fn fc) s.F) :
    Calls Try.prog 10 #[vSea s.wd s.hg (.slice dao dn dc) (.slice fao fn fc), .int .i64 x, .int .i64 y, .int .i64 z] w fun e w' => e = .returned (.bool true) ∧ Below w.heap.size w w' := by
  have HB := hide ((blks_nil w).made #[.int .i64 s.wd, .int .i64 s.hg, .slice dao dn dc, .slice fao fn fc] 42)
  have HSP := hide fun dao dn dc fao fn fc V h1 h2 => specQuickest_any s dao dn dc fao fn fc x y z V h1 h2
  have HI := hide fun dao dn dc fao fn fc V h1 h2 => implQuickest_any s dao dn dc fao fn fc x y z V h1 h2
  obtain ⟨V0, ev0⟩ : ∃ b, b = (quickest s x y z).1 := ⟨_, rfl⟩
  simp only [← ev0] at HSP HI
  clear ev0
  obtain ⟨V1, ev1⟩ : ∃ b, b = (quickest s x y z).2 := ⟨_, rfl⟩
  simp only [← ev1] at HSP HI
  clear ev1
  have HSZ := hide (szSea_any s.wd s.hg dao dn dc fao fn fc s.D s.F 1048576 _ (hD.below (unhide HB).below) (hF.below (unhide HB).below) (by omega) (by omega))
  have HTO : Hid (s.D.length ≤ 1048576 → s.F.length ≤ 1048576 → ∀ V, Below w.heap.size w V → Calls Try.prog 24 #[vSea s.wd s.hg (.slice dao dn dc) (.slice fao fn fc)] V fun e w' => ∃ g1 g2, e = .returned (vSea s.wd s.hg (.slice (some ⟨g1, 0, none⟩) s.D.length s.D.length) (.slice (some ⟨g2, 0, none⟩) s.F.length s.F.length)) ∧ V.heap.size ≤ g1 ∧ g1 < g2 ∧ OwnV w' g1 (ints s.D) ∧ OwnV w' g2 (recCells 6 eClosed s.F) ∧ Below V.heap.size V w') :=
    fun h1 h2 V hV => toSea_any s.wd s.hg dao dn dc fao fn fc s.D s.F V (hD.below hV) (hF.below hV) h1 h2
  clear hD hF
  unfold vSea at HSZ HTO HSP HI ⊢
  go_enter Try.func10, Try.ntmps10
  go_wp2_with fail
  refine (unhide HSZ).mono ?_
  rintro e w1 ⟨r, rfl, hr0, hr1, hr2, hb⟩
  replace HB := hide ((unhide HB).step hb)
  have HR2 := hide hr2
  clear hb HSZ hr2
  by_cases hr : r < 0
  · have HW := hide (unhide HB).below
    go_wp2
    go_ret
    exact ⟨rfl, unhide HW⟩
  obtain ⟨hsD, hsF⟩ := unhide HR2 (by omega)
  replace HTO := hide (unhide HTO hsD hsF)
  have hq := (unhide HB).at (g := w.heap.size) (vs := [.int .i64 s.wd, .int .i64 s.hg, .slice dao dn dc, .slice fao fn fc]) (by simp)
  have a0 := hq.cell (i := 0) rfl
  have a1 := hq.cell (i := 1) rfl
  have a2 := hq.cell (i := 2) rfl
  have a3 := hq.cell (i := 3) rfl
  clear hq
  go_wp2_with fail
  refine (unhide HTO _ (unhide HB).below).mono ?_
  rintro e w2 ⟨g1, g2, rfl, hg1, hg2, ho1, ho2, hb⟩
  have zb := (unhide HB).below.size
  replace HB := hide ((unhide HB).step hb)
  have HC := hide (unhide HSP _ _ _ _ _ _ _ (OwnV.intsIn (ho1) (Nat.le_refl _) (by unfold maxLen; omega)) (OwnV.recsIn (ho2) (Nat.le_refl _) (by unfold maxLen; omega)))
  clear hb ho1 ho2 hg1 hg2 a0 a1 a2 a3
  go_wp2_with fail
  refine (unhide HC).mono ?_
  rintro e w3 ⟨rfl, hb⟩
  replace HB := hide ((unhide HB).step hb)
  clear hb HC HSP
  have hq := (unhide HB).at (g := w.heap.size) (vs := [.int .i64 s.wd, .int .i64 s.hg, .slice dao dn dc, .slice fao fn fc]) (by simp)
  have a0 := hq.cell (i := 0) rfl
  have a1 := hq.cell (i := 1) rfl
  have a2 := hq.cell (i := 2) rfl
  have a3 := hq.cell (i := 3) rfl
  clear hq
  go_wp2_with fail
  refine (unhide HTO _ (unhide HB).below).mono ?_
  rintro e w4 ⟨g3, g4, rfl, hg3, hg4, ho1, ho2, hb⟩
  have hwB2 : w.heap.size < w3.heap.size := (unhide HB).lt (w.heap.size, [.int .i64 s.wd, .int .i64 s.hg, .slice dao dn dc, .slice fao fn fc]) (by simp)
  have hl3 := ho1.lt
  have hl4 := ho2.lt
  replace HB := hide (((((unhide HB).step hb).push ho1 (by omega)).push ho2 (by omega)).made #[.int .i64 s.wd, .int .i64 s.hg, .slice (some ⟨g3, 0, none⟩) s.D.length s.D.length, .slice (some ⟨g4, 0, none⟩) s.F.length s.F.length] 27)
  clear hb ho1 ho2 a0 a1 a2 a3
  have HIC := hide (unhide HI _ _ _ _ _ _ _ (OwnV.intsIn ((unhide HB).at (g := g3) (vs := ints s.D) (by simp)) (Nat.le_refl _) (by unfold maxLen; omega)) (OwnV.recsIn ((unhide HB).at (g := g4) (vs := recCells 6 eClosed s.F) (by simp)) (Nat.le_refl _) (by unfold maxLen; omega)))
  go_wp2_with fail
  refine (unhide HIC).mono ?_
  rintro e w5 ⟨rfl, hb⟩
  replace HB := hide ((unhide HB).step hb)
  clear hb HIC hg3 hg4
  generalize w4.heap.size = gx at *
  have hq := (unhide HB).at (g := w.heap.size) (vs := [.int .i64 s.wd, .int .i64 s.hg, .slice dao dn dc, .slice fao fn fc]) (by simp)
  have a0 := hq.cell (i := 0) rfl
  have a1 := hq.cell (i := 1) rfl
  have a2 := hq.cell (i := 2) rfl
  have a3 := hq.cell (i := 3) rfl
  clear hq
  have hq := (unhide HB).at (g := gx) (vs := [.int .i64 s.wd, .int .i64 s.hg, .slice (some ⟨g3, 0, none⟩) s.D.length s.D.length, .slice (some ⟨g4, 0, none⟩) s.F.length s.F.length]) (by simp)
  have b0 := hq.cell (i := 0) rfl
  have b1 := hq.cell (i := 1) rfl
  have b2 := hq.cell (i := 2) rfl
  have b3 := hq.cell (i := 3) rfl
  clear hq
  go_wp2_with fail
  go_region_held3 (fun w' => w'.cell? ⟨w.heap.size, 0, none⟩ = some (.int .i64 s.wd) ∧ w'.cell? ⟨w.heap.size, 1, none⟩ = some (.int .i64 s.hg) ∧ w'.cell? ⟨w.heap.size, 2, none⟩ = some (.slice dao dn dc) ∧ w'.cell? ⟨w.heap.size, 3, none⟩ = some (.slice fao fn fc) ∧ w'.cell? ⟨gx, 0, none⟩ = some (.int .i64 s.wd) ∧ w'.cell? ⟨gx, 1, none⟩ = some (.int .i64 s.hg) ∧ w'.cell? ⟨gx, 2, none⟩ = some (.slice (some ⟨g3, 0, none⟩) s.D.length s.D.length) ∧ w'.cell? ⟨gx, 3, none⟩ = some (.slice (some ⟨g4, 0, none⟩) s.F.length s.F.length)) (go_keep) (first
    | (go_at_call 24; refine (unhide HTO _ (by first | exact (unhide HB).below | exact (unhide HB).below.drew)).mono ?_; rintro e w9 ⟨g7, g8, rfl, hg7, hg8, ho7, ho8, hb7⟩; have hb7' : Below w5.heap.size w5 w9 := (by first | exact hb7 | exact ⟨hb7.os, hb7.tape, hb7.output, hb7.size, hb7.block⟩); have z9 := hb7'.size; replace HB := hide ((unhide HB).step hb7'); have HE := hide (eqSea_any s.wd s.hg _ _ _ _ _ _ _ _ _ _ _ _ s.D s.F w9 (OwnV.intsIn ((unhide HB).at (g := g3) (vs := ints s.D) (by simp)) (Nat.le_refl _) (by unfold maxLen; omega)) (OwnV.recsIn ((unhide HB).at (g := g4) (vs := recCells 6 eClosed s.F) (by simp)) (Nat.le_refl _) (by unfold maxLen; omega)) (OwnV.intsIn (ho7) (Nat.le_refl _) (by unfold maxLen; omega)) (OwnV.recsIn (ho8) (Nat.le_refl _) (by unfold maxLen; omega))); unfold vSea at HE; have hq := (unhide HB).at (g := w.heap.size) (vs := [.int .i64 s.wd, .int .i64 s.hg, .slice dao dn dc, .slice fao fn fc]) (by simp); have ff0 := hq.cell (i := 0) rfl; have ff1 := hq.cell (i := 1) rfl; have ff2 := hq.cell (i := 2) rfl; have ff3 := hq.cell (i := 3) rfl; clear hq; have hq := (unhide HB).at (g := gx) (vs := [.int .i64 s.wd, .int .i64 s.hg, .slice (some ⟨g3, 0, none⟩) s.D.length s.D.length, .slice (some ⟨g4, 0, none⟩) s.F.length s.F.length]) (by simp); have gg0 := hq.cell (i := 0) rfl; have gg1 := hq.cell (i := 1) rfl; have gg2 := hq.cell (i := 2) rfl; have gg3 := hq.cell (i := 3) rfl; clear hq; clear ho7 ho8 hb7 hb7' hg7 hg8)
    | (go_at_call 25; refine (unhide HE).mono ?_; rintro e w10 ⟨rfl, hb8⟩; have z10 := hb8.size; replace HB := hide ((unhide HB).step hb8); have hq := (unhide HB).at (g := w.heap.size) (vs := [.int .i64 s.wd, .int .i64 s.hg, .slice dao dn dc, .slice fao fn fc]) (by simp); have k0 := hq.cell (i := 0) rfl; have k1 := hq.cell (i := 1) rfl; have k2 := hq.cell (i := 2) rfl; have k3 := hq.cell (i := 3) rfl; clear hq; have hq := (unhide HB).at (g := gx) (vs := [.int .i64 s.wd, .int .i64 s.hg, .slice (some ⟨g3, 0, none⟩) s.D.length s.D.length, .slice (some ⟨g4, 0, none⟩) s.F.length s.F.length]) (by simp); have m0 := hq.cell (i := 0) rfl; have m1 := hq.cell (i := 1) rfl; have m2 := hq.cell (i := 2) rfl; have m3 := hq.cell (i := 3) rfl; clear hq; clear hb8))
  clear HE a0 a1 a2 a3 b0 b1 b2 b3 ff0 ff1 ff2 ff3 gg0 gg1 gg2 gg3 k0 k1 k2 k3 m0 m1 m2 m3
  have HW := hide (unhide HB).below
  go_wp2
  go_ret
  all_goals exact ⟨rfl, unhide HW⟩

end Go.Proofs.Ytahgblhmdhjahaa

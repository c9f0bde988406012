/- The law of DepthAt, walked; the program's side is a premise. No statement about the program stands here. Written by wip/mkexact6.py. -/
import Derived.Test.YtoonbidopdflkaaChE
import Derived.Test.YtoonbidopdflkaaChJ
import Derived.Deep.RegionHeld3
import Derived.Deep.DeepCutAuto
namespace Go.Proofs.Ytoonbidopdflkaa
open Go.RowKit

set_option maxRecDepth 10000 in
set_option maxHeartbeats 4000000 in
theorem lawDepthAt_any (c : Ch) (dao : Option Addr) (dn dc : Nat) (fao : Option Addr) (fn fc : Nat) (x y : Int) (w : World) (hD : IntsIn w (.slice dao dn dc) c.D) (hF : RFeature w (.slice fao fn fc) c.F) (hT : ∀ i, i < c.F.length → (txtFeature (c.F.getD i default)).size ≤ maxLen)
    (hI : ∀ (dao : Option Addr) (dn dc : Nat) (fao : Option Addr) (fn fc : Nat) (w : World), IntsIn w (.slice dao dn dc) c.D → RFeature w (.slice fao fn fc) c.F → Calls Try.prog 18 #[vChart c.wd c.hg (.slice dao dn dc) (.slice fao fn fc) c.ed, .int .i64 x, .int .i64 y] w fun e w' => e = .returned (.tuple #[.int .i64 ((depthAt c x y).1), .bool ((depthAt c x y).2)]) ∧ Below w.heap.size w w') :
    Calls Try.prog 6 #[vChart c.wd c.hg (.slice dao dn dc) (.slice fao fn fc) c.ed, .int .i64 x, .int .i64 y] w fun e w' => e = .returned (.bool true) ∧ Below w.heap.size w w' := by
  have HB := hide ((blks_nil w).made #[.int .i64 c.wd, .int .i64 c.hg, .slice dao dn dc, .slice fao fn fc, .int .i64 c.ed] 49)
  have HI := hide hI
  have HSP := hide fun dao dn dc fao fn fc V h1 h2 => specDepthAt_any c dao dn dc fao fn fc x y V h1 h2
  obtain ⟨V0, ev0⟩ : ∃ b, b = (depthAt c x y).1 := ⟨_, rfl⟩
  simp only [← ev0] at HSP HI
  clear ev0
  obtain ⟨V1, ev1⟩ : ∃ b, b = (depthAt c x y).2 := ⟨_, rfl⟩
  simp only [← ev1] at HSP HI
  clear ev1
  have HSZ := hide (szChart_any c.wd c.hg c.ed dao dn dc fao fn fc c.D c.F 1048576 _ (hD.below (unhide HB).below) (hF.below (unhide HB).below) hT (by omega) (by omega))
  have HTO : Hid (c.D.length ≤ 1048576 → c.F.length ≤ 1048576 → ∀ V, Below w.heap.size w V → Calls Try.prog 25 #[vChart c.wd c.hg (.slice dao dn dc) (.slice fao fn fc) c.ed] V fun e w' => ∃ g1 g2, e = .returned (vChart c.wd c.hg (.slice (some ⟨g1, 0, none⟩) c.D.length c.D.length) (.slice (some ⟨g2, 0, none⟩) c.F.length c.F.length) c.ed) ∧ V.heap.size ≤ g1 ∧ g1 < g2 ∧ OwnV w' g1 (ints c.D) ∧ OwnV w' g2 (recCells 5 eFeature c.F) ∧ Below V.heap.size V w') :=
    fun h1 h2 V hV => toChart_any c.wd c.hg c.ed dao dn dc fao fn fc c.D c.F V (hD.below hV) (hF.below hV) h1 h2
  clear hD hF hT hI
  unfold vChart at HSZ HTO HSP HI ⊢
  go_enter Try.func6, Try.ntmps6
  go_wp2_with fail
  refine (unhide HSZ).mono ?_
  rintro e w1 ⟨r, rfl, hr0, hr1, hr2, hb⟩
  replace HB := hide ((unhide HB).step hb)
  have HR2 := hide hr2
  clear hb HSZ hr2
  by_cases hr : r < 0
  · have HW := hide (unhide HB).below
    go_wp2
    go_ret
    exact ⟨rfl, unhide HW⟩
  obtain ⟨hsD, hsF⟩ := unhide HR2 (by omega)
  replace HTO := hide (unhide HTO hsD hsF)
  have hq := (unhide HB).at (g := w.heap.size) (vs := [.int .i64 c.wd, .int .i64 c.hg, .slice dao dn dc, .slice fao fn fc, .int .i64 c.ed]) (by simp)
  have a0 := hq.cell (i := 0) rfl
  have a1 := hq.cell (i := 1) rfl
  have a2 := hq.cell (i := 2) rfl
  have a3 := hq.cell (i := 3) rfl
  have a4 := hq.cell (i := 4) rfl
  clear hq
  go_wp2_with fail
  refine (unhide HTO _ (unhide HB).below).mono ?_
  rintro e w2 ⟨g1, g2, rfl, hg1, hg2, ho1, ho2, hb⟩
  replace HB := hide ((unhide HB).step hb)
  have HC := hide (unhide HSP _ _ _ _ _ _ _ (OwnV.intsIn (ho1) (Nat.le_refl _) (by unfold maxLen; omega)) (OwnV.recsIn (ho2) (Nat.le_refl _) (by unfold maxLen; omega)))
  clear hb ho1 ho2 hg1 hg2 a0 a1 a2 a3 a4
  go_wp2_with fail
  refine (unhide HC).mono ?_
  rintro e w3 ⟨rfl, hb⟩
  replace HB := hide ((unhide HB).step hb)
  clear hb HC
  have hq := (unhide HB).at (g := w.heap.size) (vs := [.int .i64 c.wd, .int .i64 c.hg, .slice dao dn dc, .slice fao fn fc, .int .i64 c.ed]) (by simp)
  have a0 := hq.cell (i := 0) rfl
  have a1 := hq.cell (i := 1) rfl
  have a2 := hq.cell (i := 2) rfl
  have a3 := hq.cell (i := 3) rfl
  have a4 := hq.cell (i := 4) rfl
  clear hq
  go_wp2_with fail
  refine (unhide HTO _ (unhide HB).below).mono ?_
  rintro e w4 ⟨g3, g4, rfl, hg3, hg4, ho1, ho2, hb⟩
  have hwB2 := (unhide HB).below.size
  replace HB := hide (((((unhide HB).step hb).push ho1 (by omega)).push ho2 (by omega)).made #[.int .i64 c.wd, .int .i64 c.hg, .slice (some ⟨g3, 0, none⟩) c.D.length c.D.length, .slice (some ⟨g4, 0, none⟩) c.F.length c.F.length, .int .i64 c.ed] 27)
  have HIC := hide (unhide HI _ _ _ _ _ _ _ (OwnV.intsIn ((unhide HB).at (g := g3) (vs := ints c.D) (by simp)) (Nat.le_refl _) (by unfold maxLen; omega)) (OwnV.recsIn ((unhide HB).at (g := g4) (vs := recCells 5 eFeature c.F) (by simp)) (Nat.le_refl _) (by unfold maxLen; omega)))
  clear hb ho1 ho2 a0 a1 a2 a3 a4 hg3 hg4
  go_wp2_with fail
  refine (unhide HIC).mono ?_
  rintro e w5 ⟨rfl, hb⟩
  replace HB := hide ((unhide HB).step hb)
  clear hb HIC
  generalize w4.heap.size = gx at *
  have hq := (unhide HB).at (g := w.heap.size) (vs := [.int .i64 c.wd, .int .i64 c.hg, .slice dao dn dc, .slice fao fn fc, .int .i64 c.ed]) (by simp)
  have a0 := hq.cell (i := 0) rfl
  have a1 := hq.cell (i := 1) rfl
  have a2 := hq.cell (i := 2) rfl
  have a3 := hq.cell (i := 3) rfl
  have a4 := hq.cell (i := 4) rfl
  clear hq
  have hq := (unhide HB).at (g := gx) (vs := [.int .i64 c.wd, .int .i64 c.hg, .slice (some ⟨g3, 0, none⟩) c.D.length c.D.length, .slice (some ⟨g4, 0, none⟩) c.F.length c.F.length, .int .i64 c.ed]) (by simp)
  have b0 := hq.cell (i := 0) rfl
  have b1 := hq.cell (i := 1) rfl
  have b2 := hq.cell (i := 2) rfl
  have b3 := hq.cell (i := 3) rfl
  have b4 := hq.cell (i := 4) rfl
  clear hq
  go_wp2_with fail
  go_region_held3 (fun w' => w'.cell? ⟨w.heap.size, 0, none⟩ = some (.int .i64 c.wd) ∧ w'.cell? ⟨w.heap.size, 1, none⟩ = some (.int .i64 c.hg) ∧ w'.cell? ⟨w.heap.size, 2, none⟩ = some (.slice dao dn dc) ∧ w'.cell? ⟨w.heap.size, 3, none⟩ = some (.slice fao fn fc) ∧ w'.cell? ⟨w.heap.size, 4, none⟩ = some (.int .i64 c.ed) ∧ w'.cell? ⟨gx, 0, none⟩ = some (.int .i64 c.wd) ∧ w'.cell? ⟨gx, 1, none⟩ = some (.int .i64 c.hg) ∧ w'.cell? ⟨gx, 2, none⟩ = some (.slice (some ⟨g3, 0, none⟩) c.D.length c.D.length) ∧ w'.cell? ⟨gx, 3, none⟩ = some (.slice (some ⟨g4, 0, none⟩) c.F.length c.F.length) ∧ w'.cell? ⟨gx, 4, none⟩ = some (.int .i64 c.ed)) (go_keep) (first
    | (go_at_call 25; refine (unhide HTO _ (by first | exact (unhide HB).below | exact (unhide HB).below.drew)).mono ?_; rintro e w9 ⟨g7, g8, rfl, hg7, hg8, ho7, ho8, hb7⟩; (first | (have HB' := hide ((unhide HB).step hb7)) | (have HB' := hide ((unhide HB).drew.step hb7))); replace HB := HB'; clear HB'; have HE := hide (eqChart_any c.wd c.hg c.ed _ _ _ _ _ _ _ _ _ _ _ _ c.D c.F w9 (OwnV.intsIn ((unhide HB).at (g := g3) (vs := ints c.D) (by simp)) (Nat.le_refl _) (by unfold maxLen; omega)) (OwnV.recsIn ((unhide HB).at (g := g4) (vs := recCells 5 eFeature c.F) (by simp)) (Nat.le_refl _) (by unfold maxLen; omega)) (OwnV.intsIn (ho7) (Nat.le_refl _) (by unfold maxLen; omega)) (OwnV.recsIn (ho8) (Nat.le_refl _) (by unfold maxLen; omega))); unfold vChart at HE; have hq := (unhide HB).at (g := w.heap.size) (vs := [.int .i64 c.wd, .int .i64 c.hg, .slice dao dn dc, .slice fao fn fc, .int .i64 c.ed]) (by simp); have ff0 := hq.cell (i := 0) rfl; have ff1 := hq.cell (i := 1) rfl; have ff2 := hq.cell (i := 2) rfl; have ff3 := hq.cell (i := 3) rfl; have ff4 := hq.cell (i := 4) rfl; clear hq; have hq := (unhide HB).at (g := gx) (vs := [.int .i64 c.wd, .int .i64 c.hg, .slice (some ⟨g3, 0, none⟩) c.D.length c.D.length, .slice (some ⟨g4, 0, none⟩) c.F.length c.F.length, .int .i64 c.ed]) (by simp); have gg0 := hq.cell (i := 0) rfl; have gg1 := hq.cell (i := 1) rfl; have gg2 := hq.cell (i := 2) rfl; have gg3 := hq.cell (i := 3) rfl; have gg4 := hq.cell (i := 4) rfl; clear hq; clear ho7 ho8 hb7 hg7 hg8)
    | (go_at_call 26; refine (unhide HE).mono ?_; rintro e w10 ⟨rfl, hb8⟩; replace HB := hide ((unhide HB).step hb8); have hq := (unhide HB).at (g := w.heap.size) (vs := [.int .i64 c.wd, .int .i64 c.hg, .slice dao dn dc, .slice fao fn fc, .int .i64 c.ed]) (by simp); have k0 := hq.cell (i := 0) rfl; have k1 := hq.cell (i := 1) rfl; have k2 := hq.cell (i := 2) rfl; have k3 := hq.cell (i := 3) rfl; have k4 := hq.cell (i := 4) rfl; clear hq; have hq := (unhide HB).at (g := gx) (vs := [.int .i64 c.wd, .int .i64 c.hg, .slice (some ⟨g3, 0, none⟩) c.D.length c.D.length, .slice (some ⟨g4, 0, none⟩) c.F.length c.F.length, .int .i64 c.ed]) (by simp); have m0 := hq.cell (i := 0) rfl; have m1 := hq.cell (i := 1) rfl; have m2 := hq.cell (i := 2) rfl; have m3 := hq.cell (i := 3) rfl; have m4 := hq.cell (i := 4) rfl; clear hq; clear hb8))
  have HW := hide (unhide HB).below
  go_wp2
  go_ret
  all_goals exact ⟨rfl, unhide HW⟩

end Go.Proofs.Ytoonbidopdflkaa

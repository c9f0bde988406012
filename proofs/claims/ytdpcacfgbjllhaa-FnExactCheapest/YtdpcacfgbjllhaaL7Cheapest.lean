/- The law of Cheapest, walked. Written by wip/mkexact7.py. -/
import Derived.Test.YtdpcacfgbjllhaaSeJ2
import Derived.Test.YtdpcacfgbjllhaaImCheapest
import Derived.Test.YtdpcacfgbjllhaaSeF
import Derived.Test.YtdpcacfgbjllhaaBlkA
import Derived.Test.YtdpcacfgbjllhaaOwC
import Derived.Deep.RegionHeld3
import Derived.Deep.DeepCutAuto
namespace Go.Proofs.Ytdpcacfgbjllhaa
open Go.RowKit

set_option maxRecDepth 10000 in
set_option maxHeartbeats 8000000 in
theorem lawCheapest_any (s : Se) (dao : Option Addr) (dn dc : Nat) (fao : Option Addr) (fn fc : Nat) (x : Int) (w : World) (hD : IntsIn w (.slice dao dn dc) s.D) (hF : RClosed w (.slice fao fn fc) s.F) :
    Calls Try.prog 4 #[vSea s.wd s.hg (.slice dao dn dc) (.slice fao fn fc), .int .i64 x] w fun e w' => e = .returned (.bool true) ∧ Below w.heap.size w w' := by
  have HB := hide ((blks_nil w).made #[.int .i64 s.wd, .int .i64 s.hg, .slice dao dn dc, .slice fao fn fc] 42)
  obtain ⟨⟨M, V1⟩, hM, hCS⟩ := cheap_ex s x
  dsimp only at hM hCS
  have HSP := hide fun dao dn dc fao fn fc V h1 h2 => (specCheapest_any s dao dn dc fao fn fc x V h1 h2).mono (fun e w' h => cheap_got hCS h)
  have HI := hide fun dao dn dc fao fn fc V h1 h2 => (implCheapest_any s dao dn dc fao fn fc x V h1 h2).mono (fun e w' h => cheap_got hCS h)
  clear hCS
  have HSZ := hide (szSea_any s.wd s.hg dao dn dc fao fn fc s.D s.F 1048576 _ (hD.below (unhide HB).below) (hF.below (unhide HB).below) (by omega) (by omega))
  have HTO : Hid (s.D.length ≤ 1048576 → s.F.length ≤ 1048576 → ∀ V, Below w.heap.size w V → Calls Try.prog 19 #[vSea s.wd s.hg (.slice dao dn dc) (.slice fao fn fc)] V fun e w' => ∃ g1 g2, e = .returned (vSea s.wd s.hg (.slice (some ⟨g1, 0, none⟩) s.D.length s.D.length) (.slice (some ⟨g2, 0, none⟩) s.F.length s.F.length)) ∧ V.heap.size ≤ g1 ∧ g1 < g2 ∧ OwnV w' g1 (ints s.D) ∧ OwnV w' g2 (recCells 6 eClosed s.F) ∧ Below V.heap.size V w') :=
    fun h1 h2 V hV => toSea_any s.wd s.hg dao dn dc fao fn fc s.D s.F V (hD.below hV) (hF.below hV) h1 h2
  clear hD hF
  unfold vSea at HSZ HTO HSP HI ⊢
  go_enter Try.func4, Try.ntmps4
  go_wp2_with fail
  refine (unhide HSZ).mono ?_
  rintro e w1 ⟨r, rfl, hr0, hr1, hr2, hb⟩
  replace HB := hide ((unhide HB).step hb)
  have HR2 := hide hr2
  clear hb HSZ hr2
  by_cases hr : r < 0
  · have HW := hide (unhide HB).below
    go_wp2
    go_ret
    exact ⟨rfl, unhide HW⟩
  obtain ⟨hsD, hsF⟩ := unhide HR2 (by omega)
  replace HTO := hide (unhide HTO hsD hsF)
  have hq := (unhide HB).at (g := w.heap.size) (vs := [.int .i64 s.wd, .int .i64 s.hg, .slice dao dn dc, .slice fao fn fc]) (by simp)
  have a0 := hq.cell (i := 0) rfl
  have a1 := hq.cell (i := 1) rfl
  have a2 := hq.cell (i := 2) rfl
  have a3 := hq.cell (i := 3) rfl
  clear hq
  go_wp2_with fail
  refine (unhide HTO _ (unhide HB).below).mono ?_
  rintro e w2 ⟨g1, g2, rfl, hg1, hg2, ho1, ho2, hb⟩
  have zb := (unhide HB).below.size
  replace HB := hide ((unhide HB).step hb)
  have HC := hide (unhide HSP _ _ _ _ _ _ _ (OwnV.intsIn (ho1) (Nat.le_refl _) (by unfold maxLen; omega)) (OwnV.recsIn (ho2) (Nat.le_refl _) (by unfold maxLen; omega)))
  clear hb ho1 ho2 hg1 hg2 a0 a1 a2 a3
  go_wp2_with fail
  refine (unhide HC).mono ?_
  rintro e w3 ⟨ak, nk, ck, rfl, ho, hb⟩
  have zb2 := (unhide HB).below.size
  replace HB := hide ((unhide HB).step hb)
  have HS := hide ho.upto
  clear hb HC ho HSP
  have hq := (unhide HB).at (g := w.heap.size) (vs := [.int .i64 s.wd, .int .i64 s.hg, .slice dao dn dc, .slice fao fn fc]) (by simp)
  have a0 := hq.cell (i := 0) rfl
  have a1 := hq.cell (i := 1) rfl
  have a2 := hq.cell (i := 2) rfl
  have a3 := hq.cell (i := 3) rfl
  clear hq
  go_wp2_with fail
  refine (unhide HTO _ (unhide HB).below).mono ?_
  rintro e w4 ⟨g3, g4, rfl, hg3, hg4, ho1, ho2, hb⟩
  have hwB2 : w.heap.size < w3.heap.size := (unhide HB).lt (w.heap.size, [.int .i64 s.wd, .int .i64 s.hg, .slice dao dn dc, .slice fao fn fc]) (by simp)
  have hl3 := ho1.lt
  have hl4 := ho2.lt
  have AX := Below.step hb (Below.alloc1 w4 (.cells #[.int .i64 s.wd, .int .i64 s.hg, .slice (some ⟨g3, 0, none⟩) s.D.length s.D.length, .slice (some ⟨g4, 0, none⟩) s.F.length s.F.length] 27))
  replace HS := hide ((unhide HS).below AX)
  clear AX
  replace HB := hide (((((unhide HB).step hb).push ho1 (by omega)).push ho2 (by omega)).made #[.int .i64 s.wd, .int .i64 s.hg, .slice (some ⟨g3, 0, none⟩) s.D.length s.D.length, .slice (some ⟨g4, 0, none⟩) s.F.length s.F.length] 27)
  clear hb ho1 ho2 a0 a1 a2 a3
  have HIC := hide (unhide HI _ _ _ _ _ _ _ (OwnV.intsIn ((unhide HB).at (g := g3) (vs := ints s.D) (by simp)) (Nat.le_refl _) (by unfold maxLen; omega)) (OwnV.recsIn ((unhide HB).at (g := g4) (vs := recCells 6 eClosed s.F) (by simp)) (Nat.le_refl _) (by unfold maxLen; omega)))
  go_wp2_with fail
  refine (unhide HIC).mono ?_
  rintro e w5 ⟨ag, ng, cg, rfl, ho, hb⟩
  replace HB := hide ((unhide HB).step hb)
  replace HS := hide ((unhide HS).below hb)
  have hu := ho.upto
  simp only [World.size_alloc] at hu
  have HG := hide hu
  clear hu
  have z5 := hb.size
  simp only [World.size_alloc] at z5
  clear hb HIC ho
  generalize w4.heap.size = gx at *
  go_wp2_with fail
  refine (eqIntS_o _ _ M _ (unhide HG).inn (unhide HS).inn).mono ?_
  rintro e w6 ⟨rfl, hb⟩
  replace HB := hide ((unhide HB).step hb); replace HS := hide ((unhide HS).below hb); replace HG := hide ((unhide HG).below hb)
  have zw6 := hb.size
  clear hb
  have hq := (unhide HB).at (g := w.heap.size) (vs := [.int .i64 s.wd, .int .i64 s.hg, .slice dao dn dc, .slice fao fn fc]) (by simp)
  have a0 := hq.cell (i := 0) rfl
  have a1 := hq.cell (i := 1) rfl
  have a2 := hq.cell (i := 2) rfl
  have a3 := hq.cell (i := 3) rfl
  clear hq
  have hq := (unhide HB).at (g := gx) (vs := [.int .i64 s.wd, .int .i64 s.hg, .slice (some ⟨g3, 0, none⟩) s.D.length s.D.length, .slice (some ⟨g4, 0, none⟩) s.F.length s.F.length]) (by simp)
  have b0 := hq.cell (i := 0) rfl
  have b1 := hq.cell (i := 1) rfl
  have b2 := hq.cell (i := 2) rfl
  have b3 := hq.cell (i := 3) rfl
  clear hq
  go_wp2_with fail
  go_region_held3 (fun w' => w'.cell? ⟨w.heap.size, 0, none⟩ = some (.int .i64 s.wd) ∧ w'.cell? ⟨w.heap.size, 1, none⟩ = some (.int .i64 s.hg) ∧ w'.cell? ⟨w.heap.size, 2, none⟩ = some (.slice dao dn dc) ∧ w'.cell? ⟨w.heap.size, 3, none⟩ = some (.slice fao fn fc) ∧ w'.cell? ⟨gx, 0, none⟩ = some (.int .i64 s.wd) ∧ w'.cell? ⟨gx, 1, none⟩ = some (.int .i64 s.hg) ∧ w'.cell? ⟨gx, 2, none⟩ = some (.slice (some ⟨g3, 0, none⟩) s.D.length s.D.length) ∧ w'.cell? ⟨gx, 3, none⟩ = some (.slice (some ⟨g4, 0, none⟩) s.F.length s.F.length)) (go_keep) (first
    | (go_at_call 19; refine (unhide HTO _ (by first | exact (unhide HB).below | exact (unhide HB).below.drew)).mono ?_; rintro e w9 ⟨g7, g8, rfl, hg7, hg8, ho7, ho8, hb7⟩; have hb7' : Below w6.heap.size w6 w9 := (by first | exact hb7 | exact ⟨hb7.os, hb7.tape, hb7.output, hb7.size, hb7.block⟩); have z9 := hb7'.size; replace HB := hide ((unhide HB).step hb7'); replace HS := hide ((unhide HS).below hb7'); replace HG := hide ((unhide HG).below hb7'); have HE := hide (eqSea_any s.wd s.hg _ _ _ _ _ _ _ _ _ _ _ _ s.D s.F w9 (OwnV.intsIn ((unhide HB).at (g := g3) (vs := ints s.D) (by simp)) (Nat.le_refl _) (by unfold maxLen; omega)) (OwnV.recsIn ((unhide HB).at (g := g4) (vs := recCells 6 eClosed s.F) (by simp)) (Nat.le_refl _) (by unfold maxLen; omega)) (OwnV.intsIn (ho7) (Nat.le_refl _) (by unfold maxLen; omega)) (OwnV.recsIn (ho8) (Nat.le_refl _) (by unfold maxLen; omega))); unfold vSea at HE; have hq := (unhide HB).at (g := w.heap.size) (vs := [.int .i64 s.wd, .int .i64 s.hg, .slice dao dn dc, .slice fao fn fc]) (by simp); have ff0 := hq.cell (i := 0) rfl; have ff1 := hq.cell (i := 1) rfl; have ff2 := hq.cell (i := 2) rfl; have ff3 := hq.cell (i := 3) rfl; clear hq; have hq := (unhide HB).at (g := gx) (vs := [.int .i64 s.wd, .int .i64 s.hg, .slice (some ⟨g3, 0, none⟩) s.D.length s.D.length, .slice (some ⟨g4, 0, none⟩) s.F.length s.F.length]) (by simp); have gg0 := hq.cell (i := 0) rfl; have gg1 := hq.cell (i := 1) rfl; have gg2 := hq.cell (i := 2) rfl; have gg3 := hq.cell (i := 3) rfl; clear hq; clear ho7 ho8 hb7 hb7' hg7 hg8)
    | (go_at_call 21; refine (unhide HE).mono ?_; rintro e w10 ⟨rfl, hb8⟩; have z10 := hb8.size; replace HB := hide ((unhide HB).step hb8); replace HS := hide ((unhide HS).below hb8); replace HG := hide ((unhide HG).below hb8); have hq := (unhide HB).at (g := w.heap.size) (vs := [.int .i64 s.wd, .int .i64 s.hg, .slice dao dn dc, .slice fao fn fc]) (by simp); have k0 := hq.cell (i := 0) rfl; have k1 := hq.cell (i := 1) rfl; have k2 := hq.cell (i := 2) rfl; have k3 := hq.cell (i := 3) rfl; clear hq; have hq := (unhide HB).at (g := gx) (vs := [.int .i64 s.wd, .int .i64 s.hg, .slice (some ⟨g3, 0, none⟩) s.D.length s.D.length, .slice (some ⟨g4, 0, none⟩) s.F.length s.F.length]) (by simp); have m0 := hq.cell (i := 0) rfl; have m1 := hq.cell (i := 1) rfl; have m2 := hq.cell (i := 2) rfl; have m3 := hq.cell (i := 3) rfl; clear hq; clear hb8))
  clear HE a0 a1 a2 a3 b0 b1 b2 b3 ff0 ff1 ff2 ff3 gg0 gg1 gg2 gg3 k0 k1 k2 k3
  have HM := hide (markSea_any s.wd s.hg _ s.D.length _ s.F.length s.D s.F g3 g4 1 w10 (fun _ => ⟨rfl, (unhide HB).at (g := g3) (vs := ints s.D) (by simp)⟩) (fun _ => ⟨rfl, (unhide HB).at (g := g4) (vs := recCells 6 eClosed s.F) (by simp)⟩) (by omega) (by omega) hsD hsF (by omega) (by omega))
  unfold vSea at HM
  go_wp2_with fail
  refine (unhide HM).mono ?_
  rintro e w11 ⟨rfl, hk, -, -⟩
  clear HM m0 m1 m2 m3
  have z11 := hk.size
  replace HB := hide ((unhide HB).kept (L' := [(w.heap.size, [.int .i64 s.wd, .int .i64 s.hg, .slice dao dn dc, .slice fao fn fc])]) hk (fun b h => by omega) (by intro p hp; simp only [List.mem_singleton] at hp; subst hp; exact ⟨by simp, by simp only; omega⟩))
  replace HS := hide ((unhide HS).kept hk (fun b h1 h2 e => by omega))
  replace HG := hide ((unhide HG).kept hk (fun b h1 h2 e => by omega))
  clear hk
  generalize hkk : (1 : Int) + s.D.length + 6 * (s.F.length : Int) = kk
  have hk0 : 0 ≤ kk := by omega
  have hk1 : kk ≤ 1073741824 := by omega
  clear hkk
  go_wp2_with fail
  refine (eqIntS_o _ _ M _ (unhide HG).inn (unhide HS).inn).mono ?_
  rintro e w12 ⟨rfl, hb⟩
  replace HB := hide ((unhide HB).step hb); replace HS := hide ((unhide HS).below hb); replace HG := hide ((unhide HG).below hb)
  have zw12 := hb.size
  clear hb
  go_wp2_with fail
  refine (markInts_v _ _ _ _ _ M _ (unhide HG) hM).mono ?_
  rintro e w13 ⟨rfl, hk, ho⟩
  have z13 := hk.size
  replace HG := hide ho
  replace HB := hide ((unhide HB).kept (L' := [(w.heap.size, [.int .i64 s.wd, .int .i64 s.hg, .slice dao dn dc, .slice fao fn fc])]) hk (fun b h => by omega) (by intro p hp; simp only [List.mem_singleton] at hp; subst hp; exact ⟨by simp, by simp only; omega⟩))
  replace HS := hide ((unhide HS).kept hk (fun b h1 h2 e => by omega))
  clear hk ho
  have HH := hide fun W hW => heldInts_v (.slice ag ng cg) M W hW hM
  go_wp2_with fail
  refine (unhide HH _ (unhide HG).inn).mono ?_
  rintro e w14 ⟨rfl, hb⟩
  replace HB := hide ((unhide HB).step hb); replace HS := hide ((unhide HS).below hb); replace HG := hide ((unhide HG).below hb)
  clear hb
  have hq := (unhide HB).at (g := w.heap.size) (vs := [.int .i64 s.wd, .int .i64 s.hg, .slice dao dn dc, .slice fao fn fc]) (by simp)
  have a0 := hq.cell (i := 0) rfl
  have a1 := hq.cell (i := 1) rfl
  have a2 := hq.cell (i := 2) rfl
  have a3 := hq.cell (i := 3) rfl
  clear hq
  go_wp2_with fail
  refine (unhide HTO _ (unhide HB).below).mono ?_
  rintro e w15 ⟨g5, g6, rfl, hg5, hg6, ho1, ho2, hb⟩
  replace HB := hide ((unhide HB).step hb); replace HS := hide ((unhide HS).below hb); replace HG := hide ((unhide HG).below hb)
  have HIC := hide (unhide HI _ _ _ _ _ _ _ (OwnV.intsIn (ho1) (Nat.le_refl _) (by unfold maxLen; omega)) (OwnV.recsIn (ho2) (Nat.le_refl _) (by unfold maxLen; omega)))
  clear hb ho1 ho2 a0 a1 a2 a3 hg5 hg6
  go_wp2_with fail
  refine (unhide HIC).mono ?_
  rintro e w16 ⟨ah, nh, ch, rfl, ho, hb⟩
  replace HB := hide ((unhide HB).step hb); replace HS := hide ((unhide HS).below hb); replace HG := hide ((unhide HG).below hb)
  have HQ := hide ho.intsIn
  clear hb HIC ho
  go_wp2_with fail
  refine (eqIntS_o _ _ M _ (unhide HQ) (unhide HS).inn).mono ?_
  rintro e w17 ⟨rfl, hb⟩
  replace HB := hide ((unhide HB).step hb); replace HS := hide ((unhide HS).below hb); replace HG := hide ((unhide HG).below hb)
  have zw17 := hb.size
  clear hb
  go_wp2_with fail
  refine (unhide HH _ (unhide HG).inn).mono ?_
  rintro e w18 ⟨rfl, hb⟩
  replace HB := hide ((unhide HB).step hb); replace HS := hide ((unhide HS).below hb); replace HG := hide ((unhide HG).below hb)
  clear hb
  have HW := hide (unhide HB).below
  go_wp2
  go_ret
  all_goals exact ⟨rfl, unhide HW⟩

end Go.Proofs.Ytdpcacfgbjllhaa

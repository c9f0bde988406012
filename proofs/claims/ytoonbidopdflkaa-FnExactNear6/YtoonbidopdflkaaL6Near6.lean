/- The law of Near6, walked; the program's side is a premise. No statement about the program stands here. Written by wip/mkexact6.py. -/
import Derived.Test.YtoonbidopdflkaaChE
import Derived.Test.YtoonbidopdflkaaChF
import Derived.Test.YtoonbidopdflkaaChJ
import Derived.Deep.RegionHeld3
import Derived.Deep.DeepCutAuto
namespace Go.Proofs.Ytoonbidopdflkaa
open Go.RowKit

set_option maxRecDepth 10000 in
set_option maxHeartbeats 8000000 in
theorem lawNear6_any (c : Ch) (dao : Option Addr) (dn dc : Nat) (fao : Option Addr) (fn fc : Nat) (x y far : Int) (w : World) (hD : IntsIn w (.slice dao dn dc) c.D) (hF : RFeature w (.slice fao fn fc) c.F) (hT : ∀ i, i < c.F.length → (txtFeature (c.F.getD i default)).size ≤ maxLen)
    (hI : ∀ (dao : Option Addr) (dn dc : Nat) (fao : Option Addr) (fn fc : Nat) (w : World), IntsIn w (.slice dao dn dc) c.D → RFeature w (.slice fao fn fc) c.F → Calls Try.prog 23 #[vChart c.wd c.hg (.slice dao dn dc) (.slice fao fn fc) c.ed, .int .i64 x, .int .i64 y, .int .i64 far] w fun e w' => ∃ a n cp, e = .returned (.slice a n cp) ∧ OwnSl w.heap.size w' (.slice a n cp) (nearOf c x y far) ∧ Below w.heap.size w w') :
    Calls Try.prog 10 #[vChart c.wd c.hg (.slice dao dn dc) (.slice fao fn fc) c.ed, .int .i64 x, .int .i64 y, .int .i64 far] w fun e w' => e = .returned (.bool true) ∧ Below w.heap.size w w' := by
  have HB := hide ((blks_nil w).made #[.int .i64 c.wd, .int .i64 c.hg, .slice dao dn dc, .slice fao fn fc, .int .i64 c.ed] 49)
  have HI := hide hI
  have HSP := hide fun dao dn dc fao fn fc V h1 h2 => specNear6_any c dao dn dc fao fn fc x y far V h1 h2
  have HV : c.D.length ≤ 1048576 → (nearOf c x y far).length ≤ 1048576 := fun hsD => by
    unfold nearOf
    split
    · next h =>
      simp only [nearOk, inB, Bool.and_eq_true, decide_eq_true_eq] at h
      obtain ⟨⟨h1, -⟩, h2, h3⟩ := h
      have := nearD_len c.F x y (chartB_head h1).2.2.2.2.2.1 (far.toNat + 1)
      have : far.toNat ≤ 100 := by omega
      omega
    · simp
  obtain ⟨M, ev⟩ : ∃ b, b = nearOf c x y far := ⟨_, rfl⟩
  simp only [← ev] at HSP HI HV
  clear ev
  have HSZ := hide (szChart_any c.wd c.hg c.ed dao dn dc fao fn fc c.D c.F 1048576 _ (hD.below (unhide HB).below) (hF.below (unhide HB).below) hT (by omega) (by omega))
  have HTO : Hid (c.D.length ≤ 1048576 → c.F.length ≤ 1048576 → ∀ V, Below w.heap.size w V → Calls Try.prog 25 #[vChart c.wd c.hg (.slice dao dn dc) (.slice fao fn fc) c.ed] V fun e w' => ∃ g1 g2, e = .returned (vChart c.wd c.hg (.slice (some ⟨g1, 0, none⟩) c.D.length c.D.length) (.slice (some ⟨g2, 0, none⟩) c.F.length c.F.length) c.ed) ∧ V.heap.size ≤ g1 ∧ g1 < g2 ∧ OwnV w' g1 (ints c.D) ∧ OwnV w' g2 (recCells 5 eFeature c.F) ∧ Below V.heap.size V w') :=
    fun h1 h2 V hV => toChart_any c.wd c.hg c.ed dao dn dc fao fn fc c.D c.F V (hD.below hV) (hF.below hV) h1 h2
  clear hD hF hT hI
  unfold vChart at HSZ HTO HSP HI ⊢
  go_enter Try.func10, Try.ntmps10
  go_wp2_with fail
  refine (unhide HSZ).mono ?_
  rintro e w1 ⟨r, rfl, hr0, hr1, hr2, hb⟩
  replace HB := hide ((unhide HB).step hb)
  have HR2 := hide hr2
  clear hb HSZ hr2
  by_cases hr : r < 0
  · have HW := hide (unhide HB).below
    go_wp2
    go_ret
    exact ⟨rfl, unhide HW⟩
  obtain ⟨hsD, hsF⟩ := unhide HR2 (by omega)
  replace HTO := hide (unhide HTO hsD hsF)
  have hM := HV hsD
  clear HV
  have hq := (unhide HB).at (g := w.heap.size) (vs := [.int .i64 c.wd, .int .i64 c.hg, .slice dao dn dc, .slice fao fn fc, .int .i64 c.ed]) (by simp)
  have a0 := hq.cell (i := 0) rfl
  have a1 := hq.cell (i := 1) rfl
  have a2 := hq.cell (i := 2) rfl
  have a3 := hq.cell (i := 3) rfl
  have a4 := hq.cell (i := 4) rfl
  clear hq
  go_wp2_with fail
  refine (unhide HTO _ (unhide HB).below).mono ?_
  rintro e w2 ⟨g1, g2, rfl, hg1, hg2, ho1, ho2, hb⟩
  replace HB := hide ((unhide HB).step hb)
  have HC := hide (unhide HSP _ _ _ _ _ _ _ (OwnV.intsIn (ho1) (Nat.le_refl _) (by unfold maxLen; omega)) (OwnV.recsIn (ho2) (Nat.le_refl _) (by unfold maxLen; omega)))
  clear hb ho1 ho2 hg1 hg2 a0 a1 a2 a3 a4 HSP
  go_wp2_with fail
  refine (unhide HC).mono ?_
  rintro e w3 ⟨ak, nk, ck, rfl, ho, hb⟩
  have zb2 := (unhide HB).below.size
  replace HB := hide ((unhide HB).step hb)
  have HS := hide ho.upto
  clear hb HC ho
  have hq := (unhide HB).at (g := w.heap.size) (vs := [.int .i64 c.wd, .int .i64 c.hg, .slice dao dn dc, .slice fao fn fc, .int .i64 c.ed]) (by simp)
  have a0 := hq.cell (i := 0) rfl
  have a1 := hq.cell (i := 1) rfl
  have a2 := hq.cell (i := 2) rfl
  have a3 := hq.cell (i := 3) rfl
  have a4 := hq.cell (i := 4) rfl
  clear hq
  go_wp2_with fail
  refine (unhide HTO _ (unhide HB).below).mono ?_
  rintro e w4 ⟨g3, g4, rfl, hg3, hg4, ho1, ho2, hb⟩
  have hwB2 : w.heap.size < w3.heap.size := (unhide HB).lt _ (List.mem_cons_self ..)
  have hl3 := ho1.lt
  have hl4 := ho2.lt
  have AX := Below.step hb (Below.alloc1 w4 (.cells #[.int .i64 c.wd, .int .i64 c.hg, .slice (some ⟨g3, 0, none⟩) c.D.length c.D.length, .slice (some ⟨g4, 0, none⟩) c.F.length c.F.length, .int .i64 c.ed] 27))
  replace HS := hide ((unhide HS).below AX)
  replace HB := hide (((((unhide HB).step hb).push ho1 (by omega)).push ho2 (by omega)).made #[.int .i64 c.wd, .int .i64 c.hg, .slice (some ⟨g3, 0, none⟩) c.D.length c.D.length, .slice (some ⟨g4, 0, none⟩) c.F.length c.F.length, .int .i64 c.ed] 27)
  have HIC := hide (unhide HI _ _ _ _ _ _ _ (OwnV.intsIn ((unhide HB).at (g := g3) (vs := ints c.D) (by simp)) (Nat.le_refl _) (by unfold maxLen; omega)) (OwnV.recsIn ((unhide HB).at (g := g4) (vs := recCells 5 eFeature c.F) (by simp)) (Nat.le_refl _) (by unfold maxLen; omega)))
  clear AX hb ho1 ho2 a0 a1 a2 a3 a4
  go_wp2_with fail
  refine (unhide HIC).mono ?_
  rintro e w5 ⟨ag, ng, cg, rfl, ho, hb⟩
  replace HB := hide ((unhide HB).step hb)
  replace HS := hide ((unhide HS).below hb)
  have hu := ho.upto
  simp only [World.size_alloc] at hu
  have HG := hide hu
  clear hu
  have z5 := hb.size
  simp only [World.size_alloc] at z5
  clear hb HIC ho
  generalize w4.heap.size = gx at *
  go_wp2_with fail
  refine (eqIntS_o _ _ M _ (unhide HG).inn (unhide HS).inn).mono ?_
  rintro e w6 ⟨rfl, hb⟩
  replace HB := hide ((unhide HB).step hb); replace HS := hide ((unhide HS).below hb); replace HG := hide ((unhide HG).below hb)
  have zw6 := hb.size
  clear hb
  have hq := (unhide HB).at (g := w.heap.size) (vs := [.int .i64 c.wd, .int .i64 c.hg, .slice dao dn dc, .slice fao fn fc, .int .i64 c.ed]) (by simp)
  have a0 := hq.cell (i := 0) rfl
  have a1 := hq.cell (i := 1) rfl
  have a2 := hq.cell (i := 2) rfl
  have a3 := hq.cell (i := 3) rfl
  have a4 := hq.cell (i := 4) rfl
  clear hq
  have hq := (unhide HB).at (g := gx) (vs := [.int .i64 c.wd, .int .i64 c.hg, .slice (some ⟨g3, 0, none⟩) c.D.length c.D.length, .slice (some ⟨g4, 0, none⟩) c.F.length c.F.length, .int .i64 c.ed]) (by simp)
  have b0 := hq.cell (i := 0) rfl
  have b1 := hq.cell (i := 1) rfl
  have b2 := hq.cell (i := 2) rfl
  have b3 := hq.cell (i := 3) rfl
  have b4 := hq.cell (i := 4) rfl
  clear hq
  go_wp2_with fail
  go_region_held3 (fun w' => w'.cell? ⟨w.heap.size, 0, none⟩ = some (.int .i64 c.wd) ∧ w'.cell? ⟨w.heap.size, 1, none⟩ = some (.int .i64 c.hg) ∧ w'.cell? ⟨w.heap.size, 2, none⟩ = some (.slice dao dn dc) ∧ w'.cell? ⟨w.heap.size, 3, none⟩ = some (.slice fao fn fc) ∧ w'.cell? ⟨w.heap.size, 4, none⟩ = some (.int .i64 c.ed) ∧ w'.cell? ⟨gx, 0, none⟩ = some (.int .i64 c.wd) ∧ w'.cell? ⟨gx, 1, none⟩ = some (.int .i64 c.hg) ∧ w'.cell? ⟨gx, 2, none⟩ = some (.slice (some ⟨g3, 0, none⟩) c.D.length c.D.length) ∧ w'.cell? ⟨gx, 3, none⟩ = some (.slice (some ⟨g4, 0, none⟩) c.F.length c.F.length) ∧ w'.cell? ⟨gx, 4, none⟩ = some (.int .i64 c.ed)) (go_keep) (first
    | (go_at_call 25; refine (unhide HTO _ (by first | exact (unhide HB).below | exact (unhide HB).below.drew)).mono ?_; rintro e w9 ⟨g7, g8, rfl, hg7, hg8, ho7, ho8, hb7⟩; have hb7' : Below w6.heap.size w6 w9 := (by first | exact hb7 | exact ⟨hb7.os, hb7.tape, hb7.output, hb7.size, hb7.block⟩); have z9 := hb7'.size; replace HB := hide ((unhide HB).step hb7'); replace HS := hide ((unhide HS).below hb7'); replace HG := hide ((unhide HG).below hb7'); have HE := hide (eqChart_any c.wd c.hg c.ed _ _ _ _ _ _ _ _ _ _ _ _ c.D c.F w9 (OwnV.intsIn ((unhide HB).at (g := g3) (vs := ints c.D) (by simp)) (Nat.le_refl _) (by unfold maxLen; omega)) (OwnV.recsIn ((unhide HB).at (g := g4) (vs := recCells 5 eFeature c.F) (by simp)) (Nat.le_refl _) (by unfold maxLen; omega)) (OwnV.intsIn (ho7) (Nat.le_refl _) (by unfold maxLen; omega)) (OwnV.recsIn (ho8) (Nat.le_refl _) (by unfold maxLen; omega))); unfold vChart at HE; have hq := (unhide HB).at (g := w.heap.size) (vs := [.int .i64 c.wd, .int .i64 c.hg, .slice dao dn dc, .slice fao fn fc, .int .i64 c.ed]) (by simp); have ff0 := hq.cell (i := 0) rfl; have ff1 := hq.cell (i := 1) rfl; have ff2 := hq.cell (i := 2) rfl; have ff3 := hq.cell (i := 3) rfl; have ff4 := hq.cell (i := 4) rfl; clear hq; have hq := (unhide HB).at (g := gx) (vs := [.int .i64 c.wd, .int .i64 c.hg, .slice (some ⟨g3, 0, none⟩) c.D.length c.D.length, .slice (some ⟨g4, 0, none⟩) c.F.length c.F.length, .int .i64 c.ed]) (by simp); have gg0 := hq.cell (i := 0) rfl; have gg1 := hq.cell (i := 1) rfl; have gg2 := hq.cell (i := 2) rfl; have gg3 := hq.cell (i := 3) rfl; have gg4 := hq.cell (i := 4) rfl; clear hq; clear ho7 ho8 hb7 hb7' hg7 hg8)
    | (go_at_call 26; refine (unhide HE).mono ?_; rintro e w10 ⟨rfl, hb8⟩; have z10 := hb8.size; replace HB := hide ((unhide HB).step hb8); replace HS := hide ((unhide HS).below hb8); replace HG := hide ((unhide HG).below hb8); have hq := (unhide HB).at (g := w.heap.size) (vs := [.int .i64 c.wd, .int .i64 c.hg, .slice dao dn dc, .slice fao fn fc, .int .i64 c.ed]) (by simp); have k0 := hq.cell (i := 0) rfl; have k1 := hq.cell (i := 1) rfl; have k2 := hq.cell (i := 2) rfl; have k3 := hq.cell (i := 3) rfl; have k4 := hq.cell (i := 4) rfl; clear hq; have hq := (unhide HB).at (g := gx) (vs := [.int .i64 c.wd, .int .i64 c.hg, .slice (some ⟨g3, 0, none⟩) c.D.length c.D.length, .slice (some ⟨g4, 0, none⟩) c.F.length c.F.length, .int .i64 c.ed]) (by simp); have m0 := hq.cell (i := 0) rfl; have m1 := hq.cell (i := 1) rfl; have m2 := hq.cell (i := 2) rfl; have m3 := hq.cell (i := 3) rfl; have m4 := hq.cell (i := 4) rfl; clear hq; clear hb8))
  clear HE a0 a1 a2 a3 a4 b0 b1 b2 b3 b4 ff0 ff1 ff2 ff3 ff4 gg0 gg1 gg2 gg3 gg4 k0 k1 k2 k3 k4
  have HM := hide (markChart_any c.wd c.hg c.ed _ c.D.length _ c.F.length c.D c.F g3 g4 1 w10 (fun _ => ⟨rfl, (unhide HB).at (g := g3) (vs := ints c.D) (by simp)⟩) (fun _ => ⟨rfl, (unhide HB).at (g := g4) (vs := recCells 5 eFeature c.F) (by simp)⟩) (by omega) (by omega) hsD hsF (by omega) (by omega))
  unfold vChart at HM
  go_wp2_with fail
  refine (unhide HM).mono ?_
  rintro e w11 ⟨rfl, hk, -, -⟩
  clear HM m0 m1 m2 m3 m4
  have z11 := hk.size
  replace HB := hide ((unhide HB).kept (L' := [(w.heap.size, [.int .i64 c.wd, .int .i64 c.hg, .slice dao dn dc, .slice fao fn fc, .int .i64 c.ed])]) hk (fun b h => by omega) (by intro p hp; simp only [List.mem_singleton] at hp; subst hp; exact ⟨by simp, by simp only; omega⟩))
  replace HS := hide ((unhide HS).kept hk (fun b h1 h2 e => by omega))
  replace HG := hide ((unhide HG).kept hk (fun b h1 h2 e => by omega))
  clear hk
  generalize hkk : (1 : Int) + c.D.length + 5 * (c.F.length : Int) = kk
  have hk0 : 0 ≤ kk := by omega
  have hk1 : kk ≤ 1073741824 := by omega
  clear hkk
  go_wp2_with fail
  refine (eqIntS_o _ _ M _ (unhide HG).inn (unhide HS).inn).mono ?_
  rintro e w12 ⟨rfl, hb⟩
  replace HB := hide ((unhide HB).step hb); replace HS := hide ((unhide HS).below hb); replace HG := hide ((unhide HG).below hb)
  have zw12 := hb.size
  clear hb
  go_wp2_with fail
  refine (markInts_v _ _ _ _ _ M _ (unhide HG) hM).mono ?_
  rintro e w13 ⟨rfl, hk, ho⟩
  have z13 := hk.size
  replace HG := hide ho
  replace HB := hide ((unhide HB).kept (L' := [(w.heap.size, [.int .i64 c.wd, .int .i64 c.hg, .slice dao dn dc, .slice fao fn fc, .int .i64 c.ed])]) hk (fun b h => by omega) (by intro p hp; simp only [List.mem_singleton] at hp; subst hp; exact ⟨by simp, by simp only; omega⟩))
  replace HS := hide ((unhide HS).kept hk (fun b h1 h2 e => by omega))
  clear hk ho
  have HH := hide fun W hW => heldInts_v (.slice ag ng cg) M W hW hM
  go_wp2_with fail
  refine (unhide HH _ (unhide HG).inn).mono ?_
  rintro e w14 ⟨rfl, hb⟩
  replace HB := hide ((unhide HB).step hb); replace HS := hide ((unhide HS).below hb); replace HG := hide ((unhide HG).below hb)
  clear hb
  have hq := (unhide HB).at (g := w.heap.size) (vs := [.int .i64 c.wd, .int .i64 c.hg, .slice dao dn dc, .slice fao fn fc, .int .i64 c.ed]) (by simp)
  have a0 := hq.cell (i := 0) rfl
  have a1 := hq.cell (i := 1) rfl
  have a2 := hq.cell (i := 2) rfl
  have a3 := hq.cell (i := 3) rfl
  have a4 := hq.cell (i := 4) rfl
  clear hq
  go_wp2_with fail
  refine (unhide HTO _ (unhide HB).below).mono ?_
  rintro e w15 ⟨g5, g6, rfl, hg5, hg6, ho1, ho2, hb⟩
  replace HB := hide ((unhide HB).step hb); replace HS := hide ((unhide HS).below hb); replace HG := hide ((unhide HG).below hb)
  have HIC := hide (unhide HI _ _ _ _ _ _ _ (OwnV.intsIn (ho1) (Nat.le_refl _) (by unfold maxLen; omega)) (OwnV.recsIn (ho2) (Nat.le_refl _) (by unfold maxLen; omega)))
  clear hb ho1 ho2 a0 a1 a2 a3 a4 hg5 hg6
  go_wp2_with fail
  refine (unhide HIC).mono ?_
  rintro e w16 ⟨ah, nh, ch, rfl, ho, hb⟩
  replace HB := hide ((unhide HB).step hb); replace HS := hide ((unhide HS).below hb); replace HG := hide ((unhide HG).below hb)
  have HQ := hide ho.intsIn
  clear hb HIC ho
  go_wp2_with fail
  refine (eqIntS_o _ _ M _ (unhide HQ) (unhide HS).inn).mono ?_
  rintro e w17 ⟨rfl, hb⟩
  replace HB := hide ((unhide HB).step hb); replace HS := hide ((unhide HS).below hb); replace HG := hide ((unhide HG).below hb)
  have zw17 := hb.size
  clear hb
  go_wp2_with fail
  refine (unhide HH _ (unhide HG).inn).mono ?_
  rintro e w18 ⟨rfl, hb⟩
  replace HB := hide ((unhide HB).step hb); replace HS := hide ((unhide HS).below hb); replace HG := hide ((unhide HG).below hb)
  clear hb
  have HW := hide (unhide HB).below
  go_wp2
  go_ret
  all_goals exact ⟨rfl, unhide HW⟩

end Go.Proofs.Ytoonbidopdflkaa

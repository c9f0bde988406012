/- Laid together out of: OwnInts, ChA, ChF, ChB, SgA. -/
import Derived.Test.YtmpicamenjnkkaaPb
import Derived.Test.YtmpicamenjnkkaaPa

/- Lists of numbers of the call's own between two marks of memory; short contracts of toIntS, eqIntS, markIntS, heldIntS for the laws. -/
namespace Go.Proofs.Ytmpicamenjnkkaa
open Go.RowKit

/-- A list of numbers of the call's own, its block, where it has an element, from B on and below U. -/
def OwnIntsU (B U : Nat) (w : World) (v : Value) (xs : List Int) : Prop :=
  ∃ ao cap, v = .slice ao xs.length cap ∧ xs.length ≤ cap ∧ cap ≤ maxLen ∧ (xs ≠ [] → ∃ g, ao = some ⟨g, 0, none⟩ ∧ B ≤ g ∧ g < U ∧ OwnV w g (ints xs))

theorem OwnSl.upto {B : Nat} {w : World} {v : Value} {xs : List Int} (h : OwnSl B w v xs) : OwnIntsU B w.heap.size w v xs := by
  obtain ⟨ao, cap, rfl, h1, h2, h3⟩ := h
  refine ⟨ao, cap, rfl, h1, h2, fun hne => ?_⟩
  obtain ⟨g, rfl, hg, ho⟩ := h3 hne
  exact ⟨g, rfl, hg, ho.lt, ho⟩

theorem OwnIntsU.inn {B U : Nat} {w : World} {v : Value} {xs : List Int} (h : OwnIntsU B U w v xs) : IntsIn w v xs := by
  obtain ⟨ao, cap, rfl, h1, h2, h3⟩ := h
  refine ⟨ao, cap, rfl, h1, h2, fun i hi => ?_⟩
  obtain ⟨g, rfl, _, _, ho⟩ := h3 (fun e => by rw [e] at hi; simp at hi)
  exact ⟨g, 0, rfl, by rw [Nat.zero_add]; exact ho.cell (ints_get xs hi)⟩

theorem OwnIntsU.below {B U : Nat} {w w' : World} {v : Value} {xs : List Int} (h : OwnIntsU B U w v xs) (hb : Below w.heap.size w w') : OwnIntsU B U w' v xs := by
  obtain ⟨ao, cap, rfl, h1, h2, h3⟩ := h
  refine ⟨ao, cap, rfl, h1, h2, fun hne => ?_⟩
  obtain ⟨g, rfl, hg, hu, ho⟩ := h3 hne
  exact ⟨g, rfl, hg, hu, ho.below hb ho.lt⟩

theorem OwnIntsU.kept {T : Nat → Prop} {B U : Nat} {w w' : World} {v : Value} {xs : List Int} (h : OwnIntsU B U w v xs) (hk : Kept T w w') (hT : ∀ b, B ≤ b → b < U → ¬ T b) : OwnIntsU B U w' v xs := by
  obtain ⟨ao, cap, rfl, h1, h2, h3⟩ := h
  refine ⟨ao, cap, rfl, h1, h2, fun hne => ?_⟩
  obtain ⟨g, rfl, hg, hu, ho⟩ := h3 hne
  exact ⟨g, rfl, hg, hu, ho.kept hk (hT g hg hu)⟩

theorem toIntS_o (v : Value) (xs : List Int) (w : World) (h : IntsIn w v xs) (hs : xs.length ≤ 1048576) :
    Calls Try.prog 71 #[v] w fun e w' => ∃ g, e = .returned (.slice (some ⟨g, 0, none⟩) xs.length xs.length) ∧ w.heap.size ≤ g ∧ OwnV w' g (ints xs) ∧ Below w.heap.size w w' := by
  refine (toIntS_any v xs w h hs).mono ?_
  rintro e w' ⟨rfl, ho, hb, _⟩
  exact ⟨_, rfl, Nat.le_refl _, ho, hb⟩

theorem eqIntS_o (v v' : Value) (xs : List Int) (w : World) (h : IntsIn w v xs) (h' : IntsIn w v' xs) :
    Calls Try.prog 33 #[v, v'] w fun e w' => e = .returned (.bool true) ∧ Below w.heap.size w w' := by
  refine (eqIntS_any v v' xs w h h').mono ?_
  rintro e w' ⟨rfl, n, rfl⟩
  exact ⟨rfl, below_drewN (Below.refl _ _) n⟩

theorem markInts_o (g : Nat) (xs : List Int) (k : Int) (w : World) (h : OwnV w g (ints xs)) (hn : xs.length ≤ 1048576) (hk0 : 0 ≤ k) (hk1 : k ≤ 4611686018427387904) :
    Calls Try.prog 36 #[.slice (some ⟨g, 0, none⟩) xs.length xs.length, .int .i64 k] w fun e w' => e = .returned (.int .i64 (k + xs.length)) ∧ Kept (fun b => b = g) w w' := by
  refine (markIntS_any _ _ xs k g w (fun _ => ⟨rfl, h⟩) hn hk0 hk1).mono ?_
  rintro e w' ⟨rfl, hk, _⟩
  exact ⟨rfl, hk.mono (fun b _ hb => hb.1)⟩

theorem markInts_v (B U : Nat) (ao : Option Addr) (n cap : Nat) (xs : List Int) (w : World) (h : OwnIntsU B U w (.slice ao n cap) xs) (hn : xs.length ≤ 1048576) :
    Calls Try.prog 36 #[.slice ao n cap, .int .i64 1] w fun e w' => e = .returned (.int .i64 (1 + xs.length)) ∧ Kept (fun b => B ≤ b ∧ b < U) w w' ∧ OwnIntsU B U w' (.slice ao n cap) (marks 1 xs.length) := by
  obtain ⟨ao', cap', e, h1, h2, h3⟩ := h
  simp only [Value.slice.injEq] at e
  obtain ⟨rfl, rfl, rfl⟩ := e
  by_cases hne : xs = []
  · subst hne
    refine (markIntS_any ao cap [] 1 0 w (fun h => absurd rfl h) hn (by omega) (by omega)).mono ?_
    rintro e w' ⟨rfl, hk, _⟩
    exact ⟨rfl, hk.mono (fun b _ hb => absurd rfl hb.2), ao, cap, by rw [marks_len], by rw [marks_len]; exact h1, h2, fun h => absurd rfl h⟩
  · obtain ⟨g, rfl, hg, hu, ho⟩ := h3 hne
    refine (markIntS_any _ cap xs 1 g w (fun _ => ⟨rfl, ho⟩) hn (by omega) (by omega)).mono ?_
    rintro e w' ⟨rfl, hk, ho'⟩
    exact ⟨rfl, hk.mono (fun b _ hb => by rw [hb.1]; exact ⟨hg, hu⟩), _, cap, by rw [marks_len], by rw [marks_len]; exact h1, h2, fun _ => ⟨g, rfl, hg, hu, ho' hne⟩⟩

theorem heldInts_v (v : Value) (M : List Int) (W : World) (hW : IntsIn W v (marks 1 M.length)) (hn : M.length ≤ 1048576) :
    Calls Try.prog 37 #[v, .int .i64 1] W fun e w' => e = .returned (.int .i64 (1 + (M.length : Int))) ∧ Below W.heap.size W w' := by
  refine (heldIntS_any v (marks 1 M.length) 1 W hW (by rw [marks_len]) (by rw [marks_len]; exact hn) (by omega) (by omega)).mono ?_
  rintro e w' ⟨rfl, rfl⟩
  rw [marks_len]
  exact ⟨rfl, Below.refl _ _⟩

end Go.Proofs.Ytmpicamenjnkkaa

/- Charts: words; contracts of the laws' own szChart, toChart, eqChart, markChart, heldChart. -/
namespace Go.Proofs.Ytmpicamenjnkkaa
open Go.RowKit

def vChart (wd hg : Int) (dv fv : Value) (ed : Int) : Value := .agg #[.int .i64 wd, .int .i64 hg, dv, fv, .int .i64 ed]

/-- Three boxes of the call's own. -/
structure B3 (w W : World) (a b c : List Value) : Prop where
  o1 : OwnV W w.heap.size a
  o2 : OwnV W (w.heap.size + 1) b
  o3 : OwnV W (w.heap.size + 1 + 1) c
  below : Below w.heap.size w W
theorem B3.step {w W W' : World} {a b c : List Value} (h : B3 w W a b c) (hb : Below W.heap.size W W') : B3 w W' a b c := ⟨h.o1.step hb, h.o2.step hb, h.o3.step hb, Below.step h.below hb⟩
theorem B3.put3 {w W : World} {a b c : List Value} (h : B3 w W a b c) (i : Nat) (u : Value) (hi : i < c.length) : B3 w (W.setCell ⟨w.heap.size + 1 + 1, i, none⟩ u) a b (c.set i u) :=
  ⟨h.o1.other (a := ⟨w.heap.size + 1 + 1, i, none⟩) (by show w.heap.size ≠ w.heap.size + 1 + 1; omega) u, h.o2.other (a := ⟨w.heap.size + 1 + 1, i, none⟩) (by show w.heap.size + 1 ≠ w.heap.size + 1 + 1; omega) u, h.o3.set i u hi, h.below.setCell (p := ⟨w.heap.size + 1 + 1, i, none⟩) (by show w.heap.size ≤ w.heap.size + 1 + 1; omega) u⟩
theorem B3.put2 {w W : World} {a b c : List Value} (h : B3 w W a b c) (i : Nat) (u : Value) (hi : i < b.length) : B3 w (W.setCell ⟨w.heap.size + 1, i, none⟩ u) a (b.set i u) c :=
  ⟨h.o1.other (a := ⟨w.heap.size + 1, i, none⟩) (by show w.heap.size ≠ w.heap.size + 1; omega) u, h.o2.set i u hi, h.o3.other (a := ⟨w.heap.size + 1, i, none⟩) (by show w.heap.size + 1 + 1 ≠ w.heap.size + 1; omega) u, h.below.setCell (p := ⟨w.heap.size + 1, i, none⟩) (by show w.heap.size ≤ w.heap.size + 1; omega) u⟩
theorem b3_new (w : World) (a b c : Array Value) (t1 t2 t3 : TypeId) : B3 w (((w.alloc (.cells a t1)).alloc (.cells b t2)).alloc (.cells c t3)) a.toList b.toList c.toList := by
  have h2 := ownV_alloc (w.alloc (.cells a t1)) b t2
  have h3 := ownV_alloc ((w.alloc (.cells a t1)).alloc (.cells b t2)) c t3
  simp only [World.size_alloc] at h2 h3
  exact ⟨((ownV_alloc w a t1).alloc _).alloc _, h2.alloc _, h3, Below.step (Below.step (Below.alloc1 _ _) (Below.alloc1 _ _)) (Below.alloc1 _ _)⟩

theorem farN {W : World} {g g' : Nat} {vs : List Value} (h : OwnV W g vs) (hne : g ≠ g') (i : Nat) (u : Value) : OwnV (W.setCell ⟨g', i, none⟩ u) g vs := h.other (a := ⟨g', i, none⟩) hne u

set_option maxRecDepth 10000 in
set_option maxHeartbeats 1600000 in
theorem toChart_any (wd hg ed : Int) (dao : Option Addr) (dn dc : Nat) (fao : Option Addr) (fn fc : Nat) (D : List Int) (F : List FeatureT) (w : World) (hD : IntsIn w (.slice dao dn dc) D) (hF : RFeature w (.slice fao fn fc) F) (hsD : D.length ≤ 1048576) (hsF : F.length ≤ 1048576) :
    Calls Try.prog 23 #[vChart wd hg (.slice dao dn dc) (.slice fao fn fc) ed] w fun e w' => ∃ g1 g2, e = .returned (vChart wd hg (.slice (some ⟨g1, 0, none⟩) D.length D.length) (.slice (some ⟨g2, 0, none⟩) F.length F.length) ed) ∧ w.heap.size ≤ g1 ∧ g1 < g2 ∧ OwnV w' g1 (ints D) ∧ OwnV w' g2 (recCells 5 eFeature F) ∧ Below w.heap.size w w' := by
  have HD := hide hD
  have HF := hide hF
  have HH := hide (b3_new w #[.int .i64 wd, .int .i64 hg, .slice dao dn dc, .slice fao fn fc, .int .i64 ed] #[.int .i64 0, .int .i64 0, .slice none 0 0, .slice none 0 0, .int .i64 0] #[.int .i64 wd, .int .i64 hg, .slice none 0 0, .slice none 0 0, .int .i64 0] 49 27 27)
  clear hD hF
  unfold vChart
  go_enter Try.func23, Try.ntmps23
  go_wp2_with fail
  refine (toIntS_any _ D _ ((unhide HD).below (unhide HH).below) hsD).mono ?_
  rintro e w1 ⟨rfl, hO1, hb, -⟩
  obtain ⟨W0, e0⟩ : ∃ z, z = ((w.alloc (.cells #[.int .i64 wd, .int .i64 hg, .slice dao dn dc, .slice fao fn fc, .int .i64 ed] 49)).alloc (.cells #[.int .i64 0, .int .i64 0, .slice none 0 0, .slice none 0 0, .int .i64 0] 27)).alloc (.cells #[.int .i64 wd, .int .i64 hg, .slice none 0 0, .slice none 0 0, .int .i64 0] 27) := ⟨_, rfl⟩
  rw [← e0] at HH hb hO1 ⊢
  clear e0
  have hg1 : w.heap.size + 1 + 1 < W0.heap.size := (unhide HH).o3.lt
  replace HH := hide ((unhide HH).step hb)
  have hlt1 := hO1.lt
  clear hb
  generalize W0.heap.size = g1 at *
  have HO1 := hide hO1
  clear hO1
  have a3 := (unhide HH).o1.cell (i := 3) rfl
  have a4 := (unhide HH).o1.cell (i := 4) rfl
  have c2 := (unhide HH).o3.cell (i := 2) rfl
  have cf := (unhide HH).o3.frozen
  have hn1 : ¬ w.heap.size = w.heap.size + 1 + 1 := by omega
  have hn2 : ¬ w.heap.size + 1 + 1 = w.heap.size := by omega
  go_wp2_with fail
  replace HH := hide ((unhide HH).put3 2 (.slice (some ⟨g1, 0, none⟩) D.length D.length) (by simp))
  replace HO1 := hide ((unhide HO1).other (a := ⟨w.heap.size + 1 + 1, 2, none⟩) (by show g1 ≠ w.heap.size + 1 + 1; omega) (.slice (some ⟨g1, 0, none⟩) D.length D.length))
  refine (toFeatureS_any _ F _ ((unhide HF).below (unhide HH).below) hsF).mono ?_
  rintro e w2 ⟨g2, rfl, hg2, hO2, hb⟩
  replace HH := hide ((unhide HH).step hb)
  have hg12 : g1 < g2 := by have := (unhide HO1).lt; omega
  replace HO1 := hide (OwnV.step (unhide HO1) hb)
  have HO2 := hide hO2
  clear hb hO2 a3 a4 c2 cf hg2 hlt1 HD HF
  have a4 := (unhide HH).o1.cell (i := 4) rfl
  have c0 := (unhide HH).o3.cell (i := 0) rfl
  have c1 := (unhide HH).o3.cell (i := 1) rfl
  have c2 := (unhide HH).o3.cell (i := 2) rfl
  have c3 := (unhide HH).o3.cell (i := 3) rfl
  have c4 := (unhide HH).o3.cell (i := 4) rfl
  have cf := (unhide HH).o3.frozen
  have HH1 := hide (((unhide HH).put3 3 (.slice (some ⟨g2, 0, none⟩) F.length F.length) (by simp)).put3 4 (.int .i64 ed) (by simp))
  have e0 := (unhide HH1).o3.cell (i := 0) rfl
  have e1 := (unhide HH1).o3.cell (i := 1) rfl
  have e2 := (unhide HH1).o3.cell (i := 2) rfl
  have e3 := (unhide HH1).o3.cell (i := 3) rfl
  have e4 := (unhide HH1).o3.cell (i := 4) rfl
  have d0 := (unhide HH1).o2.cell (i := 0) rfl
  have d1 := (unhide HH1).o2.cell (i := 1) rfl
  have d2 := (unhide HH1).o2.cell (i := 2) rfl
  have d3 := (unhide HH1).o2.cell (i := 3) rfl
  have d4 := (unhide HH1).o2.cell (i := 4) rfl
  have df := (unhide HH1).o2.frozen
  have HH2 := hide ((((((unhide HH1).put2 0 (.int .i64 wd) (by simp)).put2 1 (.int .i64 hg) (by simp)).put2 2 (.slice (some ⟨g1, 0, none⟩) D.length D.length) (by simp)).put2 3 (.slice (some ⟨g2, 0, none⟩) F.length F.length) (by simp)).put2 4 (.int .i64 ed) (by simp))
  have hq1 : g1 ≠ w.heap.size + 1 + 1 := by omega
  have hq2 : g2 ≠ w.heap.size + 1 + 1 := by omega
  have hq3 : g1 ≠ w.heap.size + 1 := by omega
  have hq4 : g2 ≠ w.heap.size + 1 := by omega
  have HO1' := hide (farN (farN (farN (farN (farN (farN (farN (unhide HO1) hq1 3 (.slice (some ⟨g2, 0, none⟩) F.length F.length)) hq1 4 (.int .i64 ed)) hq3 0 (.int .i64 wd)) hq3 1 (.int .i64 hg)) hq3 2 (.slice (some ⟨g1, 0, none⟩) D.length D.length)) hq3 3 (.slice (some ⟨g2, 0, none⟩) F.length F.length)) hq3 4 (.int .i64 ed))
  have HO2' := hide (farN (farN (farN (farN (farN (farN (farN (unhide HO2) hq2 3 (.slice (some ⟨g2, 0, none⟩) F.length F.length)) hq2 4 (.int .i64 ed)) hq4 0 (.int .i64 wd)) hq4 1 (.int .i64 hg)) hq4 2 (.slice (some ⟨g1, 0, none⟩) D.length D.length)) hq4 3 (.slice (some ⟨g2, 0, none⟩) F.length F.length)) hq4 4 (.int .i64 ed))
  go_wp2
  have k0 := (unhide HH2).o2.cell (i := 0) rfl
  have k1 := (unhide HH2).o2.cell (i := 1) rfl
  have k2 := (unhide HH2).o2.cell (i := 2) rfl
  have k3 := (unhide HH2).o2.cell (i := 3) rfl
  have k4 := (unhide HH2).o2.cell (i := 4) rfl
  refine bodyPost_ret (v := vChart wd hg (.slice (some ⟨g1, 0, none⟩) D.length D.length) (.slice (some ⟨g2, 0, none⟩) F.length F.length) ed) (by simp [results, Try.results23, go_sem, vChart, k0, k1, k2, k3, k4]) rfl ⟨g1, g2, rfl, by omega, hg12, unhide HO1', unhide HO2', (unhide HH2).below⟩

set_option maxHeartbeats 1600000 in
theorem eqChart_any (wd hg ed : Int) (dao : Option Addr) (dn dc : Nat) (fao : Option Addr) (fn fc : Nat) (dao' : Option Addr) (dn' dc' : Nat) (fao' : Option Addr) (fn' fc' : Nat) (D : List Int) (F : List FeatureT) (w : World)
    (hD : IntsIn w (.slice dao dn dc) D) (hF : RFeature w (.slice fao fn fc) F) (hD' : IntsIn w (.slice dao' dn' dc') D) (hF' : RFeature w (.slice fao' fn' fc') F) :
    Calls Try.prog 25 #[vChart wd hg (.slice dao dn dc) (.slice fao fn fc) ed, vChart wd hg (.slice dao' dn' dc') (.slice fao' fn' fc') ed] w fun e w' => e = .returned (.bool true) ∧ Below w.heap.size w w' := by
  have A := Below.step (Below.alloc1 w (.cells #[.int .i64 wd, .int .i64 hg, .slice dao dn dc, .slice fao fn fc, .int .i64 ed] 27)) (Below.alloc1 _ (.cells #[.int .i64 wd, .int .i64 hg, .slice dao' dn' dc', .slice fao' fn' fc', .int .i64 ed] 27))
  have O1 := (ownV_alloc w #[.int .i64 wd, .int .i64 hg, .slice dao dn dc, .slice fao fn fc, .int .i64 ed] 27).alloc (.cells #[.int .i64 wd, .int .i64 hg, .slice dao' dn' dc', .slice fao' fn' fc', .int .i64 ed] 27)
  have O2 := ownV_alloc (w.alloc (.cells #[.int .i64 wd, .int .i64 hg, .slice dao dn dc, .slice fao fn fc, .int .i64 ed] 27)) #[.int .i64 wd, .int .i64 hg, .slice dao' dn' dc', .slice fao' fn' fc', .int .i64 ed] 27
  simp only [World.size_alloc] at O2
  have HD := hide (hD.below A)
  have HF := hide (hF.below A)
  have HD' := hide (hD'.below A)
  have HF' := hide (hF'.below A)
  have HW := hide A
  have HO1 := hide O1
  have HO2 := hide O2
  clear A O1 O2 hD hF hD' hF'
  unfold vChart
  go_enter Try.func25, Try.ntmps25
  go_wp2_with fail
  refine (eqIntS_any _ _ D _ (unhide HD) (unhide HD')).mono ?_
  rintro e w1 ⟨rfl, n, rfl⟩
  have hb := below_drewN (Below.refl _ ((w.alloc (.cells #[.int .i64 wd, .int .i64 hg, .slice dao dn dc, .slice fao fn fc, .int .i64 ed] 27)).alloc (.cells #[.int .i64 wd, .int .i64 hg, .slice dao' dn' dc', .slice fao' fn' fc', .int .i64 ed] 27))) n
  replace HW := hide (Below.step (unhide HW) hb)
  replace HF := hide ((unhide HF).below hb)
  replace HF' := hide ((unhide HF').below hb)
  have c0 := OwnV.cell (OwnV.step (unhide HO1) hb) (i := 3) rfl
  have c1 := OwnV.cell (OwnV.step (unhide HO1) hb) (i := 4) rfl
  have c2 := OwnV.cell (OwnV.step (unhide HO2) hb) (i := 3) rfl
  have c3 := OwnV.cell (OwnV.step (unhide HO2) hb) (i := 4) rfl
  replace HO1 := hide (OwnV.step (unhide HO1) hb)
  replace HO2 := hide (OwnV.step (unhide HO2) hb)
  clear hb HD HD'
  obtain ⟨W1, e1⟩ : ∃ z, z = ((w.alloc (.cells #[.int .i64 wd, .int .i64 hg, .slice dao dn dc, .slice fao fn fc, .int .i64 ed] 27)).alloc (.cells #[.int .i64 wd, .int .i64 hg, .slice dao' dn' dc', .slice fao' fn' fc', .int .i64 ed] 27)).drewN n := ⟨_, rfl⟩
  rw [← e1] at HW HF HF' HO1 HO2 c0 c1 c2 c3 ⊢
  clear e1
  go_wp2_with fail
  refine (eqFeatureS_any _ _ F _ (unhide HF) (unhide HF')).mono ?_
  rintro e w2 ⟨rfl, hb⟩
  replace HW := hide (Below.step (unhide HW) hb)
  clear c0 c1 c2 c3
  have c1 := OwnV.cell (OwnV.step (unhide HO1) hb) (i := 4) rfl
  have c3 := OwnV.cell (OwnV.step (unhide HO2) hb) (i := 4) rfl
  clear hb HF HF' HO1 HO2
  go_wp2
  go_ret
  exact ⟨rfl, unhide HW⟩

set_option maxHeartbeats 1600000 in
theorem szChart_any (wd hg ed : Int) (dao : Option Addr) (dn dc : Nat) (fao : Option Addr) (fn fc : Nat) (D : List Int) (F : List FeatureT) (left : Int) (w : World)
    (hD : IntsIn w (.slice dao dn dc) D) (hF : RFeature w (.slice fao fn fc) F) (hT : ∀ i, i < F.length → (txtFeature (F.getD i default)).size ≤ maxLen) (h0 : 0 ≤ left) (h1 : left ≤ 1048576) :
    Calls Try.prog 20 #[vChart wd hg (.slice dao dn dc) (.slice fao fn fc) ed, .int .i64 left] w fun e w' => ∃ r, e = .returned (.int .i64 r) ∧ -1 ≤ r ∧ r ≤ 1048576 ∧ (0 ≤ r → D.length ≤ 1048576 ∧ F.length ≤ 1048576) ∧ Below w.heap.size w w' := by
  have A := Below.alloc1 w (.cells #[.int .i64 wd, .int .i64 hg, .slice dao dn dc, .slice fao fn fc, .int .i64 ed] 49)
  have HD := hide (hD.below A)
  have HF := hide (hF.below A)
  have HT := hide hT
  have HW := hide A
  clear A hD hF hT
  unfold vChart
  by_cases hlt : left < D.length
  · go_enter Try.func20, Try.ntmps20
    go_wp2_with fail
    refine (szIntS_no _ D left _ (unhide HD) h0 h1 hlt).mono ?_
    rintro e w1 ⟨rfl, rfl⟩
    go_wp2
    go_ret
    exact ⟨_, rfl, by omega, by omega, fun h => by omega, unhide HW⟩
  · go_enter Try.func20, Try.ntmps20
    go_wp2_with fail
    refine (szIntS_yes _ D left _ (unhide HD) h1 (by omega)).mono ?_
    rintro e w1 ⟨rfl, rfl⟩
    have HSZ := hide (szFeatureS_any _ F (left - D.length) _ (unhide HF) (unhide HT) (by omega) (by omega))
    have hnl : ¬ left - (D.length : Int) < 0 := by omega
    go_wp2_with fail
    refine (unhide HSZ).mono ?_
    rintro e w2 ⟨r, rfl, ⟨hr1, hr2, hr3⟩, hb⟩
    replace HW := hide (Below.step (unhide HW) hb)
    clear hb HSZ
    by_cases hr : r < 0
    · go_wp2
      go_ret
      exact ⟨_, rfl, by omega, by omega, fun h => by omega, unhide HW⟩
    · go_wp2
      go_ret
      exact ⟨_, rfl, by omega, by omega, fun h => ⟨by omega, hr3 h⟩, unhide HW⟩

end Go.Proofs.Ytmpicamenjnkkaa

/- Contracts of the laws' own markChart and heldChart. -/
namespace Go.Proofs.Ytmpicamenjnkkaa
open Go.RowKit

theorem markFeatureS_nil (ao : Option Addr) (cap : Nat) (k : Int) (w : World) : Calls Try.prog 76 #[.slice ao 0 cap, .int .i64 k] w fun e w' => e = .returned (.int .i64 k) ∧ w = w' := by
  go_enter Try.func76, Try.ntmps76
  go_wp2
  go_loopg [1, 5] 0 (fun _ kv iv wr => w = wr ∧ iv = .int .i64 0 ∧ kv = .int .i64 k)
  case atStart => exact ⟨rfl, rfl, rfl⟩
  case round =>
    obtain ⟨rfl, rfl, rfl⟩ := hrel
    go_wp2
    go_ret
    exact ⟨rfl, rfl⟩
theorem heldFeatureS_nil (ao : Option Addr) (cap : Nat) (k : Int) (w : World) : Calls Try.prog 78 #[.slice ao 0 cap, .int .i64 k] w fun e w' => e = .returned (.int .i64 k) ∧ Below w.heap.size w w' := by
  go_enter Try.func78, Try.ntmps78
  go_wp2
  go_loopg [1, 5] 0 (fun _ kv iv wr => w = wr ∧ iv = .int .i64 0 ∧ kv = .int .i64 k)
  case atStart => exact ⟨rfl, rfl, rfl⟩
  case round =>
    obtain ⟨rfl, rfl, rfl⟩ := hrel
    go_wp2
    go_ret
    exact ⟨rfl, Below.refl _ _⟩

/-- A list of features at block g, where there is one. -/
def FeAt (w : World) (ao : Option Addr) (g : Nat) (vs : List Value) (F : List FeatureT) : Prop := F ≠ [] → ao = some ⟨g, 0, none⟩ ∧ OwnV w g vs
def feMarks (k : Int) (n : Nat) : List Value := (List.range (n * 5)).map (mkFeature k)

theorem markFeatureS_o (ao : Option Addr) (cap : Nat) (F : List FeatureT) (k : Int) (g : Nat) (w : World) (h : FeAt w ao g (recCells 5 eFeature F) F) (hn : F.length ≤ 1048576) (hk0 : 0 ≤ k) (hk1 : k ≤ 1152921504606846976) :
    Calls Try.prog 76 #[.slice ao F.length cap, .int .i64 k] w fun e w' => e = .returned (.int .i64 (k + 5 * (F.length : Int))) ∧ Kept (fun b => b = g ∧ F ≠ []) w w' ∧ FeAt w' ao g (feMarks k F.length) F := by
  by_cases hne : F = []
  · subst hne
    refine (markFeatureS_nil ao cap k w).mono ?_
    rintro e w' ⟨rfl, rfl⟩
    exact ⟨by simp, Kept.refl _ _, fun h => absurd rfl h⟩
  · obtain ⟨rfl, ho⟩ := h hne
    refine (markFeatureS_any g cap F.length _ k w ho (by rw [recCells_length]; omega) hn hk0 hk1).mono ?_
    rintro e w' ⟨rfl, hk, ho'⟩
    exact ⟨rfl, hk.mono (fun b _ hb => ⟨hb, hne⟩), fun _ => ⟨rfl, ho'⟩⟩
theorem heldFeatureS_o (ao : Option Addr) (cap : Nat) (F : List FeatureT) (k : Int) (g : Nat) (w : World) (h : FeAt w ao g (feMarks k F.length) F) (hn : F.length ≤ 1048576) (hk0 : 0 ≤ k) (hk1 : k ≤ 1152921504606846976) :
    Calls Try.prog 78 #[.slice ao F.length cap, .int .i64 k] w fun e w' => e = .returned (.int .i64 (k + 5 * (F.length : Int))) ∧ Below w.heap.size w w' := by
  by_cases hne : F = []
  · subst hne
    refine (heldFeatureS_nil ao cap k w).mono ?_
    rintro e w' ⟨rfl, hb⟩
    exact ⟨by simp, hb⟩
  · obtain ⟨rfl, ho⟩ := h hne
    exact heldFeatureS_any g cap F.length k w ho hn hk0 hk1

theorem FeAt.step {w w' : World} {ao : Option Addr} {g : Nat} {vs : List Value} {F : List FeatureT} (h : FeAt w ao g vs F) (hb : Below w.heap.size w w') : FeAt w' ao g vs F := fun hne => ⟨(h hne).1, (h hne).2.step hb⟩
theorem FeAt.kept {T : Nat → Prop} {w w' : World} {ao : Option Addr} {g : Nat} {vs : List Value} {F : List FeatureT} (h : FeAt w ao g vs F) (hk : Kept T w w') (hg : ¬ T g) : FeAt w' ao g vs F := fun hne => ⟨(h hne).1, (h hne).2.kept hk hg⟩

set_option maxHeartbeats 1600000 in
theorem markChart_any (wd hg ed : Int) (dao : Option Addr) (dc : Nat) (fao : Option Addr) (fc : Nat) (D : List Int) (F : List FeatureT) (g1 g2 : Nat) (k : Int) (w : World) (h1 : D ≠ [] → dao = some ⟨g1, 0, none⟩ ∧ OwnV w g1 (ints D)) (h2 : FeAt w fao g2 (recCells 5 eFeature F) F)
    (hne : g1 ≠ g2) (hl1 : g1 < w.heap.size) (hD : D.length ≤ 1048576) (hF : F.length ≤ 1048576) (hk0 : 0 ≤ k) (hk1 : k ≤ 1073741824) :
    Calls Try.prog 27 #[vChart wd hg (.slice dao D.length dc) (.slice fao F.length fc) ed, .int .i64 k] w fun e w' => e = .returned (.int .i64 (k + D.length + 5 * (F.length : Int))) ∧ Kept (fun b => b = g1 ∨ b = g2) w w' ∧ (D ≠ [] → OwnV w' g1 (ints (marks k D.length))) ∧ FeAt w' fao g2 (feMarks (k + D.length) F.length) F := by
  have A := Below.alloc1 w (.cells #[.int .i64 wd, .int .i64 hg, .slice dao D.length dc, .slice fao F.length fc, .int .i64 ed] 27)
  have HO := hide (ownV_alloc w #[.int .i64 wd, .int .i64 hg, .slice dao D.length dc, .slice fao F.length fc, .int .i64 ed] 27)
  have HM1 := hide (markIntS_any dao dc D k g1 _ (fun h => ⟨(h1 h).1, (h1 h).2.step A⟩) hD hk0 (by omega))
  have H2 := hide (h2.step A)
  have HK := hide (kept_of_below (T := fun b => b = g1 ∨ b = g2) A)
  clear A h1 h2
  unfold vChart
  go_enter Try.func27, Try.ntmps27
  go_wp2_with fail
  refine (unhide HM1).mono ?_
  rintro e w1 ⟨rfl, hk, ho1⟩
  have c3 := OwnV.cell (OwnV.kept (unhide HO) hk (by omega)) (i := 3) rfl
  have H2' := hide ((unhide H2).kept hk (by omega))
  have HK1 := hide (Kept.trans (unhide HK) (hk.mono (fun b _ hb => Or.inl hb.1)))
  have HO1 := hide ho1
  clear hk ho1 HM1 HO H2 HK
  have HM2 := hide (markFeatureS_o fao fc F (k + D.length) g2 w1 (unhide H2') hF (by omega) (by omega))
  go_wp2_with fail
  refine (unhide HM2).mono ?_
  rintro e w2 ⟨rfl, hk, ho2⟩
  have HK2 := hide (Kept.trans (unhide HK1) (hk.mono (fun b _ hb => Or.inr hb.1)))
  have HO1' : Hid (D ≠ [] → OwnV w2 g1 (ints (marks k D.length))) := fun h => OwnV.kept (unhide HO1 h) hk (by omega)
  have HO2 := hide ho2
  clear hk ho2 HM2 HO1 HK1 H2' c3
  go_wp2
  go_ret
  exact ⟨rfl, unhide HK2, unhide HO1', unhide HO2⟩

set_option maxHeartbeats 1600000 in
theorem heldChart_any (wd hg ed : Int) (dao : Option Addr) (dc : Nat) (fao : Option Addr) (fc : Nat) (D : List Int) (F : List FeatureT) (g2 : Nat) (k : Int) (w : World) (h1 : IntsIn w (.slice dao D.length dc) (marks k D.length)) (h2 : FeAt w fao g2 (feMarks (k + D.length) F.length) F)
    (hD : D.length ≤ 1048576) (hF : F.length ≤ 1048576) (hk0 : 0 ≤ k) (hk1 : k ≤ 1073741824) :
    Calls Try.prog 29 #[vChart wd hg (.slice dao D.length dc) (.slice fao F.length fc) ed, .int .i64 k] w fun e w' => e = .returned (.int .i64 (k + D.length + 5 * (F.length : Int))) ∧ Below w.heap.size w w' := by
  have A := Below.alloc1 w (.cells #[.int .i64 wd, .int .i64 hg, .slice dao D.length dc, .slice fao F.length fc, .int .i64 ed] 27)
  have HM1 := hide (heldIntS_any _ (marks k D.length) k _ (h1.below A) (by rw [marks_len]) (by rw [marks_len]; exact hD) hk0 (by omega))
  rw [marks_len] at HM1
  have HM2 := hide (heldFeatureS_o fao fc F (k + D.length) g2 _ (h2.step A) hF (by omega) (by omega))
  have HW := hide A
  clear A h1 h2
  have hn1 : ¬ k + (D.length : Int) < 0 := by omega
  have hn2 : ¬ k + (D.length : Int) + 5 * (F.length : Int) < 0 := by omega
  unfold vChart
  go_enter Try.func29, Try.ntmps29
  go_wp2_with fail
  refine (unhide HM1).mono ?_
  rintro e w1 ⟨rfl, rfl⟩
  go_wp2_with fail
  refine (unhide HM2).mono ?_
  rintro e w2 ⟨rfl, hb⟩
  replace HW := hide (Below.step (unhide HW) hb)
  clear hb HM1 HM2
  go_wp2
  go_ret
  exact ⟨rfl, unhide HW⟩

end Go.Proofs.Ytmpicamenjnkkaa

/- Contracts of the specification's l6Place, l6Depth, l6Feature and ChartOk. -/
namespace Go.Proofs.Ytmpicamenjnkkaa
open Go.RowKit

def placeB (wd hg x y : Int) : Bool := inB x 0 (wd - 1) && inB y 0 (hg - 1)
def featB (wd hg : Int) (f : FeatureT) : Bool := inB f.1 1 1000000 && inB f.2.1 1 9 && placeB wd hg f.2.2.1 f.2.2.2.1 && decide (f.2.2.2.2.size ≤ 40)
/-- A chart in numbers. -/
structure Ch where
  wd : Int
  hg : Int
  D : List Int
  F : List FeatureT
  ed : Int
def headB (c : Ch) : Bool := inB c.wd 1 12 && inB c.hg 1 12 && decide ((c.D.length : Int) = c.wd * c.hg) && decide (c.F.length ≤ 30) && inB c.ed 0 1000000
def featsB (c : Ch) (i : Nat) : Bool := featB c.wd c.hg (c.F.getD i default) && (decide (i = 0) || decide ((c.F.getD (i - 1) default).1 < (c.F.getD i default).1))
def chartB (c : Ch) : Bool := headB c && c.D.all (fun d => inB d (-1000) 10000) && (List.range c.F.length).all (featsB c)

theorem l6Depth_any (d : Int) (w : World) : Calls Try.prog 57 #[.int .i64 d] w fun e w' => e = .returned (.bool (inB d (-1000) 10000)) ∧ w = w' := by
  go_enter Try.func57, Try.ntmps57
  go_wp2_with (go_at_call 56; refine (l1In_any _ _ _ _).mono ?_; rintro e w' ⟨rfl, rfl⟩)
  go_ret
  exact ⟨rfl, rfl⟩

set_option maxHeartbeats 800000 in
theorem l6Place_any (wd hg ed x y : Int) (dv fv : Value) (w : World) (hw0 : -9223372036854775807 ≤ wd) (hw1 : wd ≤ 9223372036854775807) (hh0 : -9223372036854775807 ≤ hg) (hh1 : hg ≤ 9223372036854775807) :
    Calls Try.prog 91 #[vChart wd hg dv fv ed, .int .i64 x, .int .i64 y] w fun e w' => e = .returned (.bool (placeB wd hg x y)) ∧ Below w.heap.size w w' := by
  have q1 : IntKind.i64.wrap (wd - 1) = wd - 1 := by rw [IntKind.wrap_i64]; omega
  have q2 : IntKind.i64.wrap (hg - 1) = hg - 1 := by rw [IntKind.wrap_i64]; omega
  have HB := hide (Below.alloc1 w (.cells #[.int .i64 wd, .int .i64 hg, dv, fv, .int .i64 ed] 27))
  obtain ⟨r, er⟩ : ∃ r, r = placeB wd hg x y := ⟨_, rfl⟩
  rw [← er]
  have ER := hide er
  clear er
  unfold placeB at ER
  unfold vChart
  cases h1 : inB x 0 (wd - 1) <;> cases h2 : inB y 0 (hg - 1)
  all_goals
    have e1 := unhide ER
    rw [h1, h2] at e1
    simp only [Bool.false_and, Bool.true_and] at e1
    subst e1
    clear ER
    go_enter Try.func91, Try.ntmps91
    go_wp2_with (go_at_call 56; refine (l1In_any _ _ _ _).mono ?_; rintro e w' ⟨rfl, rfl⟩)
    go_ret
    exact ⟨rfl, unhide HB⟩

set_option maxRecDepth 10000 in
set_option maxHeartbeats 1600000 in
theorem l6Feature_any (wd hg ed : Int) (dv fv : Value) (x0 x1 x2 x3 : Int) (x4 : ByteArray) (w : World) (hw0 : 1 ≤ wd) (hw1 : wd ≤ 12) (hh0 : 1 ≤ hg) (hh1 : hg ≤ 12) :
    Calls Try.prog 58 #[vChart wd hg dv fv ed, vFeature x0 x1 x2 x3 x4] w fun e w' => e = .returned (.bool (featB wd hg (x0, x1, x2, x3, x4))) ∧ Below w.heap.size w w' := by
  have A := Below.step (Below.alloc1 w (.cells #[.int .i64 wd, .int .i64 hg, dv, fv, .int .i64 ed] 27)) (Below.alloc1 _ (.cells #[.int .i64 x0, .int .i64 x1, .int .i64 x2, .int .i64 x3, .string x4] 91))
  have HB := hide A
  have HP := hide fun V => l6Place_any wd hg ed x2 x3 dv fv V (by omega) (by omega) (by omega) (by omega)
  clear A
  obtain ⟨r, er⟩ : ∃ r, r = featB wd hg (x0, x1, x2, x3, x4) := ⟨_, rfl⟩
  rw [← er]
  have ER := hide er
  clear er
  unfold featB at ER
  obtain ⟨m, em⟩ : ∃ m, x4.size = m := ⟨_, rfl⟩
  rw [em] at ER
  have O := ownV_alloc (w.alloc (.cells #[.int .i64 wd, .int .i64 hg, dv, fv, .int .i64 ed] 27)) #[.int .i64 x0, .int .i64 x1, .int .i64 x2, .int .i64 x3, .string x4] 91
  simp only [World.size_alloc] at O
  have HO := hide O
  clear O
  unfold vChart at HP ⊢
  unfold vFeature
  cases h1 : inB x0 1 1000000
  · have e1 : r = false := by rw [unhide ER, h1]; rfl
    subst e1
    go_enter Try.func58, Try.ntmps58
    go_wp2_with (go_at_call 56; refine (l1In_any _ _ _ _).mono ?_; rintro e w' ⟨rfl, h9⟩; have h8 := h9.symm; subst h8; clear h9)
    go_ret
    exact ⟨rfl, unhide HB⟩
  cases h2 : inB x1 1 9
  · have e1 : r = false := by rw [unhide ER, h1, h2]; rfl
    subst e1
    go_enter Try.func58, Try.ntmps58
    go_wp2_with (go_at_call 56; refine (l1In_any _ _ _ _).mono ?_; rintro e w' ⟨rfl, h9⟩; have h8 := h9.symm; subst h8; clear h9)
    go_ret
    exact ⟨rfl, unhide HB⟩
  cases h3 : placeB wd hg x2 x3
  · have e1 : r = false := by rw [unhide ER, h1, h2, h3]; rfl
    subst e1
    rw [h3] at HP
    go_enter Try.func58, Try.ntmps58
    go_wp2_with (first | (go_at_call 56; refine (l1In_any _ _ _ _).mono ?_; rintro e w' ⟨rfl, h9⟩; have h8 := h9.symm; subst h8; clear h9) | (go_at_call 91; refine (unhide HP _).mono ?_; rintro e w1 ⟨rfl, hb⟩; have HB1 := hide (Below.step (unhide HB) hb); clear hb))
    go_ret
    exact ⟨rfl, unhide HB1⟩
  rw [h3] at HP
  by_cases h4 : m ≤ 40
  · have e1 : r = true := by rw [unhide ER, h1, h2, h3, decide_eq_true h4]; rfl
    subst e1
    have h4i : (m : Int) ≤ 40 := by omega
    go_enter Try.func58, Try.ntmps58
    go_wp2_with (first | (go_at_call 56; refine (l1In_any _ _ _ _).mono ?_; rintro e w' ⟨rfl, h9⟩; have h8 := h9.symm; subst h8; clear h9) | (go_at_call 91; refine (unhide HP _).mono ?_; rintro e w1 ⟨rfl, hb⟩; have c4 := OwnV.cell (OwnV.step (unhide HO) hb) (i := 4) rfl; have HB1 := hide (Below.step (unhide HB) hb); clear hb))
    go_ret
    exact ⟨rfl, unhide HB1⟩
  · have e1 : r = false := by rw [unhide ER, h1, h2, h3, decide_eq_false h4]; rfl
    subst e1
    have h4i : ¬ (m : Int) ≤ 40 := by omega
    go_enter Try.func58, Try.ntmps58
    go_wp2_with (first | (go_at_call 56; refine (l1In_any _ _ _ _).mono ?_; rintro e w' ⟨rfl, h9⟩; have h8 := h9.symm; subst h8; clear h9) | (go_at_call 91; refine (unhide HP _).mono ?_; rintro e w1 ⟨rfl, hb⟩; have c4 := OwnV.cell (OwnV.step (unhide HO) hb) (i := 4) rfl; have HB1 := hide (Below.step (unhide HB) hb); clear hb))
    go_ret
    exact ⟨ret_bool (by simp; omega), unhide HB1⟩

end Go.Proofs.Ytmpicamenjnkkaa

/- Shears and bendings as numbers, and when strips are right; contracts of the specification's l3All and the program's stripsOk. -/
namespace Go.Proofs.Ytmpicamenjnkkaa
open Go.RowKit

theorem sumTo_abs {f : Nat → Int} {B : Int} {n : Nat} (h : ∀ i, i < n → -B ≤ f i ∧ f i ≤ B) : ∀ k, k ≤ n → -(k * B) ≤ sumTo f k ∧ sumTo f k ≤ k * B
  | 0, _ => by simp [sumTo]
  | k + 1, hk => by
    have ih := sumTo_abs h k (by omega)
    have hf := h k (by omega)
    have e : ((k + 1 : Nat) : Int) * B = k * B + B := by rw [Int.natCast_add, Int.add_mul]; simp
    rw [e]
    simp only [sumTo]
    omega

def shOk (W B : List Int) : Bool := decide (W.length = B.length) && decide (W.length ≤ 40) && W.all (fun x => inB x 0 1000000) && B.all (fun x => inB x 0 2000000)

/-- Twice the shear at station k. -/
def shAt (W B : List Int) (k : Nat) : Int := sumTo (fun i => 2 * W.getD i 0 - B.getD i 0) k
/-- Four times the bending at station k. -/
def beAt (W B : List Int) (st : Int) (k : Nat) : Int := sumTo (fun i => st * (shAt W B i + shAt W B (i + 1))) k

def shear (W B : List Int) : List Int := if shOk W B = true then (List.range (W.length + 1)).map (shAt W B) else []
def beOk (W B : List Int) (st : Int) : Bool := shOk W B && inB st 1 100
def bend (W B : List Int) (st : Int) : List Int := if beOk W B st = true then (List.range (W.length + 1)).map (beAt W B st) else []
def balanced (W B : List Int) (st : Int) : Bool := beOk W B st && decide (0 < W.length) && decide (shAt W B W.length = 0) && decide (beAt W B st W.length = 0)

structure ShR (W B : List Int) : Prop where
  same : B.length = W.length
  len : W.length ≤ 40
  w : ∀ i, i < W.length → 0 ≤ W.getD i 0 ∧ W.getD i 0 ≤ 1000000
  b : ∀ i, i < W.length → 0 ≤ B.getD i 0 ∧ B.getD i 0 ≤ 2000000

theorem shOk_r {W B : List Int} (h : shOk W B = true) : ShR W B := by
  simp only [shOk, Bool.and_eq_true, decide_eq_true_eq] at h
  obtain ⟨⟨⟨h1, h2⟩, h3⟩, h4⟩ := h
  exact ⟨h1.symm, h2, fun i hi => inB_true (all_at (d := 0) h3 hi), fun i hi => inB_true (all_at (d := 0) h4 (by omega))⟩

theorem shAt_bd {W B : List Int} (h : ShR W B) {k : Nat} (hk : k ≤ W.length) : -80000000 ≤ shAt W B k ∧ shAt W B k ≤ 80000000 := by
  have := sumTo_abs (f := fun i => 2 * W.getD i 0 - B.getD i 0) (B := 2000000) (n := W.length) (fun i hi => by have := h.w i hi; have := h.b i hi; omega) k hk
  have := h.len
  unfold shAt
  omega

theorem beStep_bd {W B : List Int} {st : Int} (h : ShR W B) (hs : 1 ≤ st ∧ st ≤ 100) {k : Nat} (hk : k < W.length) : -16000000000 ≤ st * (shAt W B k + shAt W B (k + 1)) ∧ st * (shAt W B k + shAt W B (k + 1)) ≤ 16000000000 := by
  have h1 := shAt_bd h (show k ≤ W.length by omega)
  have h2 := shAt_bd h (show k + 1 ≤ W.length by omega)
  have hx1 : -160000000 ≤ shAt W B k + shAt W B (k + 1) := by omega
  have hx2 : shAt W B k + shAt W B (k + 1) ≤ 160000000 := by omega
  generalize shAt W B k + shAt W B (k + 1) = x at *
  constructor
  · have := Int.mul_le_mul_of_nonneg_left hx1 (show 0 ≤ st by omega); omega
  · have := Int.mul_le_mul_of_nonneg_left hx2 (show 0 ≤ st by omega); omega

theorem beAt_bd {W B : List Int} {st : Int} (h : ShR W B) (hs : 1 ≤ st ∧ st ≤ 100) {k : Nat} (hk : k ≤ W.length) : -640000000000 ≤ beAt W B st k ∧ beAt W B st k ≤ 640000000000 := by
  have := sumTo_abs (f := fun i => st * (shAt W B i + shAt W B (i + 1))) (B := 16000000000) (n := W.length) (fun i hi => beStep_bd h hs hi) k hk
  have := h.len
  unfold beAt
  omega

theorem shAt_succ (W B : List Int) (k : Nat) : shAt W B (k + 1) = shAt W B k + (2 * W.getD k 0 - B.getD k 0) := rfl
theorem beAt_succ (W B : List Int) (st : Int) (k : Nat) : beAt W B st (k + 1) = beAt W B st k + st * (shAt W B k + shAt W B (k + 1)) := rfl
theorem shear_len (W B : List Int) : (shear W B).length ≤ 41 := by
  unfold shear
  split
  · rename_i h; have := (shOk_r h).len; simp; omega
  · simp
theorem bend_len (W B : List Int) (st : Int) : (bend W B st).length ≤ 41 := by
  unfold bend
  split
  · rename_i h; simp only [beOk, Bool.and_eq_true] at h; have := (shOk_r h.1).len; simp; omega
  · simp

end Go.Proofs.Ytmpicamenjnkkaa

/- Laid together out of: SeA, SgA, SgB, SeB, SeC, SeD, SeE, SeH, OwC. -/
import Derived.Test.YtdpcacfgbjllhaaPa
import Derived.Deep.AppendLies
import Derived.Deep.RegionLaw
import Derived.Deep.RegionHeld3

/- Seas: words; contracts of the laws' own szSea, toSea, eqSea. -/
namespace Go.Proofs.Ytdpcacfgbjllhaa
open Go.RowKit

def vSea (wd hg : Int) (dv fv : Value) : Value := .agg #[.int .i64 wd, .int .i64 hg, dv, fv]

/-- Three boxes of the call's own. -/
structure S3 (w W : World) (a b c : List Value) : Prop where
  o1 : OwnV W w.heap.size a
  o2 : OwnV W (w.heap.size + 1) b
  o3 : OwnV W (w.heap.size + 1 + 1) c
  below : Below w.heap.size w W
theorem S3.step {w W W' : World} {a b c : List Value} (h : S3 w W a b c) (hb : Below W.heap.size W W') : S3 w W' a b c := ⟨h.o1.step hb, h.o2.step hb, h.o3.step hb, Below.step h.below hb⟩
theorem S3.put3 {w W : World} {a b c : List Value} (h : S3 w W a b c) (i : Nat) (u : Value) (hi : i < c.length) : S3 w (W.setCell ⟨w.heap.size + 1 + 1, i, none⟩ u) a b (c.set i u) :=
  ⟨h.o1.other (a := ⟨w.heap.size + 1 + 1, i, none⟩) (by show w.heap.size ≠ w.heap.size + 1 + 1; omega) u, h.o2.other (a := ⟨w.heap.size + 1 + 1, i, none⟩) (by show w.heap.size + 1 ≠ w.heap.size + 1 + 1; omega) u, h.o3.set i u hi, h.below.setCell (p := ⟨w.heap.size + 1 + 1, i, none⟩) (by show w.heap.size ≤ w.heap.size + 1 + 1; omega) u⟩
theorem S3.put2 {w W : World} {a b c : List Value} (h : S3 w W a b c) (i : Nat) (u : Value) (hi : i < b.length) : S3 w (W.setCell ⟨w.heap.size + 1, i, none⟩ u) a (b.set i u) c :=
  ⟨h.o1.other (a := ⟨w.heap.size + 1, i, none⟩) (by show w.heap.size ≠ w.heap.size + 1; omega) u, h.o2.set i u hi, h.o3.other (a := ⟨w.heap.size + 1, i, none⟩) (by show w.heap.size + 1 + 1 ≠ w.heap.size + 1; omega) u, h.below.setCell (p := ⟨w.heap.size + 1, i, none⟩) (by show w.heap.size ≤ w.heap.size + 1; omega) u⟩
theorem s3_new (w : World) (a b c : Array Value) (t1 t2 t3 : TypeId) : S3 w (((w.alloc (.cells a t1)).alloc (.cells b t2)).alloc (.cells c t3)) a.toList b.toList c.toList := by
  have h2 := ownV_alloc (w.alloc (.cells a t1)) b t2
  have h3 := ownV_alloc ((w.alloc (.cells a t1)).alloc (.cells b t2)) c t3
  simp only [World.size_alloc] at h2 h3
  exact ⟨((ownV_alloc w a t1).alloc _).alloc _, h2.alloc _, h3, Below.step (Below.step (Below.alloc1 _ _) (Below.alloc1 _ _)) (Below.alloc1 _ _)⟩

theorem farS {W : World} {g g' : Nat} {vs : List Value} (h : OwnV W g vs) (hne : g ≠ g') (i : Nat) (u : Value) : OwnV (W.setCell ⟨g', i, none⟩ u) g vs := h.other (a := ⟨g', i, none⟩) hne u

set_option maxRecDepth 10000 in
set_option maxHeartbeats 1600000 in
theorem toSea_any (wd hg : Int) (dao : Option Addr) (dn dc : Nat) (fao : Option Addr) (fn fc : Nat) (D : List Int) (F : List ClosedT) (w : World) (hD : IntsIn w (.slice dao dn dc) D) (hF : RClosed w (.slice fao fn fc) F) (hsD : D.length ≤ 1048576) (hsF : F.length ≤ 1048576) :
    Calls Try.prog 19 #[vSea wd hg (.slice dao dn dc) (.slice fao fn fc)] w fun e w' => ∃ g1 g2, e = .returned (vSea wd hg (.slice (some ⟨g1, 0, none⟩) D.length D.length) (.slice (some ⟨g2, 0, none⟩) F.length F.length)) ∧ w.heap.size ≤ g1 ∧ g1 < g2 ∧ OwnV w' g1 (ints D) ∧ OwnV w' g2 (recCells 6 eClosed F) ∧ Below w.heap.size w w' := by
  have HD := hide hD
  have HF := hide hF
  have HH := hide (s3_new w #[.int .i64 wd, .int .i64 hg, .slice dao dn dc, .slice fao fn fc] #[.int .i64 0, .int .i64 0, .slice none 0 0, .slice none 0 0] #[.int .i64 wd, .int .i64 hg, .slice none 0 0, .slice none 0 0] 42 27 27)
  clear hD hF
  unfold vSea
  go_enter Try.func19, Try.ntmps19
  go_wp2_with fail
  refine (toIntS_any _ D _ ((unhide HD).below (unhide HH).below) hsD).mono ?_
  rintro e w1 ⟨rfl, hO1, hb, -⟩
  obtain ⟨W0, e0⟩ : ∃ z, z = ((w.alloc (.cells #[.int .i64 wd, .int .i64 hg, .slice dao dn dc, .slice fao fn fc] 42)).alloc (.cells #[.int .i64 0, .int .i64 0, .slice none 0 0, .slice none 0 0] 27)).alloc (.cells #[.int .i64 wd, .int .i64 hg, .slice none 0 0, .slice none 0 0] 27) := ⟨_, rfl⟩
  rw [← e0] at HH hb hO1 ⊢
  clear e0
  have hg1 : w.heap.size + 1 + 1 < W0.heap.size := (unhide HH).o3.lt
  replace HH := hide ((unhide HH).step hb)
  have hlt1 := hO1.lt
  clear hb
  generalize W0.heap.size = g1 at *
  have HO1 := hide hO1
  clear hO1
  have a3 := (unhide HH).o1.cell (i := 3) rfl
  have c2 := (unhide HH).o3.cell (i := 2) rfl
  have cf := (unhide HH).o3.frozen
  have hn1 : ¬ w.heap.size = w.heap.size + 1 + 1 := by omega
  have hn2 : ¬ w.heap.size + 1 + 1 = w.heap.size := by omega
  go_wp2_with fail
  replace HH := hide ((unhide HH).put3 2 (.slice (some ⟨g1, 0, none⟩) D.length D.length) (by simp))
  replace HO1 := hide ((unhide HO1).other (a := ⟨w.heap.size + 1 + 1, 2, none⟩) (by show g1 ≠ w.heap.size + 1 + 1; omega) (.slice (some ⟨g1, 0, none⟩) D.length D.length))
  refine (toClosedS_any _ F _ ((unhide HF).below (unhide HH).below) hsF).mono ?_
  rintro e w2 ⟨g2, rfl, hg2, hO2, hb⟩
  replace HH := hide ((unhide HH).step hb)
  have hg12 : g1 < g2 := by have := (unhide HO1).lt; omega
  replace HO1 := hide (OwnV.step (unhide HO1) hb)
  have HO2 := hide hO2
  clear hb hO2 a3 c2 cf hg2 hlt1 HD HF
  have c0 := (unhide HH).o3.cell (i := 0) rfl
  have c1 := (unhide HH).o3.cell (i := 1) rfl
  have c2 := (unhide HH).o3.cell (i := 2) rfl
  have c3 := (unhide HH).o3.cell (i := 3) rfl
  have cf := (unhide HH).o3.frozen
  have HH1 := hide ((unhide HH).put3 3 (.slice (some ⟨g2, 0, none⟩) F.length F.length) (by simp))
  have e0 := (unhide HH1).o3.cell (i := 0) rfl
  have e1 := (unhide HH1).o3.cell (i := 1) rfl
  have e2 := (unhide HH1).o3.cell (i := 2) rfl
  have e3 := (unhide HH1).o3.cell (i := 3) rfl
  have d0 := (unhide HH1).o2.cell (i := 0) rfl
  have d1 := (unhide HH1).o2.cell (i := 1) rfl
  have d2 := (unhide HH1).o2.cell (i := 2) rfl
  have d3 := (unhide HH1).o2.cell (i := 3) rfl
  have df := (unhide HH1).o2.frozen
  have HH2 := hide (((((unhide HH1).put2 0 (.int .i64 wd) (by simp)).put2 1 (.int .i64 hg) (by simp)).put2 2 (.slice (some ⟨g1, 0, none⟩) D.length D.length) (by simp)).put2 3 (.slice (some ⟨g2, 0, none⟩) F.length F.length) (by simp))
  have hq1 : g1 ≠ w.heap.size + 1 + 1 := by omega
  have hq2 : g2 ≠ w.heap.size + 1 + 1 := by omega
  have hq3 : g1 ≠ w.heap.size + 1 := by omega
  have hq4 : g2 ≠ w.heap.size + 1 := by omega
  have HO1' := hide (farS (farS (farS (farS (farS (unhide HO1) hq1 3 (.slice (some ⟨g2, 0, none⟩) F.length F.length)) hq3 0 (.int .i64 wd)) hq3 1 (.int .i64 hg)) hq3 2 (.slice (some ⟨g1, 0, none⟩) D.length D.length)) hq3 3 (.slice (some ⟨g2, 0, none⟩) F.length F.length))
  have HO2' := hide (farS (farS (farS (farS (farS (unhide HO2) hq2 3 (.slice (some ⟨g2, 0, none⟩) F.length F.length)) hq4 0 (.int .i64 wd)) hq4 1 (.int .i64 hg)) hq4 2 (.slice (some ⟨g1, 0, none⟩) D.length D.length)) hq4 3 (.slice (some ⟨g2, 0, none⟩) F.length F.length))
  go_wp2
  have k0 := (unhide HH2).o2.cell (i := 0) rfl
  have k1 := (unhide HH2).o2.cell (i := 1) rfl
  have k2 := (unhide HH2).o2.cell (i := 2) rfl
  have k3 := (unhide HH2).o2.cell (i := 3) rfl
  refine bodyPost_ret (v := vSea wd hg (.slice (some ⟨g1, 0, none⟩) D.length D.length) (.slice (some ⟨g2, 0, none⟩) F.length F.length)) (by simp [results, Try.results19, go_sem, vSea, k0, k1, k2, k3]) rfl ⟨g1, g2, rfl, by omega, hg12, unhide HO1', unhide HO2', (unhide HH2).below⟩

set_option maxHeartbeats 1600000 in
theorem eqSea_any (wd hg : Int) (dao : Option Addr) (dn dc : Nat) (fao : Option Addr) (fn fc : Nat) (dao' : Option Addr) (dn' dc' : Nat) (fao' : Option Addr) (fn' fc' : Nat) (D : List Int) (F : List ClosedT) (w : World)
    (hD : IntsIn w (.slice dao dn dc) D) (hF : RClosed w (.slice fao fn fc) F) (hD' : IntsIn w (.slice dao' dn' dc') D) (hF' : RClosed w (.slice fao' fn' fc') F) :
    Calls Try.prog 21 #[vSea wd hg (.slice dao dn dc) (.slice fao fn fc), vSea wd hg (.slice dao' dn' dc') (.slice fao' fn' fc')] w fun e w' => e = .returned (.bool true) ∧ Below w.heap.size w w' := by
  have A := Below.step (Below.alloc1 w (.cells #[.int .i64 wd, .int .i64 hg, .slice dao dn dc, .slice fao fn fc] 27)) (Below.alloc1 _ (.cells #[.int .i64 wd, .int .i64 hg, .slice dao' dn' dc', .slice fao' fn' fc'] 27))
  have O1 := (ownV_alloc w #[.int .i64 wd, .int .i64 hg, .slice dao dn dc, .slice fao fn fc] 27).alloc (.cells #[.int .i64 wd, .int .i64 hg, .slice dao' dn' dc', .slice fao' fn' fc'] 27)
  have O2 := ownV_alloc (w.alloc (.cells #[.int .i64 wd, .int .i64 hg, .slice dao dn dc, .slice fao fn fc] 27)) #[.int .i64 wd, .int .i64 hg, .slice dao' dn' dc', .slice fao' fn' fc'] 27
  simp only [World.size_alloc] at O2
  have HD := hide (hD.below A)
  have HF := hide (hF.below A)
  have HD' := hide (hD'.below A)
  have HF' := hide (hF'.below A)
  have HW := hide A
  have HO1 := hide O1
  have HO2 := hide O2
  clear A O1 O2 hD hF hD' hF'
  unfold vSea
  go_enter Try.func21, Try.ntmps21
  go_wp2_with fail
  refine (eqIntS_any _ _ D _ (unhide HD) (unhide HD')).mono ?_
  rintro e w1 ⟨rfl, n, rfl⟩
  have hb := below_drewN (Below.refl _ ((w.alloc (.cells #[.int .i64 wd, .int .i64 hg, .slice dao dn dc, .slice fao fn fc] 27)).alloc (.cells #[.int .i64 wd, .int .i64 hg, .slice dao' dn' dc', .slice fao' fn' fc'] 27))) n
  replace HW := hide (Below.step (unhide HW) hb)
  replace HF := hide ((unhide HF).below hb)
  replace HF' := hide ((unhide HF').below hb)
  have c0 := OwnV.cell (OwnV.step (unhide HO1) hb) (i := 3) rfl
  have c2 := OwnV.cell (OwnV.step (unhide HO2) hb) (i := 3) rfl
  replace HO1 := hide (OwnV.step (unhide HO1) hb)
  replace HO2 := hide (OwnV.step (unhide HO2) hb)
  clear hb HD HD'
  obtain ⟨W1, e1⟩ : ∃ z, z = ((w.alloc (.cells #[.int .i64 wd, .int .i64 hg, .slice dao dn dc, .slice fao fn fc] 27)).alloc (.cells #[.int .i64 wd, .int .i64 hg, .slice dao' dn' dc', .slice fao' fn' fc'] 27)).drewN n := ⟨_, rfl⟩
  rw [← e1] at HW HF HF' HO1 HO2 c0 c2 ⊢
  clear e1
  go_wp2_with fail
  refine (eqClosedS_any _ _ F _ (unhide HF) (unhide HF')).mono ?_
  rintro e w2 ⟨rfl, hb⟩
  replace HW := hide (Below.step (unhide HW) hb)
  clear c0 c2
  clear hb HF HF' HO1 HO2
  go_wp2
  go_ret
  exact ⟨rfl, unhide HW⟩

set_option maxHeartbeats 1600000 in
theorem szSea_any (wd hg : Int) (dao : Option Addr) (dn dc : Nat) (fao : Option Addr) (fn fc : Nat) (D : List Int) (F : List ClosedT) (left : Int) (w : World)
    (hD : IntsIn w (.slice dao dn dc) D) (hF : RClosed w (.slice fao fn fc) F) (h0 : 0 ≤ left) (h1 : left ≤ 1048576) :
    Calls Try.prog 17 #[vSea wd hg (.slice dao dn dc) (.slice fao fn fc), .int .i64 left] w fun e w' => ∃ r, e = .returned (.int .i64 r) ∧ -1 ≤ r ∧ r ≤ 1048576 ∧ (0 ≤ r → D.length ≤ 1048576 ∧ F.length ≤ 1048576) ∧ Below w.heap.size w w' := by
  have A := Below.alloc1 w (.cells #[.int .i64 wd, .int .i64 hg, .slice dao dn dc, .slice fao fn fc] 42)
  have HD := hide (hD.below A)
  have HF := hide (hF.below A)
  have HW := hide A
  clear A hD hF
  unfold vSea
  by_cases hlt : left < D.length
  · go_enter Try.func17, Try.ntmps17
    go_wp2_with fail
    refine (szIntS_no _ D left _ (unhide HD) h0 h1 hlt).mono ?_
    rintro e w1 ⟨rfl, rfl⟩
    go_wp2
    go_ret
    exact ⟨_, rfl, by omega, by omega, fun h => by omega, unhide HW⟩
  · go_enter Try.func17, Try.ntmps17
    go_wp2_with fail
    refine (szIntS_yes _ D left _ (unhide HD) h1 (by omega)).mono ?_
    rintro e w1 ⟨rfl, rfl⟩
    have HSZ := hide (szClosedS_any _ F (left - D.length) _ (unhide HF) (by omega) (by omega))
    have hnl : ¬ left - (D.length : Int) < 0 := by omega
    go_wp2_with fail
    refine (unhide HSZ).mono ?_
    rintro e w2 ⟨r, rfl, ⟨hr1, hr2, hr3⟩, hb⟩
    replace HW := hide (Below.step (unhide HW) hb)
    clear hb HSZ
    by_cases hr : r < 0
    · go_wp2
      go_ret
      exact ⟨_, rfl, by omega, by omega, fun h => by omega, unhide HW⟩
    · go_wp2
      go_ret
      exact ⟨_, rfl, by omega, by omega, fun h => ⟨by omega, hr3 h⟩, unhide HW⟩

end Go.Proofs.Ytdpcacfgbjllhaa

/- Shears and bendings as numbers, and when strips are right; contracts of the specification's l3All and the program's stripsOk. -/
namespace Go.Proofs.Ytdpcacfgbjllhaa
open Go.RowKit

theorem sumTo_abs {f : Nat → Int} {B : Int} {n : Nat} (h : ∀ i, i < n → -B ≤ f i ∧ f i ≤ B) : ∀ k, k ≤ n → -(k * B) ≤ sumTo f k ∧ sumTo f k ≤ k * B
  | 0, _ => by simp [sumTo]
  | k + 1, hk => by
    have ih := sumTo_abs h k (by omega)
    have hf := h k (by omega)
    have e : ((k + 1 : Nat) : Int) * B = k * B + B := by rw [Int.natCast_add, Int.add_mul]; simp
    rw [e]
    simp only [sumTo]
    omega

def shOk (W B : List Int) : Bool := decide (W.length = B.length) && decide (W.length ≤ 40) && W.all (fun x => inB x 0 1000000) && B.all (fun x => inB x 0 2000000)

/-- Twice the shear at station k. -/
def shAt (W B : List Int) (k : Nat) : Int := sumTo (fun i => 2 * W.getD i 0 - B.getD i 0) k
/-- Four times the bending at station k. -/
def beAt (W B : List Int) (st : Int) (k : Nat) : Int := sumTo (fun i => st * (shAt W B i + shAt W B (i + 1))) k

def shear (W B : List Int) : List Int := if shOk W B = true then (List.range (W.length + 1)).map (shAt W B) else []
def beOk (W B : List Int) (st : Int) : Bool := shOk W B && inB st 1 100
def bend (W B : List Int) (st : Int) : List Int := if beOk W B st = true then (List.range (W.length + 1)).map (beAt W B st) else []
def balanced (W B : List Int) (st : Int) : Bool := beOk W B st && decide (0 < W.length) && decide (shAt W B W.length = 0) && decide (beAt W B st W.length = 0)

structure ShR (W B : List Int) : Prop where
  same : B.length = W.length
  len : W.length ≤ 40
  w : ∀ i, i < W.length → 0 ≤ W.getD i 0 ∧ W.getD i 0 ≤ 1000000
  b : ∀ i, i < W.length → 0 ≤ B.getD i 0 ∧ B.getD i 0 ≤ 2000000

theorem shOk_r {W B : List Int} (h : shOk W B = true) : ShR W B := by
  simp only [shOk, Bool.and_eq_true, decide_eq_true_eq] at h
  obtain ⟨⟨⟨h1, h2⟩, h3⟩, h4⟩ := h
  exact ⟨h1.symm, h2, fun i hi => inB_true (all_at (d := 0) h3 hi), fun i hi => inB_true (all_at (d := 0) h4 (by omega))⟩

theorem shAt_bd {W B : List Int} (h : ShR W B) {k : Nat} (hk : k ≤ W.length) : -80000000 ≤ shAt W B k ∧ shAt W B k ≤ 80000000 := by
  have := sumTo_abs (f := fun i => 2 * W.getD i 0 - B.getD i 0) (B := 2000000) (n := W.length) (fun i hi => by have := h.w i hi; have := h.b i hi; omega) k hk
  have := h.len
  unfold shAt
  omega

theorem beStep_bd {W B : List Int} {st : Int} (h : ShR W B) (hs : 1 ≤ st ∧ st ≤ 100) {k : Nat} (hk : k < W.length) : -16000000000 ≤ st * (shAt W B k + shAt W B (k + 1)) ∧ st * (shAt W B k + shAt W B (k + 1)) ≤ 16000000000 := by
  have h1 := shAt_bd h (show k ≤ W.length by omega)
  have h2 := shAt_bd h (show k + 1 ≤ W.length by omega)
  have hx1 : -160000000 ≤ shAt W B k + shAt W B (k + 1) := by omega
  have hx2 : shAt W B k + shAt W B (k + 1) ≤ 160000000 := by omega
  generalize shAt W B k + shAt W B (k + 1) = x at *
  constructor
  · have := Int.mul_le_mul_of_nonneg_left hx1 (show 0 ≤ st by omega); omega
  · have := Int.mul_le_mul_of_nonneg_left hx2 (show 0 ≤ st by omega); omega

theorem beAt_bd {W B : List Int} {st : Int} (h : ShR W B) (hs : 1 ≤ st ∧ st ≤ 100) {k : Nat} (hk : k ≤ W.length) : -640000000000 ≤ beAt W B st k ∧ beAt W B st k ≤ 640000000000 := by
  have := sumTo_abs (f := fun i => st * (shAt W B i + shAt W B (i + 1))) (B := 16000000000) (n := W.length) (fun i hi => beStep_bd h hs hi) k hk
  have := h.len
  unfold beAt
  omega

theorem shAt_succ (W B : List Int) (k : Nat) : shAt W B (k + 1) = shAt W B k + (2 * W.getD k 0 - B.getD k 0) := rfl
theorem beAt_succ (W B : List Int) (st : Int) (k : Nat) : beAt W B st (k + 1) = beAt W B st k + st * (shAt W B k + shAt W B (k + 1)) := rfl
theorem shear_len (W B : List Int) : (shear W B).length ≤ 41 := by
  unfold shear
  split
  · rename_i h; have := (shOk_r h).len; simp; omega
  · simp
theorem bend_len (W B : List Int) (st : Int) : (bend W B st).length ≤ 41 := by
  unfold bend
  split
  · rename_i h; simp only [beOk, Bool.and_eq_true] at h; have := (shOk_r h.1).len; simp; omega
  · simp

end Go.Proofs.Ytdpcacfgbjllhaa

/- Contracts of l3All and stripsOk, and of both sides' Shear2. -/
namespace Go.Proofs.Ytdpcacfgbjllhaa
open Go.RowKit

set_option maxHeartbeats 400000 in
theorem l3All_any (v : Value) (xs : List Int) (a b : Int) (w : World) (h : IntsIn w v xs) :
    Calls Try.prog 63 #[v, .int .i64 a, .int .i64 b] w fun e w' => e = .returned (.bool (xs.all fun x => inB x a b)) ∧ w = w' := by
  obtain ⟨ao, cap, rfl, hl, hm, hc⟩ := h
  unfold maxLen at hm
  have HC := hide hc
  clear hc
  go_enter Try.func63, Try.ntmps63
  go_wp2
  go_loopg [7] xs.length (fun g i wr => w = wr ∧ ∃ k : Nat, k ≤ xs.length ∧ g = xs.length - k ∧ i = .int .i64 k ∧ Hid (∀ r, r < k → inB (xs.getD r 0) a b = true))
  case atStart => exact ⟨rfl, 0, Nat.zero_le _, rfl, rfl, fun r hr => by omega⟩
  case round =>
    obtain ⟨rfl, k, hk, rfl, rfl, HD⟩ := hrel
    by_cases hkn : k < xs.length
    · obtain ⟨p, o, rfl, hcell⟩ := unhide HC k hkn
      cases hin : inB (xs.getD k 0) a b with
      | true =>
        have HD' : Hid (∀ r, r < k + 1 → inB (xs.getD r 0) a b = true) := fun r hr => by
          by_cases e : r = k
          · subst e; exact hin
          · exact HD.out r (by omega)
        clear HD
        generalize xs.getD k 0 = x at *
        go_wp2_with (go_at_call 62; refine (l1In_any _ _ _ _).mono ?_; rintro e w' ⟨rfl, rfl⟩)
        go_roundg (xs.length - (k + 1))
        case measure => omega
        case rel => exact ⟨rfl, k + 1, by omega, rfl, by go_num, HD'⟩
      | false =>
        have HF : Hid ((xs.all fun x => inB x a b) = false) := all_false hkn (d := 0) hin
        clear HD
        generalize xs.getD k 0 = x at *
        go_wp2_with (go_at_call 62; refine (l1In_any _ _ _ _).mono ?_; rintro e w' ⟨rfl, rfl⟩)
        go_ret
        exact ⟨ret_bool (unhide HF).symm, rfl⟩
    · have HF : Hid ((xs.all fun x => inB x a b) = true) := all_true (d := 0) (fun r hr => HD.out r (by omega))
      clear HD
      go_wp2
      go_ret
      exact ⟨ret_bool (unhide HF).symm, rfl⟩

/-- The list begins with 0: one cell of the new list is filled. -/
theorem fillS_one (w : World) (f : Nat → Int) (n : Nat) (h0 : f 0 = 0) : FillS w (w.alloc (.cells (madeCells #[.int .i64 0] n) 3)) f n 1 :=
  ⟨(fillS_start w f n).below, (fillS_start w f n).row.congr (fun j _ => by
    by_cases h : j < 1
    · obtain rfl : j = 0 := by omega
      simp [h0]
    · simp [h])⟩

theorem FillS.cell {w wr : World} {f : Nat → Int} {n k j : Nat} (h : FillS w wr f n k) (hj : j < k) (hn : j < n) : wr.cell? ⟨w.heap.size, j, none⟩ = some (.int .i64 (f j)) := by
  have := h.row.cell hn
  rwa [if_pos hj] at this

theorem FillS.cell0 {w wr : World} {f : Nat → Int} {n k : Nat} (h : FillS w wr f n k) (hn : k < n) : wr.cell? ⟨w.heap.size, k, none⟩ = some (.int .i64 0) := by
  have := h.row.cell hn
  rwa [if_neg (by omega)] at this

end Go.Proofs.Ytdpcacfgbjllhaa

/- Seas in numbers; contract of the specification's SeaOk. Written by wip/mksea.py. -/
namespace Go.Proofs.Ytdpcacfgbjllhaa
open Go.RowKit

/-- A sea in numbers. -/
structure Se where
  wd : Int
  hg : Int
  D : List Int
  F : List ClosedT
def clB (c : ClosedT) : Bool := inB c.1 0 c.2.2.1 && inB c.2.1 0 c.2.2.2.1 && decide (c.2.2.1 < 12) && decide (c.2.2.2.1 < 12) && inB c.2.2.2.2.1 0 c.2.2.2.2.2 && decide (c.2.2.2.2.2 ≤ 1000000)
def sea0B (s : Se) : Bool := inB s.wd 1 12 && inB s.hg 1 12 && decide ((s.D.length : Int) = s.wd * s.hg) && decide (s.F.length ≤ 10) && s.D.all (fun d => inB d 0 1000)
def seaB (s : Se) : Bool := sea0B s && s.F.all clB
theorem mul_s12 {x y : Int} (hx0 : 1 ≤ x) (hx1 : x ≤ 12) (hy0 : 1 ≤ y) (hy1 : y ≤ 12) : 1 ≤ x * y ∧ x * y ≤ 144 := by
  have h : x = 1 ∨ x = 2 ∨ x = 3 ∨ x = 4 ∨ x = 5 ∨ x = 6 ∨ x = 7 ∨ x = 8 ∨ x = 9 ∨ x = 10 ∨ x = 11 ∨ x = 12 := by omega
  rcases h with rfl | rfl | rfl | rfl | rfl | rfl | rfl | rfl | rfl | rfl | rfl | rfl <;> omega
/-- What SeaOk says of the numbers. -/
structure SeaN (s : Se) : Prop where
  w0 : 1 ≤ s.wd
  w1 : s.wd ≤ 12
  h0 : 1 ≤ s.hg
  h1 : s.hg ≤ 12
  len : (s.D.length : Int) = s.wd * s.hg
  le : s.D.length ≤ 144
  pos : 1 ≤ s.D.length
  shut : s.F.length ≤ 10
  cost : ∀ i, i < s.D.length → 0 ≤ s.D.getD i 0 ∧ s.D.getD i 0 ≤ 1000
  closed : ∀ c ∈ s.F, clB c = true
theorem seaB_n {s : Se} (h : seaB s = true) : SeaN s := by
  unfold seaB sea0B at h
  simp only [Bool.and_eq_true, decide_eq_true_eq, List.all_eq_true] at h
  obtain ⟨⟨⟨⟨⟨h1, h2⟩, h3⟩, h4⟩, h5⟩, h6⟩ := h
  obtain ⟨a1, a2⟩ := inB_true h1
  obtain ⟨a3, a4⟩ := inB_true h2
  have hm := mul_s12 a1 a2 a3 a4
  exact ⟨a1, a2, a3, a4, h3, by omega, by omega, h4, fun i hi => inB_true (h5 _ (by rw [getD_lt hi]; exact List.getElem_mem _)), h6⟩


set_option maxRecDepth 10000 in
set_option maxHeartbeats 16000000 in
theorem specSeaOk_any (s : Se) (dao : Option Addr) (dn dc : Nat) (fao : Option Addr) (fn fc : Nat) (w : World) (hD : IntsIn w (.slice dao dn dc) s.D) (hF : RClosed w (.slice fao fn fc) s.F) :
    Calls Try.prog 48 #[vSea s.wd s.hg (.slice dao dn dc) (.slice fao fn fc)] w fun e w' => e = .returned (.bool (seaB s)) ∧ Below w.heap.size w w' := by
  obtain ⟨wd, hg, D, F⟩ := s
  dsimp only at hD hF ⊢
  have A := Below.alloc1 w (.cells #[.int .i64 wd, .int .i64 hg, .slice dao dn dc, .slice fao fn fc] 27)
  have O := ownV_alloc w #[.int .i64 wd, .int .i64 hg, .slice dao dn dc, .slice fao fn fc] 27
  have HALL := hide (l3All_any _ D 0 1000 _ (hD.below A))
  obtain ⟨dao', dc', eD, hdl, hdm, hdc⟩ := hD
  obtain ⟨fao', fc', eF, hfl, hfm, hfc⟩ := hF
  simp only [Value.slice.injEq] at eD eF
  obtain ⟨rfl, rfl, rfl⟩ := eD
  obtain ⟨rfl, rfl, rfl⟩ := eF
  unfold maxLen at hdm hfm
  have HFC := hide hfc
  have HW := hide A
  have HO := hide O
  clear A O hdc hfc
  unfold vSea
  cases h1 : inB wd 1 12
  · have HN : Hid (seaB ⟨wd, hg, D, F⟩ = false) := by show _ = _; unfold seaB sea0B; dsimp only; rw [h1]; simp
    go_enter Try.func48, Try.ntmps48
    go_wp2_with (go_at_call 62; refine (l1In_any _ _ _ _).mono ?_; rintro e w' ⟨rfl, h9⟩; have h8 := h9.symm; subst h8; clear h9)
    go_ret
    exact ⟨by rw [unhide HN]; rfl, unhide HW⟩
  cases h2 : inB hg 1 12
  · have HN : Hid (seaB ⟨wd, hg, D, F⟩ = false) := by show _ = _; unfold seaB sea0B; dsimp only; rw [h2]; simp
    go_enter Try.func48, Try.ntmps48
    go_wp2_with (go_at_call 62; refine (l1In_any _ _ _ _).mono ?_; rintro e w' ⟨rfl, h9⟩; have h8 := h9.symm; subst h8; clear h9)
    go_ret
    exact ⟨by rw [unhide HN]; rfl, unhide HW⟩
  obtain ⟨hw0, hw1⟩ := inB_true h1
  obtain ⟨hh0, hh1⟩ := inB_true h2
  obtain ⟨p, ep⟩ : ∃ p, p = wd * hg := ⟨_, rfl⟩
  have hp : 1 ≤ p ∧ p ≤ 144 := by rw [ep]; exact mul_s12 hw0 hw1 hh0 hh1
  obtain ⟨hp0, hp1⟩ := hp
  have qp : IntKind.i64.wrap (wd * hg) = p := by rw [← ep, IntKind.wrap_i64]; omega
  have EP := hide ep
  clear ep
  by_cases h3 : (D.length : Int) = p
  case neg =>
    have HN : Hid (seaB ⟨wd, hg, D, F⟩ = false) := by show _ = _; unfold seaB sea0B; dsimp only; rw [← unhide EP, decide_eq_false h3]; simp
    have d3 : ((D.length : Int) != p) = true := by simp; exact h3
    have d3' : ((D.length : Int) == p) = false := by simp; exact h3
    go_enter Try.func48, Try.ntmps48
    go_wp2_with (go_at_call 62; refine (l1In_any _ _ _ _).mono ?_; rintro e w' ⟨rfl, h9⟩; have h8 := h9.symm; subst h8; clear h9)
    go_ret
    exact ⟨by rw [unhide HN]; rfl, unhide HW⟩
  have d3 : ((D.length : Int) != p) = false := by simp; exact h3
  have d3' : ((D.length : Int) == p) = true := by simp; exact h3
  by_cases h4 : F.length ≤ 10
  case neg =>
    have HN : Hid (seaB ⟨wd, hg, D, F⟩ = false) := by show _ = _; unfold seaB sea0B; dsimp only; rw [decide_eq_false h4]; simp
    have h4i : (10 : Int) < F.length := by omega
    go_enter Try.func48, Try.ntmps48
    go_wp2_with (go_at_call 62; refine (l1In_any _ _ _ _).mono ?_; rintro e w' ⟨rfl, h9⟩; have h8 := h9.symm; subst h8; clear h9)
    go_ret
    exact ⟨by rw [unhide HN]; rfl, unhide HW⟩
  have h4i : (F.length : Int) ≤ 10 := by omega
  cases h5 : (D.all fun x => inB x 0 1000)
  · have HN : Hid (seaB ⟨wd, hg, D, F⟩ = false) := by show _ = _; unfold seaB sea0B; dsimp only; rw [h5]; simp
    rw [h5] at HALL
    go_enter Try.func48, Try.ntmps48
    go_wp2_with (first | (go_at_call 62; refine (l1In_any _ _ _ _).mono ?_; rintro e w' ⟨rfl, h9⟩; have h8 := h9.symm; subst h8; clear h9) | (go_at_call 63; refine (unhide HALL).mono ?_; rintro e w' ⟨rfl, h9⟩; have h8 := h9.symm; subst h8; clear h9))
    go_ret
    exact ⟨by rw [unhide HN]; rfl, unhide HW⟩
  rw [h5] at HALL
  have HH : Hid (sea0B ⟨wd, hg, D, F⟩ = true) := by show _ = _; unfold sea0B; dsimp only; rw [h1, h2, h5, ← unhide EP, decide_eq_true h3, decide_eq_true h4]; rfl
  go_enter Try.func48, Try.ntmps48
  go_wp2_with (first | (go_at_call 62; refine (l1In_any _ _ _ _).mono ?_; rintro e w' ⟨rfl, h9⟩; have h8 := h9.symm; subst h8; clear h9) | (go_at_call 63; refine (unhide HALL).mono ?_; rintro e w' ⟨rfl, h9⟩; have h8 := h9.symm; subst h8; clear h9))
  clear h1 h2 h5 d3 d3' h3 qp HALL
  obtain ⟨W0, eW⟩ : ∃ z, z = w.alloc (.cells #[.int .i64 wd, .int .i64 hg, .slice dao D.length dc, .slice fao F.length fc] 27) := ⟨_, rfl⟩
  rw [← eW] at HW HO ⊢
  clear eW
  go_loopg [3] F.length (fun g i wr => Below W0.heap.size W0 wr ∧ ∃ k : Nat, k ≤ F.length ∧ g = F.length - k ∧ i = .int .i64 k ∧ Hid (∀ r, r < k → clB (F.getD r default) = true))
  case atStart => exact ⟨Below.refl _ _, 0, Nat.zero_le _, rfl, rfl, fun r hr => by omega⟩
  case round =>
    obtain ⟨hWq, k, hk, rfl, rfl, HFF⟩ := hrel
    have hO := OwnV.step (unhide HO) hWq
    have hA := Below.step (unhide HW) hWq
    have b3 := hO.cell (i := 3) rfl
    clear hO
    by_cases hkn : k < F.length
    · obtain ⟨b, o, x0, x1, x2, x3, x4, x5, rfl, hc0, hc1, hc2, hc3, hc4, hc5, EX⟩ := recClosedAt (unhide HFC) hkn
      have g0 := wcell3 hc0 hA
      have g1 := wcell3 hc1 hA
      have g2 := wcell3 hc2 hA
      have g3 := wcell3 hc3 hA
      have g4 := wcell3 hc4 hA
      have g5 := wcell3 hc5 hA
      have HWA := hide (Below.step hWq (Below.alloc1 wr (.cells #[.int .i64 x0, .int .i64 x1, .int .i64 x2, .int .i64 x3, .int .i64 x4, .int .i64 x5] 87)))
      have hkF : (k : Int) < F.length := by omega
      have HNO : Hid (clB (x0, x1, x2, x3, x4, x5) = false → seaB ⟨wd, hg, D, F⟩ = false) := fun h => by
        unfold seaB
        dsimp only
        rw [all_false (xs := F) (p := clB) (d := default) (i := k) hkn (by rw [unhide EX]; exact h)]
        simp
      have HYES : Hid (clB (x0, x1, x2, x3, x4, x5) = true → ∀ r, r < k + 1 → clB (F.getD r default) = true) := fun h r hr => by
        by_cases e : r = k
        · rw [e, unhide EX]; exact h
        · exact (unhide HFF) r (by omega)
      clear hc0 hc1 hc2 hc3 hc4 hc5 hWq hA EX HFF
      cases h1 : inB x0 0 x2
      · have HN := hide (unhide HNO (by unfold clB; dsimp only; rw [h1]; simp))
        clear HNO HYES
        go_wp2_with (go_at_call 62; refine (l1In_any _ _ _ _).mono ?_; rintro e w' ⟨rfl, h9⟩; have h8 := h9.symm; subst h8; clear h9)
        go_ret
        exact ⟨by rw [unhide HN]; rfl, Below.step (unhide HW) (unhide HWA)⟩
      cases h2 : inB x1 0 x3
      · have HN := hide (unhide HNO (by unfold clB; dsimp only; rw [h2]; simp))
        clear HNO HYES
        go_wp2_with (go_at_call 62; refine (l1In_any _ _ _ _).mono ?_; rintro e w' ⟨rfl, h9⟩; have h8 := h9.symm; subst h8; clear h9)
        go_ret
        exact ⟨by rw [unhide HN]; rfl, Below.step (unhide HW) (unhide HWA)⟩
      by_cases h3 : x2 < 12
      case neg =>
        have HN := hide (unhide HNO (by unfold clB; dsimp only; rw [decide_eq_false h3]; simp))
        clear HNO HYES
        go_wp2_with (go_at_call 62; refine (l1In_any _ _ _ _).mono ?_; rintro e w' ⟨rfl, h9⟩; have h8 := h9.symm; subst h8; clear h9)
        go_ret
        exact ⟨by rw [unhide HN]; rfl, Below.step (unhide HW) (unhide HWA)⟩
      by_cases h4 : x3 < 12
      case neg =>
        have HN := hide (unhide HNO (by unfold clB; dsimp only; rw [decide_eq_false h4]; simp))
        clear HNO HYES
        go_wp2_with (go_at_call 62; refine (l1In_any _ _ _ _).mono ?_; rintro e w' ⟨rfl, h9⟩; have h8 := h9.symm; subst h8; clear h9)
        go_ret
        exact ⟨by rw [unhide HN]; rfl, Below.step (unhide HW) (unhide HWA)⟩
      cases h5 : inB x4 0 x5
      · have HN := hide (unhide HNO (by unfold clB; dsimp only; rw [h5]; simp))
        clear HNO HYES
        go_wp2_with (go_at_call 62; refine (l1In_any _ _ _ _).mono ?_; rintro e w' ⟨rfl, h9⟩; have h8 := h9.symm; subst h8; clear h9)
        go_ret
        exact ⟨by rw [unhide HN]; rfl, Below.step (unhide HW) (unhide HWA)⟩
      by_cases h6 : x5 ≤ 1000000
      case neg =>
        have HN := hide (unhide HNO (by unfold clB; dsimp only; rw [decide_eq_false h6]; simp))
        clear HNO HYES
        go_wp2_with (go_at_call 62; refine (l1In_any _ _ _ _).mono ?_; rintro e w' ⟨rfl, h9⟩; have h8 := h9.symm; subst h8; clear h9)
        go_ret
        exact ⟨by rw [unhide HN]; rfl, Below.step (unhide HW) (unhide HWA)⟩
      have HFF := hide (unhide HYES (by unfold clB; dsimp only; rw [h1, h2, h5, decide_eq_true h3, decide_eq_true h4, decide_eq_true h6]; rfl))
      clear HNO HYES
      go_wp2_with (go_at_call 62; refine (l1In_any _ _ _ _).mono ?_; rintro e w' ⟨rfl, h9⟩; have h8 := h9.symm; subst h8; clear h9)
      go_roundg (F.length - (k + 1))
      case measure => omega
      case rel => exact ⟨unhide HWA, k + 1, by omega, rfl, by go_num, HFF⟩
    · have HAF : Hid (seaB ⟨wd, hg, D, F⟩ = true) := by
        show _ = _
        unfold seaB
        dsimp only
        rw [unhide HH, all_true (xs := F) (d := default) (p := clB) (fun r hr => unhide HFF r (by omega))]
        rfl
      have hkF : ¬ (k : Int) < F.length := by omega
      have HA := hide hA
      clear HFF hA hWq
      go_wp2
      go_ret
      exact ⟨by rw [unhide HAF]; rfl, unhide HA⟩

end Go.Proofs.Ytdpcacfgbjllhaa

/- Places and neighbours in numbers; contracts of the specification's l7Place, l7Next, l7Shut. -/
namespace Go.Proofs.Ytdpcacfgbjllhaa
open Go.RowKit

def onB (s : Se) (p : Int) : Bool := inB p 0 ((s.D.length : Int) - 1)
def nextB (wd a b : Int) : Bool := decide ((a % wd - b % wd) * (a % wd - b % wd) + (a / wd - b / wd) * (a / wd - b / wd) = 1)
def shut1 (x y step : Int) (c : ClosedT) : Bool := inB x c.1 c.2.2.1 && inB y c.2.1 c.2.2.2.1 && inB step c.2.2.2.2.1 c.2.2.2.2.2
def shutB (s : Se) (p step : Int) : Bool := s.F.any (shut1 (p % s.wd) (p / s.wd) step)

set_option maxHeartbeats 800000 in
theorem l7Place_any (s : Se) (p : Int) (dv fv : Value) (w : World) (hn : SeaN s) :
    Calls Try.prog 49 #[vSea s.wd s.hg dv fv, .int .i64 p] w fun e w' => e = .returned (.bool (onB s p)) ∧ Below w.heap.size w w' := by
  have HB := hide (Below.alloc1 w (.cells #[.int .i64 s.wd, .int .i64 s.hg, dv, fv] 27))
  have q1 : IntKind.i64.wrap (s.wd * s.hg) = s.D.length := by have := hn.le; rw [← hn.len, IntKind.wrap_i64]; omega
  have q2 : IntKind.i64.wrap ((s.D.length : Int) - 1) = (s.D.length : Int) - 1 := by have := hn.le; rw [IntKind.wrap_i64]; omega
  unfold vSea onB
  clear hn
  go_enter Try.func49, Try.ntmps49
  go_wp2_with (go_at_call 62; refine (l1In_any _ _ _ _).mono ?_; rintro e w' ⟨rfl, h9⟩; have h8 := h9.symm; subst h8; clear h9)
  go_ret
  exact ⟨rfl, unhide HB⟩

theorem mod_bd {a wd : Int} (ha : 0 ≤ a) (hw : 1 ≤ wd) : 0 ≤ a % wd ∧ a % wd < wd ∧ 0 ≤ a / wd ∧ a / wd ≤ a := by
  have h1 := Int.emod_nonneg a (show wd ≠ 0 by omega)
  have h2 := Int.emod_lt_of_pos a (show 0 < wd by omega)
  have h3 := Int.ediv_nonneg ha (show 0 ≤ wd by omega)
  have h4 := Int.ediv_le_self wd ha
  exact ⟨h1, h2, h3, h4⟩
theorem sq_bd {x : Int} {b : Nat} (h0 : -(b : Int) ≤ x) (h1 : x ≤ b) : 0 ≤ x * x ∧ x * x ≤ (b : Int) * b := by
  constructor
  · rcases Int.le_total 0 x with h | h
    · exact Int.mul_nonneg h h
    · exact Int.mul_nonneg_of_nonpos_of_nonpos h h
  · rcases Int.le_total 0 x with h | h
    · exact Int.mul_le_mul h1 h1 h (by omega)
    · have := Int.mul_le_mul (show -x ≤ b by omega) (show -x ≤ b by omega) (by omega) (by omega)
      rwa [Int.neg_mul_neg] at this

set_option maxHeartbeats 1600000 in
theorem l7Next_any (s : Se) (a b : Int) (dv fv : Value) (w : World) (hn : SeaN s) (ha0 : 0 ≤ a) (ha1 : a < s.D.length) (hb0 : 0 ≤ b) (hb1 : b < s.D.length) :
    Calls Try.prog 50 #[vSea s.wd s.hg dv fv, .int .i64 a, .int .i64 b] w fun e w' => e = .returned (.bool (nextB s.wd a b)) ∧ Below w.heap.size w w' := by
  have HB := hide (Below.alloc1 w (.cells #[.int .i64 s.wd, .int .i64 s.hg, dv, fv] 27))
  have hle := hn.le
  have hw0 := hn.w0
  have hw1 := hn.w1
  obtain ⟨a1, a2, a3, a4⟩ := mod_bd ha0 hw0
  obtain ⟨b1, b2, b3, b4⟩ := mod_bd hb0 hw0
  have c1 := sq_bd (x := a % s.wd - b % s.wd) (b := 12) (by omega) (by omega)
  have c2 := sq_bd (x := a / s.wd - b / s.wd) (b := 144) (by omega) (by omega)
  unfold vSea nextB
  generalize s.wd = wd at *
  have t1 : Int.tmod a wd = a % wd := Int.tmod_eq_emod_of_nonneg ha0
  have t2 : Int.tmod b wd = b % wd := Int.tmod_eq_emod_of_nonneg hb0
  have t3 : Int.tdiv a wd = a / wd := Int.tdiv_eq_ediv_of_nonneg ha0
  have t4 : Int.tdiv b wd = b / wd := Int.tdiv_eq_ediv_of_nonneg hb0
  have hwz : (wd == 0) = false := by simp; omega
  have hwn : wd ≠ 0 := by omega
  generalize a % wd = am at *
  generalize b % wd = bm at *
  generalize a / wd = ad at *
  generalize b / wd = bd at *
  have u1 : IntKind.i64.wrap am = am := by rw [IntKind.wrap_i64]; omega
  have u2 : IntKind.i64.wrap bm = bm := by rw [IntKind.wrap_i64]; omega
  have u3 : IntKind.i64.wrap ad = ad := by rw [IntKind.wrap_i64]; omega
  have u4 : IntKind.i64.wrap bd = bd := by rw [IntKind.wrap_i64]; omega
  obtain ⟨dx, ex⟩ : ∃ d, am - bm = d := ⟨_, rfl⟩
  obtain ⟨dy, ey⟩ : ∃ d, ad - bd = d := ⟨_, rfl⟩
  have v1 : IntKind.i64.wrap (am - bm) = dx := by rw [IntKind.wrap_i64]; omega
  have v2 : IntKind.i64.wrap (ad - bd) = dy := by rw [IntKind.wrap_i64]; omega
  rw [ex] at c1 ⊢
  rw [ey] at c2 ⊢
  clear ex ey
  obtain ⟨dx2, ex2⟩ : ∃ d, dx * dx = d := ⟨_, rfl⟩
  obtain ⟨dy2, ey2⟩ : ∃ d, dy * dy = d := ⟨_, rfl⟩
  rw [ex2] at c1 ⊢
  rw [ey2] at c2 ⊢
  have w1 : IntKind.i64.wrap (dx * dx) = dx2 := by rw [ex2, IntKind.wrap_i64]; omega
  have w2 : IntKind.i64.wrap (dy * dy) = dy2 := by rw [ey2, IntKind.wrap_i64]; omega
  have w3 : IntKind.i64.wrap (dx2 + dy2) = dx2 + dy2 := by rw [IntKind.wrap_i64]; omega
  clear ex2 ey2 c1 c2
  clear hn hle
  go_enter Try.func50, Try.ntmps50
  go_wp2
  go_quiet (fail)
  go_wp2
  go_ret
  exact ⟨ret_bool (by rw [Bool.eq_iff_iff]; simp), below_drewN (unhide HB) nq⟩

theorem any_t {α : Type} {p : α → Bool} {xs : List α} {d : α} {i : Nat} (hi : i < xs.length) (h : p (xs.getD i d) = true) : xs.any p = true := by
  rw [List.any_eq_true]
  exact ⟨xs.getD i d, by rw [getD_lt hi]; exact List.getElem_mem _, h⟩
theorem any_f {α : Type} {p : α → Bool} {xs : List α} {d : α} (h : ∀ i, i < xs.length → p (xs.getD i d) = false) : xs.any p = false := by
  rw [List.any_eq_false]
  intro x hx
  obtain ⟨i, hi, rfl⟩ := List.mem_iff_getElem.1 hx
  have := h i hi
  rw [getD_lt hi] at this
  simp [this]

end Go.Proofs.Ytdpcacfgbjllhaa

/- Ways in numbers; contracts of the specification's WayCost and WayShut. Written by wip/mkway.py. -/
namespace Go.Proofs.Ytdpcacfgbjllhaa
open Go.RowKit

def costAt (s : Se) (p : Int) : Int := s.D.getD p.toNat 0
def stepB (s : Se) (M : List Int) (k : Nat) : Bool := onB s (M.getD k 0) && !decide (costAt s (M.getD k 0) = 0) && (decide (k = 0) || nextB s.wd (M.getD (k - 1) 0) (M.getD k 0))
def wsum (s : Se) (M : List Int) : Nat → Int
  | 0 => 0
  | k + 1 => wsum s M k + if k = 0 then 0 else costAt s (M.getD k 0)
def way0B (s : Se) (M : List Int) : Bool := seaB s && inB M.length 1 200
def wayB (s : Se) (M : List Int) : Bool := way0B s M && (List.range M.length).all (stepB s M)
def wayCost (s : Se) (M : List Int) : Int × Bool := if wayB s M = true then (wsum s M M.length, true) else (0, false)
theorem cost_bd {s : Se} (hn : SeaN s) (p : Int) : 0 ≤ costAt s p ∧ costAt s p ≤ 1000 := by
  unfold costAt
  by_cases h : p.toNat < s.D.length
  · exact hn.cost _ h
  · rw [List.getD_eq_getElem?_getD, List.getElem?_eq_none (by omega)]; simp
theorem wsum_bd {s : Se} (hn : SeaN s) (M : List Int) : ∀ k, 0 ≤ wsum s M k ∧ wsum s M k ≤ 1000 * (k : Int)
  | 0 => by simp [wsum]
  | k + 1 => by
    have h := wsum_bd hn M k
    have c := cost_bd hn (M.getD k 0)
    show 0 ≤ wsum s M k + (if k = 0 then 0 else costAt s (M.getD k 0)) ∧ wsum s M k + (if k = 0 then 0 else costAt s (M.getD k 0)) ≤ 1000 * ((k + 1 : Nat) : Int)
    split <;> omega
theorem step_on {s : Se} {M : List Int} {k : Nat} (h : stepB s M k = true) : ∃ p : Nat, M.getD k 0 = (p : Int) ∧ p < s.D.length := by
  unfold stepB onB at h
  simp only [Bool.and_eq_true] at h
  obtain ⟨a, b⟩ := inB_true h.1.1
  exact ⟨(M.getD k 0).toNat, by omega, by omega⟩
theorem wayCost_no {s : Se} {M : List Int} (h : wayB s M = false) : wayCost s M = (0, false) := by unfold wayCost; rw [h]; rfl
theorem wayCost_yes {s : Se} {M : List Int} (h : wayB s M = true) : wayCost s M = (wsum s M M.length, true) := by unfold wayCost; rw [if_pos h]
theorem wayB_step {s : Se} {M : List Int} {k : Nat} (hk : k < M.length) (h : stepB s M k = false) : wayB s M = false := by
  unfold wayB
  rw [all_false (xs := List.range M.length) (d := 0) (i := k) (by simpa using hk) (by simpa [List.getD, hk] using h), Bool.and_false]
theorem wayB_all {s : Se} {M : List Int} (h0 : way0B s M = true) (h : ∀ r, r < M.length → stepB s M r = true) : wayB s M = true := by
  unfold wayB
  rw [h0, all_true (xs := List.range M.length) (d := 0) (fun r hr => by
    have hr' : r < M.length := by simpa using hr
    simpa [List.getD, hr'] using h r hr')]
  rfl

def shutAt (s : Se) (M : List Int) (k : Nat) : Bool := shutB s (M.getD k 0) (k : Int)
def shutOf (s : Se) (M : List Int) : Int × Bool := match (List.range M.length).find? (shutAt s M) with
  | some k => ((k : Int), true)
  | none => (-1, false)
def wayShut (s : Se) (M : List Int) : Int × Bool := if wayB s M = true then shutOf s M else (-1, false)
theorem shutOf_yes {s : Se} {M : List Int} {k : Nat} (hk : k < M.length) (h : ∀ r, r < k → shutAt s M r = false) (h' : shutAt s M k = true) : shutOf s M = ((k : Int), true) := by
  have e : (List.range M.length).find? (shutAt s M) = some k := by
    rw [List.find?_range_eq_some]
    exact ⟨h', by simpa using hk, fun j hj => by rw [h j hj]; rfl⟩
  unfold shutOf
  rw [e]
theorem shutOf_no {s : Se} {M : List Int} (h : ∀ r, r < M.length → shutAt s M r = false) : shutOf s M = (-1, false) := by
  have e : (List.range M.length).find? (shutAt s M) = none := by
    rw [List.find?_range_eq_none]
    exact fun j hj => by rw [h j hj]; rfl
  unfold shutOf
  rw [e]
theorem wayShut_yes {s : Se} {M : List Int} (h : wayB s M = true) : wayShut s M = shutOf s M := by unfold wayShut; rw [if_pos h]
theorem wayB_n {s : Se} {M : List Int} (h : wayB s M = true) : SeaN s ∧ M.length ≤ 200 ∧ ∀ r, r < M.length → stepB s M r = true := by
  unfold wayB way0B at h
  simp only [Bool.and_eq_true, List.all_eq_true, List.mem_range] at h
  have := inB_true h.1.2
  exact ⟨seaB_n h.1.1, by omega, h.2⟩

end Go.Proofs.Ytdpcacfgbjllhaa

/- Proofs of costs in numbers; contract of the specification's Proves. Written by wip/mkprov.py. -/
namespace Go.Proofs.Ytdpcacfgbjllhaa
open Go.RowKit

def bearB (s : Se) (M : List Int) (p q : Nat) : Bool := decide (s.D.getD q 0 = 0) || (!nextB s.wd (p : Int) (q : Int) || (decide (0 ≤ M.getD q 0) && decide (M.getD q 0 - s.D.getD q 0 ≤ M.getD p 0)))
def comeB (s : Se) (M : List Int) (p q : Nat) : Bool := !decide (s.D.getD q 0 = 0) && (nextB s.wd (p : Int) (q : Int) && decide (M.getD q 0 = M.getD p 0 - s.D.getD p 0))
def reachB (s : Se) (x : Int) (M : List Int) (p k : Nat) : Bool := decide ((p : Int) = x) || (List.range k).any (comeB s M p)
def placeP (s : Se) (x : Int) (M : List Int) (p : Nat) : Bool := decide (-1 ≤ M.getD p 0) && ((!decide (s.D.getD p 0 = 0) || decide (M.getD p 0 = -1)) && (decide (M.getD p 0 < 0) || ((List.range s.D.length).all (bearB s M p) && reachB s x M p s.D.length)))
def prov0B (s : Se) (x : Int) (M : List Int) : Bool := seaB s && (onB s x && (!decide (costAt s x = 0) && (decide (M.length = s.D.length) && decide (M.getD x.toNat 0 = 0))))
def provesB (s : Se) (x : Int) (M : List Int) : Bool := prov0B s x M && (List.range s.D.length).all (placeP s x M)
theorem reachB_succ (s : Se) (x : Int) (M : List Int) (p k : Nat) : reachB s x M p (k + 1) = (reachB s x M p k || comeB s M p k) := by
  unfold reachB
  rw [List.range_succ, List.any_append]
  simp [Bool.or_assoc]
theorem provesB_place {s : Se} {x : Int} {M : List Int} {k : Nat} (hk : k < s.D.length) (h : placeP s x M k = false) : provesB s x M = false := by
  unfold provesB
  rw [all_false (xs := List.range s.D.length) (d := 0) (i := k) (by simpa using hk) (by simpa [List.getD, hk] using h), Bool.and_false]
theorem provesB_all {s : Se} {x : Int} {M : List Int} (h0 : prov0B s x M = true) (h : ∀ r, r < s.D.length → placeP s x M r = true) : provesB s x M = true := by
  unfold provesB
  rw [h0, all_true (xs := List.range s.D.length) (d := 0) (fun r hr => by
    have hr' : r < s.D.length := by simpa using hr
    simpa [List.getD, hr'] using h r hr')]
  rfl
theorem placeP_bear {s : Se} {x : Int} {M : List Int} {p q : Nat} (hq : q < s.D.length) (h0 : ¬ M.getD p 0 < 0) (h : bearB s M p q = false) : placeP s x M p = false := by
  unfold placeP
  rw [all_false (xs := List.range s.D.length) (d := 0) (i := q) (by simpa using hq) (by simpa [List.getD, hq] using h), decide_eq_false h0]
  simp
theorem placeP_yes {s : Se} {x : Int} {M : List Int} {p : Nat} (h0 : 0 ≤ M.getD p 0) (hd : s.D.getD p 0 ≠ 0) (hb : ∀ r, r < s.D.length → bearB s M p r = true) (hr : reachB s x M p s.D.length = true) : placeP s x M p = true := by
  unfold placeP
  rw [hr, all_true (xs := List.range s.D.length) (d := 0) (fun r hr => by
    have hr' : r < s.D.length := by simpa using hr
    simpa [List.getD, hr'] using hb r hr'), decide_eq_true (show -1 ≤ M.getD p 0 by omega), decide_eq_false hd]
  simp
theorem placeP_no {s : Se} {x : Int} {M : List Int} {p : Nat} (h0 : ¬ M.getD p 0 < 0) (hr : reachB s x M p s.D.length = false) : placeP s x M p = false := by
  unfold placeP
  rw [hr, decide_eq_false h0]
  simp
theorem placeP_none {s : Se} {x : Int} {M : List Int} {p : Nat} (h : M.getD p 0 = -1) : placeP s x M p = true := by
  unfold placeP
  rw [h]
  simp
theorem placeP_low {s : Se} {x : Int} {M : List Int} {p : Nat} (h : M.getD p 0 < -1) : placeP s x M p = false := by
  unfold placeP
  rw [decide_eq_false (show ¬ -1 ≤ M.getD p 0 by omega)]
  rfl
theorem placeP_land {s : Se} {x : Int} {M : List Int} {p : Nat} (hd : s.D.getD p 0 = 0) (h : M.getD p 0 ≠ -1) : placeP s x M p = false := by
  unfold placeP
  rw [decide_eq_true hd, decide_eq_false h]
  simp
theorem prov0_n {s : Se} {x : Int} {M : List Int} (h : prov0B s x M = true) : SeaN s ∧ (∃ xi : Nat, x = (xi : Int) ∧ xi < s.D.length ∧ M.getD xi 0 = 0) ∧ M.length = s.D.length := by
  unfold prov0B at h
  simp only [Bool.and_eq_true, decide_eq_true_eq] at h
  obtain ⟨h1, h2, -, h4, h5⟩ := h
  unfold onB at h2
  obtain ⟨a, b⟩ := inB_true h2
  exact ⟨seaB_n h1, ⟨x.toNat, by omega, by omega, h5⟩, h4⟩

end Go.Proofs.Ytdpcacfgbjllhaa

/- Costs that are proved are one list alone; rounds of costs that only fall end in costs that are proved. Mathematics; no statement about the program stands here. -/
namespace Go.Proofs.Ytdpcacfgbjllhaa
open Go.RowKit

theorem next_comm (wd a b : Int) : nextB wd a b = nextB wd b a := by
  unfold nextB
  rw [show (a % wd - b % wd) * (a % wd - b % wd) = (b % wd - a % wd) * (b % wd - a % wd) by rw [← Int.neg_mul_neg]; congr 1 <;> omega, show (a / wd - b / wd) * (a / wd - b / wd) = (b / wd - a / wd) * (b / wd - a / wd) by rw [← Int.neg_mul_neg]; congr 1 <;> omega]
theorem next_self (wd a : Int) : nextB wd a a = false := by unfold nextB; simp
/-- What provesB says of each place. -/
structure Prov (s : Se) (x : Nat) (M : List Int) : Prop where
  n : SeaN s
  len : M.length = s.D.length
  at0 : M.getD x 0 = 0
  low : ∀ p, p < s.D.length → -1 ≤ M.getD p 0
  land : ∀ p, p < s.D.length → s.D.getD p 0 = 0 → M.getD p 0 = -1
  bear : ∀ p q, p < s.D.length → q < s.D.length → 0 ≤ M.getD p 0 → s.D.getD q 0 ≠ 0 → nextB s.wd (p : Int) (q : Int) = true → 0 ≤ M.getD q 0 ∧ M.getD q 0 - s.D.getD q 0 ≤ M.getD p 0
  came : ∀ p, p < s.D.length → 0 ≤ M.getD p 0 → p = x ∨ ∃ q, q < s.D.length ∧ s.D.getD q 0 ≠ 0 ∧ nextB s.wd (p : Int) (q : Int) = true ∧ M.getD q 0 = M.getD p 0 - s.D.getD p 0
theorem proves_prov {s : Se} {x : Nat} {M : List Int} (h : provesB s (x : Int) M = true) : Prov s x M := by
  unfold provesB at h
  rw [Bool.and_eq_true, List.all_eq_true] at h
  obtain ⟨hn, ⟨xi, ex, hx, h0⟩, hl⟩ := prov0_n h.1
  have hP : ∀ p, p < s.D.length → placeP s (x : Int) M p = true := fun p hp => h.2 p (by rw [List.mem_range]; exact hp)
  have hx' : x = xi := by omega
  subst hx'
  refine ⟨hn, hl, h0, fun p hp => ?_, fun p hp hd => ?_, fun p q hp hq hm hd hx => ?_, fun p hp hm => ?_⟩
  all_goals
    have := hP p hp
    unfold placeP at this
    simp only [Bool.and_eq_true, Bool.or_eq_true, Bool.not_eq_true', decide_eq_true_eq, decide_eq_false_iff_not] at this
    obtain ⟨h1, h2, h3⟩ := this
  · exact h1
  · rcases h2 with h2 | h2
    · exact absurd hd h2
    · exact h2
  · rcases h3 with h3 | ⟨h3, -⟩
    · omega
    have := List.all_eq_true.1 h3 q (by rw [List.mem_range]; exact hq)
    unfold bearB at this
    rw [hx] at this
    simp only [Bool.and_eq_true, Bool.or_eq_true, Bool.not_true, decide_eq_true_eq] at this
    rcases this with h5 | h5 | h5
    · exact absurd h5 hd
    · exact absurd h5 (by simp)
    · exact h5
  · rcases h3 with h3 | ⟨-, h3⟩
    · omega
    unfold reachB at h3
    rw [Bool.or_eq_true, decide_eq_true_eq, List.any_eq_true] at h3
    rcases h3 with h3 | ⟨q, hq, hc⟩
    · left; omega
    · right
      rw [List.mem_range] at hq
      unfold comeB at hc
      simp only [Bool.and_eq_true, Bool.not_eq_true', decide_eq_true_eq, decide_eq_false_iff_not] at hc
      exact ⟨q, hq, hc.1, hc.2.1, hc.2.2⟩
theorem Prov.le {s : Se} {x : Nat} {M N : List Int} (h : Prov s x M) (h' : Prov s x N) : ∀ (k p : Nat), p < s.D.length → 0 ≤ M.getD p 0 → M.getD p 0 ≤ (k : Int) → 0 ≤ N.getD p 0 ∧ N.getD p 0 ≤ M.getD p 0 := by
  intro k
  induction k with
  | zero =>
    intro p hp h0 hk
    rcases h.came p hp h0 with rfl | ⟨q, hq, hd, hx, he⟩
    · rw [h'.at0, h.at0]; omega
    · have hdp := (h.n.cost p hp).1
      have hpz : s.D.getD p 0 ≠ 0 := fun e => by have := h.land p hp e; omega
      have := h.low q hq
      have hbq := h.bear p q hp hq h0 hd hx
      omega
  | succ k ih =>
    intro p hp h0 hk
    rcases h.came p hp h0 with rfl | ⟨q, hq, hd, hx, he⟩
    · rw [h'.at0, h.at0]; omega
    · have hdp := (h.n.cost p hp).1
      have hpz : s.D.getD p 0 ≠ 0 := fun e => by have := h.land p hp e; omega
      have hbq := (h.bear p q hp hq h0 hd hx).1
      have h1 := ih q hq hbq (by omega)
      have h2 := h'.bear q p hq hp h1.1 hpz (by rw [next_comm]; exact hx)
      omega
theorem prov_one {s : Se} {x : Nat} {M N : List Int} (h : Prov s x M) (h' : Prov s x N) : M = N := by
  apply List.ext_getElem?
  intro p
  by_cases hp : p < s.D.length
  · have e : M.getD p 0 = N.getD p 0 := by
      by_cases h0 : 0 ≤ M.getD p 0
      · have h1 := h.le h' (M.getD p 0).toNat p hp h0 (by omega)
        have h2 := h'.le h (N.getD p 0).toNat p hp h1.1 (by omega)
        omega
      · by_cases h1 : 0 ≤ N.getD p 0
        · have := (h'.le h (N.getD p 0).toNat p hp h1 (by omega)).1
          omega
        · have := h.low p hp
          have := h'.low p hp
          omega
    have hM : p < M.length := by rw [h.len]; exact hp
    have hN : p < N.length := by rw [h'.len]; exact hp
    rw [getD_lt hM, getD_lt hN] at e
    rw [List.getElem?_eq_getElem hM, List.getElem?_eq_getElem hN, e]
  · rw [List.getElem?_eq_none (by rw [h.len]; omega), List.getElem?_eq_none (by rw [h'.len]; omega)]

/-- How many places are reached. -/
def cnt (M : List Int) : Nat := M.countP (fun m => decide (0 ≤ m))
/-- What can still fall. -/
def mu (M : List Int) : Nat := (M.map (fun m => if m < 0 then 144001 else m.toNat)).sum
theorem countP_set {f : Int → Bool} {M : List Int} {p : Nat} (hp : p < M.length) (v : Int) : (M.set p v).countP f + (if f (M.getD p 0) = true then 1 else 0) = M.countP f + (if f v = true then 1 else 0) := by
  induction M generalizing p with
  | nil => simp at hp
  | cons a t ih =>
    cases p with
    | zero => simp [List.countP_cons, List.getD]; omega
    | succ p =>
      have := ih (p := p) (by simpa using hp)
      simp only [List.set_cons_succ, List.countP_cons]
      have e : (a :: t).getD (p + 1) 0 = t.getD p 0 := by simp [List.getD]
      rw [e]
      omega
theorem sum_set {f : Int → Nat} {M : List Int} {p : Nat} (hp : p < M.length) (v : Int) : ((M.set p v).map f).sum + f (M.getD p 0) = (M.map f).sum + f v := by
  induction M generalizing p with
  | nil => simp at hp
  | cons a t ih =>
    cases p with
    | zero => simp [List.getD]; omega
    | succ p =>
      have := ih (p := p) (by simpa using hp)
      simp only [List.set_cons_succ, List.map_cons, List.sum_cons]
      have e : (a :: t).getD (p + 1) 0 = t.getD p 0 := by simp [List.getD]
      rw [e]
      omega
theorem getD_set {M : List Int} {p r : Nat} (hp : p < M.length) (v : Int) : (M.set p v).getD r 0 = if r = p then v else M.getD r 0 := by
  rw [List.getD_eq_getElem?_getD, List.getElem?_set]
  by_cases e : p = r
  · rw [if_pos e, if_pos hp, if_pos e.symm]; rfl
  · rw [if_neg e, if_neg (fun h => e h.symm), List.getD_eq_getElem?_getD]

/-- The costs along the rounds. -/
structure BF (s : Se) (x : Nat) (M : List Int) : Prop where
  len : M.length = s.D.length
  at0 : M.getD x 0 = 0
  low : ∀ p, p < s.D.length → -1 ≤ M.getD p 0
  land : ∀ p, p < s.D.length → s.D.getD p 0 = 0 → M.getD p 0 = -1
  came : ∀ p, p < s.D.length → 0 ≤ M.getD p 0 → p = x ∨ ∃ q, q < s.D.length ∧ 0 ≤ M.getD q 0 ∧ nextB s.wd (p : Int) (q : Int) = true ∧ M.getD q 0 + s.D.getD p 0 ≤ M.getD p 0
  high : ∀ p, p < s.D.length → M.getD p 0 + 1000 ≤ 1000 * (cnt M : Int)
theorem BF.cnt_le {s : Se} {x : Nat} {M : List Int} (h : BF s x M) : cnt M ≤ s.D.length := by rw [← h.len]; exact List.countP_le_length
theorem BF.put {s : Se} {x : Nat} {M : List Int} (hn : SeaN s) (h : BF s x M) {p q : Nat} (hp : p < s.D.length) (hq : q < s.D.length) (hq0 : 0 ≤ M.getD q 0) (hd : 0 < s.D.getD p 0) (hx : nextB s.wd (p : Int) (q : Int) = true) (hlt : M.getD p 0 < 0 ∨ M.getD q 0 + s.D.getD p 0 < M.getD p 0) :
    BF s x (M.set p (M.getD q 0 + s.D.getD p 0)) ∧ mu (M.set p (M.getD q 0 + s.D.getD p 0)) < mu M := by
  have hpM : p < M.length := by rw [h.len]; exact hp
  have hpx : p ≠ x := fun e => by subst e; rw [h.at0] at hlt; omega
  have hqp : q ≠ p := fun e => by rw [e, next_self] at hx; cases hx
  have hc := countP_set (f := fun m => decide (0 ≤ m)) hpM (M.getD q 0 + s.D.getD p 0)
  have hs := sum_set (f := fun m => if m < 0 then 144001 else m.toNat) hpM (M.getD q 0 + s.D.getD p 0)
  have hcm := (hn.cost p hp).2
  have hh := h.high q hq
  have hle := h.cnt_le
  have hn144 := hn.le
  rw [if_pos (show decide (0 ≤ M.getD q 0 + s.D.getD p 0) = true by rw [decide_eq_true_eq]; omega)] at hc
  have hcnt : cnt M ≤ cnt (M.set p (M.getD q 0 + s.D.getD p 0)) ∧ (M.getD p 0 < 0 → cnt (M.set p (M.getD q 0 + s.D.getD p 0)) = cnt M + 1) := by
    unfold cnt
    by_cases e : M.getD p 0 < 0
    · rw [if_neg (show ¬ decide (0 ≤ M.getD p 0) = true by rw [decide_eq_true_eq]; omega)] at hc; omega
    · rw [if_pos (show decide (0 ≤ M.getD p 0) = true by rw [decide_eq_true_eq]; omega)] at hc; omega
  have hcs : cnt (M.set p (M.getD q 0 + s.D.getD p 0)) ≤ s.D.length := by
    have : (M.set p (M.getD q 0 + s.D.getD p 0)).length = s.D.length := by rw [List.length_set, h.len]
    rw [← this]
    exact List.countP_le_length
  have hv : M.getD q 0 + s.D.getD p 0 + 1000 ≤ 1000 * (cnt (M.set p (M.getD q 0 + s.D.getD p 0)) : Int) := by
    rcases hlt with e | e
    · rw [hcnt.2 e]; omega
    · have := h.high p hp; omega
  constructor
  · refine ⟨by rw [List.length_set]; exact h.len, by rw [getD_set hpM, if_neg (fun e => hpx e.symm)]; exact h.at0, fun r hr => ?_, fun r hr hz => ?_, fun r hr h0 => ?_, fun r hr => ?_⟩
    · rw [getD_set hpM]
      split
      · omega
      · exact h.low r hr
    · rw [getD_set hpM, if_neg (fun e => by rw [e] at hz; omega)]
      exact h.land r hr hz
    · by_cases e : r = p
      · right
        refine ⟨q, hq, ?_, by rw [e]; exact hx, ?_⟩
        · rw [getD_set hpM, if_neg hqp]; exact hq0
        · rw [getD_set hpM, if_neg hqp, getD_set hpM, if_pos e, e]; omega
      · rw [getD_set hpM, if_neg e] at h0
        rcases h.came r hr h0 with h1 | ⟨q', hq', h1, h2, h3⟩
        · left; exact h1
        · right
          refine ⟨q', hq', ?_, h2, ?_⟩
          · rw [getD_set hpM]
            split
            · omega
            · exact h1
          · rw [getD_set hpM, getD_set hpM, if_neg e]
            split
            · next e' => subst e'; omega
            · exact h3
    · rw [getD_set hpM]
      split
      · exact hv
      · have := h.high r hr; omega
  · unfold mu
    by_cases e : M.getD p 0 < 0
    · rw [if_pos e, if_neg (by omega)] at hs; omega
    · rw [if_neg e, if_neg (by omega)] at hs; omega
/-- Nothing falls at p by way of q. -/
def Rest (s : Se) (M : List Int) (p q : Nat) : Prop := 0 < s.D.getD p 0 → 0 ≤ M.getD q 0 → nextB s.wd (p : Int) (q : Int) = true → 0 ≤ M.getD p 0 ∧ M.getD p 0 ≤ M.getD q 0 + s.D.getD p 0
theorem BF.proved {s : Se} {x : Nat} {M : List Int} (hn : SeaN s) (hs : seaB s = true) (hx : x < s.D.length) (hxd : s.D.getD x 0 ≠ 0) (h : BF s x M) (hr : ∀ p q, p < s.D.length → q < s.D.length → Rest s M p q) : provesB s (x : Int) M = true := by
  refine provesB_all ?_ (fun p hp => ?_)
  · unfold prov0B onB costAt
    rw [hs, inB_mk (by omega) (by omega)]
    simp only [Int.toNat_natCast]
    rw [decide_eq_false hxd, decide_eq_true h.len, decide_eq_true h.at0]
    rfl
  · by_cases h0 : 0 ≤ M.getD p 0
    case neg => exact placeP_none (by have := h.low p hp; omega)
    have hd : s.D.getD p 0 ≠ 0 := fun e => by have := h.land p hp e; omega
    have hdp := (hn.cost p hp).1
    refine placeP_yes h0 hd (fun q hq => ?_) ?_
    · unfold bearB
      by_cases hz : s.D.getD q 0 = 0
      · rw [decide_eq_true hz]; rfl
      cases hxn : nextB s.wd (p : Int) (q : Int) with
      | false => simp
      | true =>
        have hdq := (hn.cost q hq).1
        have := hr q p hq hp (by omega) h0 (by rw [next_comm]; exact hxn)
        rw [decide_eq_true this.1, decide_eq_true (show M.getD q 0 - s.D.getD q 0 ≤ M.getD p 0 by omega)]
        simp
    · unfold reachB
      rcases h.came p hp h0 with h1 | ⟨q, hq, h1, h2, h3⟩
      · rw [decide_eq_true (by omega)]; rfl
      rw [Bool.or_eq_true]
      right
      rw [List.any_eq_true]
      refine ⟨q, by rw [List.mem_range]; exact hq, ?_⟩
      have h4 := hr p q hp hq (by omega) h1 h2
      have hqz : s.D.getD q 0 ≠ 0 := fun e => by have := h.land q hq e; omega
      unfold comeB
      rw [h2, decide_eq_false hqz, decide_eq_true (show M.getD q 0 = M.getD p 0 - s.D.getD p 0 by omega)]
      rfl
theorem bf_start {s : Se} {x : Nat} (hx : x < s.D.length) (hxd : s.D.getD x 0 ≠ 0) : BF s x ((List.replicate s.D.length (-1)).set x 0) := by
  have hl : x < (List.replicate s.D.length (-1 : Int)).length := by simpa using hx
  have hg : ∀ r, r < s.D.length → (List.replicate s.D.length (-1 : Int)).getD r 0 = -1 := fun r hr => by simp [List.getD, hr]
  have hc : cnt ((List.replicate s.D.length (-1 : Int)).set x 0) = 1 := by
    have h := countP_set (f := fun m => decide (0 ≤ m)) hl 0
    rw [hg x hx] at h
    have h0 : (List.replicate s.D.length (-1 : Int)).countP (fun m => decide (0 ≤ m)) = 0 := by
      rw [List.countP_eq_zero]
      intro a ha
      rw [List.eq_of_mem_replicate ha]
      simp
    rw [h0] at h
    unfold cnt
    simp at h
    omega
  refine ⟨by simp, by rw [getD_set hl, if_pos rfl], fun p hp => ?_, fun p hp hz => ?_, fun p hp h0 => ?_, fun p hp => ?_⟩
  · rw [getD_set hl]; split
    · omega
    · rw [hg p hp]; omega
  · rw [getD_set hl, if_neg (fun e => hxd (by rw [← e]; exact hz)), hg p hp]
  · rw [getD_set hl] at h0
    split at h0
    · next e => left; exact e
    · rw [hg p hp] at h0; omega
  · rw [hc, getD_set hl]; split
    · omega
    · rw [hg p hp]; omega

end Go.Proofs.Ytdpcacfgbjllhaa

/- Lists whose elements take one cell each, of the call's own, between two marks of memory. No statement about the program stands here. -/
namespace Go.Proofs.Ytdpcacfgbjllhaa
open Go.RowKit

section
variable {α : Type} {E : α → Value}

/-- The slice value v holds the elements L in w. -/
def CIn [Inhabited α] (E : α → Value) (w : World) (v : Value) (L : List α) : Prop :=
  ∃ ao cap, v = .slice ao L.length cap ∧ L.length ≤ cap ∧ cap ≤ maxLen ∧ ∀ i, i < L.length → ∃ b o, ao = some ⟨b, o, none⟩ ∧ w.cell? ⟨b, o + i, none⟩ = some (E (L.getD i default))

theorem CIn.below [Inhabited α] {w w' : World} {v : Value} {L : List α} (h : CIn E w v L) (hb : Below w.heap.size w w') : CIn E w' v L := by
  obtain ⟨ao, cap, e, h1, h2, h3⟩ := h
  refine ⟨ao, cap, e, h1, h2, fun i hi => ?_⟩
  obtain ⟨b, o, e1, hc⟩ := h3 i hi
  exact ⟨b, o, e1, (hb.cell (lt_of_cell hc)).trans hc⟩

theorem map_get [Inhabited α] (L : List α) {i : Nat} (h : i < L.length) : (L.map E)[i]? = some (E (L.getD i default)) := by
  simp [List.getD, List.getElem?_eq_getElem h]
theorem OwnV.cIn [Inhabited α] {w : World} {g cap : Nat} {L : List α} (h : OwnV w g (L.map E)) (hl : L.length ≤ cap) (hm : cap ≤ maxLen) : CIn E w (.slice (some ⟨g, 0, none⟩) L.length cap) L :=
  ⟨_, cap, rfl, hl, hm, fun i hi => ⟨g, 0, rfl, by rw [Nat.zero_add]; exact h.cell (map_get L hi)⟩⟩

/-- Of the call's own: the block, where there is an element, from B on (and below U). -/
def OwnC (E : α → Value) (B : Nat) (w : World) (v : Value) (L : List α) : Prop :=
  ∃ ao cap, v = .slice ao L.length cap ∧ L.length ≤ cap ∧ cap ≤ maxLen ∧ (L ≠ [] → ∃ g, ao = some ⟨g, 0, none⟩ ∧ B ≤ g ∧ OwnV w g (L.map E))
def OwnCU (E : α → Value) (B U : Nat) (w : World) (v : Value) (L : List α) : Prop :=
  ∃ ao cap, v = .slice ao L.length cap ∧ L.length ≤ cap ∧ cap ≤ maxLen ∧ (L ≠ [] → ∃ g, ao = some ⟨g, 0, none⟩ ∧ B ≤ g ∧ g < U ∧ OwnV w g (L.map E))

theorem OwnC.mono {B B' : Nat} {w : World} {v : Value} {L : List α} (h : OwnC E B w v L) (hB : B' ≤ B) : OwnC E B' w v L := by
  obtain ⟨ao, cap, rfl, h1, h2, h3⟩ := h
  refine ⟨ao, cap, rfl, h1, h2, fun hne => ?_⟩
  obtain ⟨g, rfl, hg, ho⟩ := h3 hne
  exact ⟨g, rfl, by omega, ho⟩

theorem OwnC.upto {B : Nat} {w : World} {v : Value} {L : List α} (h : OwnC E B w v L) : OwnCU E B w.heap.size w v L := by
  obtain ⟨ao, cap, rfl, h1, h2, h3⟩ := h
  refine ⟨ao, cap, rfl, h1, h2, fun hne => ?_⟩
  obtain ⟨g, rfl, hg, ho⟩ := h3 hne
  exact ⟨g, rfl, hg, ho.lt, ho⟩

theorem OwnCU.inn [Inhabited α] {B U : Nat} {w : World} {v : Value} {L : List α} (h : OwnCU E B U w v L) : CIn E w v L := by
  obtain ⟨ao, cap, rfl, h1, h2, h3⟩ := h
  refine ⟨ao, cap, rfl, h1, h2, fun i hi => ?_⟩
  obtain ⟨g, rfl, _, _, ho⟩ := h3 (fun e => by rw [e] at hi; simp at hi)
  exact ⟨g, 0, rfl, by rw [Nat.zero_add]; exact ho.cell (map_get L hi)⟩

theorem OwnC.intsIn [Inhabited α] {B : Nat} {w : World} {v : Value} {L : List α} (h : OwnC E B w v L) : CIn E w v L := h.upto.inn

theorem OwnCU.below {B U : Nat} {w w' : World} {v : Value} {L : List α} (h : OwnCU E B U w v L) (hb : Below w.heap.size w w') : OwnCU E B U w' v L := by
  obtain ⟨ao, cap, rfl, h1, h2, h3⟩ := h
  refine ⟨ao, cap, rfl, h1, h2, fun hne => ?_⟩
  obtain ⟨g, rfl, hg, hu, ho⟩ := h3 hne
  exact ⟨g, rfl, hg, hu, ho.below hb ho.lt⟩

theorem OwnCU.kept {T : Nat → Prop} {B U : Nat} {w w' : World} {v : Value} {L : List α} (h : OwnCU E B U w v L) (hk : Kept T w w') (hT : ∀ b, B ≤ b → b < U → ¬ T b) : OwnCU E B U w' v L := by
  obtain ⟨ao, cap, rfl, h1, h2, h3⟩ := h
  refine ⟨ao, cap, rfl, h1, h2, fun hne => ?_⟩
  obtain ⟨g, rfl, hg, hu, ho⟩ := h3 hne
  exact ⟨g, rfl, hg, hu, ho.kept hk (hT g hg hu)⟩

/-- A row that was appended to. -/
theorem ownsRow_ownC {w : World} {base : Nat} {e : TypeId} {v : Value} {n : Nat} {L : List α} (h : w.ownsRow base e 1 v n (L.map E)) (hn : L.length = n) : OwnC E base w v L := by
  obtain ⟨h1, h2⟩ := h
  rcases h2 with ⟨rfl, h0⟩ | ⟨g, cap, cur, rfl, hg, hh, hc, hm, hs, ht⟩
  · have : L = [] := List.length_eq_zero_iff.1 (by omega)
    subst this
    exact ⟨none, 0, rfl, Nat.le_refl _, Nat.zero_le _, fun h => absurd rfl h⟩
  · subst hn
    refine ⟨_, cap, rfl, hc, hm, fun _ => ⟨g, rfl, hg, cur, e, hh, fun i hi => ?_⟩⟩
    rw [List.length_map] at hi
    rw [← ht]
    simp [hi]

/-- What is left of L behind j marks. -/
def midL [Inhabited α] (f : Nat → α) (L : List α) (j : Nat) : List α := (List.range L.length).map fun i => if i < j then f i else L.getD i default
def marksL (f : Nat → α) (n : Nat) : List α := (List.range n).map f
theorem marksL_len (f : Nat → α) (n : Nat) : (marksL f n).length = n := by simp [marksL]
theorem marksL_get [Inhabited α] (f : Nat → α) {n i : Nat} (h : i < n) : (marksL f n).getD i default = f i := by simp [marksL, List.getD, h]
theorem midL_len [Inhabited α] (f : Nat → α) (L : List α) (j : Nat) : (midL f L j).length = L.length := by simp [midL]
theorem midL_zero [Inhabited α] (f : Nat → α) (L : List α) : midL f L 0 = L := by
  apply List.ext_getElem
  · simp [midL]
  · intro i h1 h2
    simp [midL, List.getD, h2]
theorem midL_done [Inhabited α] (f : Nat → α) (L : List α) : midL f L L.length = marksL f L.length := by
  apply List.ext_getElem
  · simp [midL, marksL]
  · intro i h1 h2
    have : i < L.length := by simpa [midL] using h1
    simp [midL, marksL, this]
theorem midL_step [Inhabited α] (f : Nat → α) (L : List α) (j : Nat) : (midL f L j).set j (f j) = midL f L (j + 1) := by
  apply List.ext_getElem
  · simp [midL]
  · intro i h1 h2
    rw [List.getElem_set]
    by_cases e : j = i
    · subst e; simp [midL]
    · rw [if_neg e]
      have : (i < j) ↔ (i < j + 1) := by omega
      simp [midL, this]
end

end Go.Proofs.Ytdpcacfgbjllhaa

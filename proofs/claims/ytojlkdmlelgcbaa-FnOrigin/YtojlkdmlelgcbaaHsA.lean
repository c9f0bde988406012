/- Houses: words; contracts of the laws' own szHouse, toHouse, eqHouse, markHouse, heldHouse. -/
import Derived.Test.YtojlkdmlelgcbaaRLot
import Derived.Test.YtojlkdmlelgcbaaRTrader
import Derived.Test.YtojlkdmlelgcbaaOwR
namespace Go.Proofs.Ytojlkdmlelgcbaa
open Go.RowKit

def vHouse (lv tv : Value) (tk : Int) : Value := .agg #[lv, tv, .int .i64 tk]

/-- Three boxes of the call's own. -/
structure S3 (w W : World) (a b c : List Value) : Prop where
  o1 : OwnV W w.heap.size a
  o2 : OwnV W (w.heap.size + 1) b
  o3 : OwnV W (w.heap.size + 1 + 1) c
  below : Below w.heap.size w W
theorem S3.step {w W W' : World} {a b c : List Value} (h : S3 w W a b c) (hb : Below W.heap.size W W') : S3 w W' a b c := ⟨h.o1.step hb, h.o2.step hb, h.o3.step hb, Below.step h.below hb⟩
theorem S3.put3 {w W : World} {a b c : List Value} (h : S3 w W a b c) (i : Nat) (u : Value) (hi : i < c.length) : S3 w (W.setCell ⟨w.heap.size + 1 + 1, i, none⟩ u) a b (c.set i u) :=
  ⟨h.o1.other (a := ⟨w.heap.size + 1 + 1, i, none⟩) (by show w.heap.size ≠ w.heap.size + 1 + 1; omega) u, h.o2.other (a := ⟨w.heap.size + 1 + 1, i, none⟩) (by show w.heap.size + 1 ≠ w.heap.size + 1 + 1; omega) u, h.o3.set i u hi, h.below.setCell (p := ⟨w.heap.size + 1 + 1, i, none⟩) (by show w.heap.size ≤ w.heap.size + 1 + 1; omega) u⟩
theorem S3.put2 {w W : World} {a b c : List Value} (h : S3 w W a b c) (i : Nat) (u : Value) (hi : i < b.length) : S3 w (W.setCell ⟨w.heap.size + 1, i, none⟩ u) a (b.set i u) c :=
  ⟨h.o1.other (a := ⟨w.heap.size + 1, i, none⟩) (by show w.heap.size ≠ w.heap.size + 1; omega) u, h.o2.set i u hi, h.o3.other (a := ⟨w.heap.size + 1, i, none⟩) (by show w.heap.size + 1 + 1 ≠ w.heap.size + 1; omega) u, h.below.setCell (p := ⟨w.heap.size + 1, i, none⟩) (by show w.heap.size ≤ w.heap.size + 1; omega) u⟩
theorem s3_new (w : World) (a b c : Array Value) (t1 t2 t3 : TypeId) : S3 w (((w.alloc (.cells a t1)).alloc (.cells b t2)).alloc (.cells c t3)) a.toList b.toList c.toList := by
  have h2 := ownV_alloc (w.alloc (.cells a t1)) b t2
  have h3 := ownV_alloc ((w.alloc (.cells a t1)).alloc (.cells b t2)) c t3
  simp only [World.size_alloc] at h2 h3
  exact ⟨((ownV_alloc w a t1).alloc _).alloc _, h2.alloc _, h3, Below.step (Below.step (Below.alloc1 _ _) (Below.alloc1 _ _)) (Below.alloc1 _ _)⟩
theorem farS {W : World} {g g' : Nat} {vs : List Value} (h : OwnV W g vs) (hne : g ≠ g') (i : Nat) (u : Value) : OwnV (W.setCell ⟨g', i, none⟩ u) g vs := h.other (a := ⟨g', i, none⟩) hne u

set_option maxRecDepth 10000 in
set_option maxHeartbeats 1600000 in
theorem toHouse_any (tk : Int) (dao : Option Addr) (dn dc : Nat) (fao : Option Addr) (fn fc : Nat) (D : List LotT) (F : List TraderT) (w : World) (hD : RLot w (.slice dao dn dc) D) (hF : RTrader w (.slice fao fn fc) F) (hsD : D.length ≤ 1048576) (hsF : F.length ≤ 1048576) :
    Calls Try.prog 21 #[vHouse (.slice dao dn dc) (.slice fao fn fc) tk] w fun e w' => ∃ g1 g2, e = .returned (vHouse (.slice (some ⟨g1, 0, none⟩) D.length D.length) (.slice (some ⟨g2, 0, none⟩) F.length F.length) tk) ∧ w.heap.size ≤ g1 ∧ g1 < g2 ∧ OwnV w' g1 (recCells 7 eLot D) ∧ OwnV w' g2 (recCells 3 eTrader F) ∧ Below w.heap.size w w' := by
  have HD := hide hD
  have HF := hide hF
  have HH := hide (s3_new w #[.slice dao dn dc, .slice fao fn fc, .int .i64 tk] #[.slice none 0 0, .slice none 0 0, .int .i64 0] #[.slice none 0 0, .slice none 0 0, .int .i64 0] 55 27 27)
  clear hD hF
  unfold vHouse
  go_enter Try.func21, Try.ntmps21
  go_wp2_with fail
  refine (toLotS_any _ D _ ((unhide HD).below (unhide HH).below) hsD).mono ?_
  rintro e w1 ⟨g1, rfl, hg1, hO1, hb⟩
  obtain ⟨W0, e0⟩ : ∃ z, z = ((w.alloc (.cells #[.slice dao dn dc, .slice fao fn fc, .int .i64 tk] 55)).alloc (.cells #[.slice none 0 0, .slice none 0 0, .int .i64 0] 27)).alloc (.cells #[.slice none 0 0, .slice none 0 0, .int .i64 0] 27) := ⟨_, rfl⟩
  rw [← e0] at HH hb hg1 
  clear e0
  have hg1 : w.heap.size + 1 + 1 < g1 := by have := (unhide HH).o3.lt; omega
  replace HH := hide ((unhide HH).step hb)
  have hlt1 := hO1.lt
  clear hb
  have HO1 := hide hO1
  clear hO1
  have a1 := (unhide HH).o1.cell (i := 1) rfl
  have c0 := (unhide HH).o3.cell (i := 0) rfl
  have cf := (unhide HH).o3.frozen
  have hn1 : ¬ w.heap.size = w.heap.size + 1 + 1 := by omega
  have hn2 : ¬ w.heap.size + 1 + 1 = w.heap.size := by omega
  go_wp2_with fail
  replace HH := hide ((unhide HH).put3 0 (.slice (some ⟨g1, 0, none⟩) D.length D.length) (by simp))
  replace HO1 := hide ((unhide HO1).other (a := ⟨w.heap.size + 1 + 1, 0, none⟩) (by show g1 ≠ w.heap.size + 1 + 1; omega) (.slice (some ⟨g1, 0, none⟩) D.length D.length))
  refine (toTraderS_any _ F _ ((unhide HF).below (unhide HH).below) hsF).mono ?_
  rintro e w2 ⟨g2, rfl, hg2, hO2, hb⟩
  replace HH := hide ((unhide HH).step hb)
  have hg12 : g1 < g2 := by have := (unhide HO1).lt; omega
  replace HO1 := hide (OwnV.step (unhide HO1) hb)
  have HO2 := hide hO2
  clear hb hO2 a1 c0 cf hg2 hlt1 HD HF
  have a2 := (unhide HH).o1.cell (i := 2) rfl
  have c0 := (unhide HH).o3.cell (i := 0) rfl
  have c1 := (unhide HH).o3.cell (i := 1) rfl
  have c2 := (unhide HH).o3.cell (i := 2) rfl
  have cf := (unhide HH).o3.frozen
  have HH1 := hide (((unhide HH).put3 1 (.slice (some ⟨g2, 0, none⟩) F.length F.length) (by simp)).put3 2 (.int .i64 tk) (by simp))
  have e0 := (unhide HH1).o3.cell (i := 0) rfl
  have e1 := (unhide HH1).o3.cell (i := 1) rfl
  have e2 := (unhide HH1).o3.cell (i := 2) rfl
  have d0 := (unhide HH1).o2.cell (i := 0) rfl
  have d1 := (unhide HH1).o2.cell (i := 1) rfl
  have d2 := (unhide HH1).o2.cell (i := 2) rfl
  have df := (unhide HH1).o2.frozen
  have HH2 := hide ((((unhide HH1).put2 0 (.slice (some ⟨g1, 0, none⟩) D.length D.length) (by simp)).put2 1 (.slice (some ⟨g2, 0, none⟩) F.length F.length) (by simp)).put2 2 (.int .i64 tk) (by simp))
  have hq1 : g1 ≠ w.heap.size + 1 + 1 := by omega
  have hq2 : g2 ≠ w.heap.size + 1 + 1 := by omega
  have hq3 : g1 ≠ w.heap.size + 1 := by omega
  have hq4 : g2 ≠ w.heap.size + 1 := by omega
  have HO1' := hide (farS (farS (farS (farS (farS (unhide HO1) hq1 1 (.slice (some ⟨g2, 0, none⟩) F.length F.length)) hq1 2 (.int .i64 tk)) hq3 0 (.slice (some ⟨g1, 0, none⟩) D.length D.length)) hq3 1 (.slice (some ⟨g2, 0, none⟩) F.length F.length)) hq3 2 (.int .i64 tk))
  have HO2' := hide (farS (farS (farS (farS (farS (unhide HO2) hq2 1 (.slice (some ⟨g2, 0, none⟩) F.length F.length)) hq2 2 (.int .i64 tk)) hq4 0 (.slice (some ⟨g1, 0, none⟩) D.length D.length)) hq4 1 (.slice (some ⟨g2, 0, none⟩) F.length F.length)) hq4 2 (.int .i64 tk))
  go_wp2
  have k0 := (unhide HH2).o2.cell (i := 0) rfl
  have k1 := (unhide HH2).o2.cell (i := 1) rfl
  have k2 := (unhide HH2).o2.cell (i := 2) rfl
  refine bodyPost_ret (v := vHouse (.slice (some ⟨g1, 0, none⟩) D.length D.length) (.slice (some ⟨g2, 0, none⟩) F.length F.length) tk) (by simp [results, Try.results21, go_sem, vHouse, k0, k1, k2]) rfl ⟨g1, g2, rfl, by omega, hg12, unhide HO1', unhide HO2', (unhide HH2).below⟩

set_option maxHeartbeats 1600000 in
theorem eqHouse_any (tk : Int) (dao : Option Addr) (dn dc : Nat) (fao : Option Addr) (fn fc : Nat) (dao' : Option Addr) (dn' dc' : Nat) (fao' : Option Addr) (fn' fc' : Nat) (D : List LotT) (F : List TraderT) (w : World)
    (hD : RLot w (.slice dao dn dc) D) (hF : RTrader w (.slice fao fn fc) F) (hD' : RLot w (.slice dao' dn' dc') D) (hF' : RTrader w (.slice fao' fn' fc') F) :
    Calls Try.prog 22 #[vHouse (.slice dao dn dc) (.slice fao fn fc) tk, vHouse (.slice dao' dn' dc') (.slice fao' fn' fc') tk] w fun e w' => e = .returned (.bool true) ∧ Below w.heap.size w w' := by
  have A := Below.step (Below.alloc1 w (.cells #[.slice dao dn dc, .slice fao fn fc, .int .i64 tk] 27)) (Below.alloc1 _ (.cells #[.slice dao' dn' dc', .slice fao' fn' fc', .int .i64 tk] 27))
  have O1 := (ownV_alloc w #[.slice dao dn dc, .slice fao fn fc, .int .i64 tk] 27).alloc (.cells #[.slice dao' dn' dc', .slice fao' fn' fc', .int .i64 tk] 27)
  have O2 := ownV_alloc (w.alloc (.cells #[.slice dao dn dc, .slice fao fn fc, .int .i64 tk] 27)) #[.slice dao' dn' dc', .slice fao' fn' fc', .int .i64 tk] 27
  simp only [World.size_alloc] at O2
  have HD := hide (hD.below A)
  have HF := hide (hF.below A)
  have HD' := hide (hD'.below A)
  have HF' := hide (hF'.below A)
  have HW := hide A
  have HO1 := hide O1
  have HO2 := hide O2
  clear A O1 O2 hD hF hD' hF'
  unfold vHouse
  go_enter Try.func22, Try.ntmps22
  go_wp2_with fail
  refine (eqLotS_any _ _ D _ (unhide HD) (unhide HD')).mono ?_
  rintro e w1 ⟨rfl, hb⟩
  replace HW := hide (Below.step (unhide HW) hb)
  replace HF := hide ((unhide HF).below hb)
  replace HF' := hide ((unhide HF').below hb)
  have c0 := OwnV.cell (OwnV.step (unhide HO1) hb) (i := 1) rfl
  have c2 := OwnV.cell (OwnV.step (unhide HO2) hb) (i := 1) rfl
  replace HO1 := hide (OwnV.step (unhide HO1) hb)
  replace HO2 := hide (OwnV.step (unhide HO2) hb)
  clear hb HD HD'
  go_wp2_with fail
  refine (eqTraderS_any _ _ F _ (unhide HF) (unhide HF')).mono ?_
  rintro e w2 ⟨rfl, hb⟩
  replace HW := hide (Below.step (unhide HW) hb)
  clear c0 c2
  have c0 := OwnV.cell (OwnV.step (unhide HO1) hb) (i := 2) rfl
  have c2 := OwnV.cell (OwnV.step (unhide HO2) hb) (i := 2) rfl
  clear hb HF HF' HO1 HO2
  have hRR : (tk != tk) = false := by simp
  go_wp2
  go_ret
  exact ⟨rfl, unhide HW⟩

set_option maxHeartbeats 1600000 in
theorem szHouse_any (tk : Int) (dao : Option Addr) (dn dc : Nat) (fao : Option Addr) (fn fc : Nat) (D : List LotT) (F : List TraderT) (left : Int) (w : World)
    (hD : RLot w (.slice dao dn dc) D) (hF : RTrader w (.slice fao fn fc) F) (h0 : 0 ≤ left) (h1 : left ≤ 1048576) :
    Calls Try.prog 19 #[vHouse (.slice dao dn dc) (.slice fao fn fc) tk, .int .i64 left] w fun e w' => ∃ r, e = .returned (.int .i64 r) ∧ -1 ≤ r ∧ r ≤ 1048576 ∧ (0 ≤ r → D.length ≤ 1048576 ∧ F.length ≤ 1048576) ∧ Below w.heap.size w w' := by
  have A := Below.alloc1 w (.cells #[.slice dao dn dc, .slice fao fn fc, .int .i64 tk] 55)
  have HO := hide (ownV_alloc w #[.slice dao dn dc, .slice fao fn fc, .int .i64 tk] 55)
  have HD := hide (hD.below A)
  have HF := hide (hF.below A)
  have HW := hide A
  clear A hD hF
  unfold vHouse
  go_enter Try.func19, Try.ntmps19
  go_wp2_with fail
  refine (szLotS_any _ D left _ (unhide HD) h0 h1).mono ?_
  rintro e w1 ⟨r1, rfl, ⟨q1, q2, q3⟩, hb⟩
  replace HW := hide (Below.step (unhide HW) hb)
  replace HF := hide ((unhide HF).below hb)
  have c1 := OwnV.cell (OwnV.step (unhide HO) hb) (i := 1) rfl
  clear hb HD HO
  by_cases hr : r1 < 0
  · go_wp2
    go_ret
    exact ⟨_, rfl, by omega, by omega, fun h => by omega, unhide HW⟩
  · have HQ := hide q3
    clear q3
    go_wp2_with fail
    refine (szTraderS_any _ F r1 _ (unhide HF) (by omega) (by omega)).mono ?_
    rintro e w2 ⟨r2, rfl, ⟨p1, p2, p3⟩, hb⟩
    replace HW := hide (Below.step (unhide HW) hb)
    have HP := hide p3
    clear hb p3 c1
    by_cases hr2 : r2 < 0
    · go_wp2
      go_ret
      exact ⟨_, rfl, by omega, by omega, fun h => by omega, unhide HW⟩
    · go_wp2
      go_ret
      exact ⟨_, rfl, by omega, by omega, fun h => ⟨unhide HQ (by omega), unhide HP (by omega)⟩, unhide HW⟩

end Go.Proofs.Ytojlkdmlelgcbaa

/- Parties: words; contracts of the laws' own szParty, toParty, eqParty, markParty, heldParty. Written by wip/mkpta.py. -/
import Derived.Test.YtjpogaidcmndoaaBlS
import Derived.Test.YtjpogaidcmndoaaOwR
namespace Go.Proofs.Ytjpogaidcmndoaa
open Go.RowKit

def vParty (sv : Value) (tk : Int) (gv : Value) : Value := .agg #[sv, .int .i64 tk, gv]

/-- Three boxes of the call's own. -/
structure S3 (w W : World) (a b c : List Value) : Prop where
  o1 : OwnV W w.heap.size a
  o2 : OwnV W (w.heap.size + 1) b
  o3 : OwnV W (w.heap.size + 1 + 1) c
  below : Below w.heap.size w W
theorem S3.step {w W W' : World} {a b c : List Value} (h : S3 w W a b c) (hb : Below W.heap.size W W') : S3 w W' a b c := ⟨h.o1.step hb, h.o2.step hb, h.o3.step hb, Below.step h.below hb⟩
theorem S3.put3 {w W : World} {a b c : List Value} (h : S3 w W a b c) (i : Nat) (u : Value) (hi : i < c.length) : S3 w (W.setCell ⟨w.heap.size + 1 + 1, i, none⟩ u) a b (c.set i u) :=
  ⟨h.o1.other (a := ⟨w.heap.size + 1 + 1, i, none⟩) (by show w.heap.size ≠ w.heap.size + 1 + 1; omega) u, h.o2.other (a := ⟨w.heap.size + 1 + 1, i, none⟩) (by show w.heap.size + 1 ≠ w.heap.size + 1 + 1; omega) u, h.o3.set i u hi, h.below.setCell (p := ⟨w.heap.size + 1 + 1, i, none⟩) (by show w.heap.size ≤ w.heap.size + 1 + 1; omega) u⟩
theorem S3.put2 {w W : World} {a b c : List Value} (h : S3 w W a b c) (i : Nat) (u : Value) (hi : i < b.length) : S3 w (W.setCell ⟨w.heap.size + 1, i, none⟩ u) a (b.set i u) c :=
  ⟨h.o1.other (a := ⟨w.heap.size + 1, i, none⟩) (by show w.heap.size ≠ w.heap.size + 1; omega) u, h.o2.set i u hi, h.o3.other (a := ⟨w.heap.size + 1, i, none⟩) (by show w.heap.size + 1 + 1 ≠ w.heap.size + 1; omega) u, h.below.setCell (p := ⟨w.heap.size + 1, i, none⟩) (by show w.heap.size ≤ w.heap.size + 1; omega) u⟩
theorem s3_new (w : World) (a b c : Array Value) (t1 t2 t3 : TypeId) : S3 w (((w.alloc (.cells a t1)).alloc (.cells b t2)).alloc (.cells c t3)) a.toList b.toList c.toList := by
  have h2 := ownV_alloc (w.alloc (.cells a t1)) b t2
  have h3 := ownV_alloc ((w.alloc (.cells a t1)).alloc (.cells b t2)) c t3
  simp only [World.size_alloc] at h2 h3
  exact ⟨((ownV_alloc w a t1).alloc _).alloc _, h2.alloc _, h3, Below.step (Below.step (Below.alloc1 _ _) (Below.alloc1 _ _)) (Below.alloc1 _ _)⟩
theorem farS {W : World} {g g' : Nat} {vs : List Value} (h : OwnV W g vs) (hne : g ≠ g') (i : Nat) (u : Value) : OwnV (W.setCell ⟨g', i, none⟩ u) g vs := h.other (a := ⟨g', i, none⟩) hne u

set_option maxRecDepth 10000 in
set_option maxHeartbeats 1600000 in
theorem toParty_any (tk : Int) (dao : Option Addr) (dn dc : Nat) (fao : Option Addr) (fn fc : Nat) (D F : List ByteArray) (w : World) (hD : SIn w (.slice dao dn dc) D) (hF : SIn w (.slice fao fn fc) F) (hsD : D.length ≤ 1048576) (hsF : F.length ≤ 1048576) :
    Calls Try.prog 24 #[vParty (.slice dao dn dc) tk (.slice fao fn fc)] w fun e w' => ∃ g1 g2, e = .returned (vParty (.slice (some ⟨g1, 0, none⟩) D.length D.length) tk (.slice (some ⟨g2, 0, none⟩) F.length F.length)) ∧ w.heap.size ≤ g1 ∧ g1 < g2 ∧ OwnV w' g1 (strs D) ∧ OwnV w' g2 (strs F) ∧ Below w.heap.size w w' := by
  have HD := hide hD
  have HF := hide hF
  have HH := hide (s3_new w #[.slice dao dn dc, .int .i64 tk, .slice fao fn fc] #[.slice none 0 0, .int .i64 0, .slice none 0 0] #[.slice none 0 0, .int .i64 0, .slice none 0 0] 44 47 47)
  clear hD hF
  unfold vParty
  go_enter Try.func24, Try.ntmps24
  go_wp2_with fail
  refine (toStringS_o _ D _ ((unhide HD).below (unhide HH).below) hsD).mono ?_
  rintro e w1 ⟨g1, rfl, hg1, hO1, hb⟩
  obtain ⟨W0, e0⟩ : ∃ z, z = ((w.alloc (.cells #[.slice dao dn dc, .int .i64 tk, .slice fao fn fc] 44)).alloc (.cells #[.slice none 0 0, .int .i64 0, .slice none 0 0] 47)).alloc (.cells #[.slice none 0 0, .int .i64 0, .slice none 0 0] 47) := ⟨_, rfl⟩
  rw [← e0] at HH hb hg1
  clear e0
  have hg1 : w.heap.size + 1 + 1 < g1 := by have := (unhide HH).o3.lt; omega
  replace HH := hide ((unhide HH).step hb)
  have hlt1 := hO1.lt
  clear hb
  have HO1 := hide hO1
  clear hO1
  have a1 := (unhide HH).o1.cell (i := 1) rfl
  have a2 := (unhide HH).o1.cell (i := 2) rfl
  have c0 := (unhide HH).o3.cell (i := 0) rfl
  have c1 := (unhide HH).o3.cell (i := 1) rfl
  have cf := (unhide HH).o3.frozen
  have hn1 : ¬ w.heap.size = w.heap.size + 1 + 1 := by omega
  have hn2 : ¬ w.heap.size + 1 + 1 = w.heap.size := by omega
  go_wp2_with fail
  replace HH := hide (((unhide HH).put3 0 (.slice (some ⟨g1, 0, none⟩) D.length D.length) (by simp)).put3 1 (.int .i64 tk) (by simp))
  replace HO1 := hide (((unhide HO1).other (a := ⟨w.heap.size + 1 + 1, 0, none⟩) (by show g1 ≠ w.heap.size + 1 + 1; omega) (.slice (some ⟨g1, 0, none⟩) D.length D.length)).other (a := ⟨w.heap.size + 1 + 1, 1, none⟩) (by show g1 ≠ w.heap.size + 1 + 1; omega) (.int .i64 tk))
  refine (toStringS_o _ F _ ((unhide HF).below (unhide HH).below) hsF).mono ?_
  rintro e w2 ⟨g2, rfl, hg2, hO2, hb⟩
  replace HH := hide ((unhide HH).step hb)
  have hg12 : g1 < g2 := by have := (unhide HO1).lt; omega
  replace HO1 := hide (OwnV.step (unhide HO1) hb)
  have HO2 := hide hO2
  clear hb hO2 a1 a2 c0 c1 cf hg2 hlt1 HD HF
  have c0 := (unhide HH).o3.cell (i := 0) rfl
  have c1 := (unhide HH).o3.cell (i := 1) rfl
  have c2 := (unhide HH).o3.cell (i := 2) rfl
  have cf := (unhide HH).o3.frozen
  have HH1 := hide ((unhide HH).put3 2 (.slice (some ⟨g2, 0, none⟩) F.length F.length) (by simp))
  have e0 := (unhide HH1).o3.cell (i := 0) rfl
  have e1 := (unhide HH1).o3.cell (i := 1) rfl
  have e2 := (unhide HH1).o3.cell (i := 2) rfl
  have d0 := (unhide HH1).o2.cell (i := 0) rfl
  have d1 := (unhide HH1).o2.cell (i := 1) rfl
  have d2 := (unhide HH1).o2.cell (i := 2) rfl
  have df := (unhide HH1).o2.frozen
  have HH2 := hide ((((unhide HH1).put2 0 (.slice (some ⟨g1, 0, none⟩) D.length D.length) (by simp)).put2 1 (.int .i64 tk) (by simp)).put2 2 (.slice (some ⟨g2, 0, none⟩) F.length F.length) (by simp))
  have hq1 : g1 ≠ w.heap.size + 1 + 1 := by omega
  have hq2 : g2 ≠ w.heap.size + 1 + 1 := by omega
  have hq3 : g1 ≠ w.heap.size + 1 := by omega
  have hq4 : g2 ≠ w.heap.size + 1 := by omega
  have HO1' := hide (farS (farS (farS (farS (unhide HO1) hq1 2 (.slice (some ⟨g2, 0, none⟩) F.length F.length)) hq3 0 (.slice (some ⟨g1, 0, none⟩) D.length D.length)) hq3 1 (.int .i64 tk)) hq3 2 (.slice (some ⟨g2, 0, none⟩) F.length F.length))
  have HO2' := hide (farS (farS (farS (farS (unhide HO2) hq2 2 (.slice (some ⟨g2, 0, none⟩) F.length F.length)) hq4 0 (.slice (some ⟨g1, 0, none⟩) D.length D.length)) hq4 1 (.int .i64 tk)) hq4 2 (.slice (some ⟨g2, 0, none⟩) F.length F.length))
  go_wp2
  have k0 := (unhide HH2).o2.cell (i := 0) rfl
  have k1 := (unhide HH2).o2.cell (i := 1) rfl
  have k2 := (unhide HH2).o2.cell (i := 2) rfl
  refine bodyPost_ret (v := vParty (.slice (some ⟨g1, 0, none⟩) D.length D.length) tk (.slice (some ⟨g2, 0, none⟩) F.length F.length)) (by simp [results, Try.results24, go_sem, vParty, k0, k1, k2]) rfl ⟨g1, g2, rfl, by omega, hg12, unhide HO1', unhide HO2', (unhide HH2).below⟩

set_option maxHeartbeats 1600000 in
theorem eqParty_any (tk : Int) (dao : Option Addr) (dn dc : Nat) (fao : Option Addr) (fn fc : Nat) (dao' : Option Addr) (dn' dc' : Nat) (fao' : Option Addr) (fn' fc' : Nat) (D : List ByteArray) (F : List ByteArray) (w : World)
    (hD : SIn w (.slice dao dn dc) D) (hF : SIn w (.slice fao fn fc) F) (hD' : SIn w (.slice dao' dn' dc') D) (hF' : SIn w (.slice fao' fn' fc') F) :
    Calls Try.prog 26 #[vParty (.slice dao dn dc) tk (.slice fao fn fc), vParty (.slice dao' dn' dc') tk (.slice fao' fn' fc')] w fun e w' => e = .returned (.bool true) ∧ Below w.heap.size w w' := by
  have A := Below.step (Below.alloc1 w (.cells #[.slice dao dn dc, .int .i64 tk, .slice fao fn fc] 47)) (Below.alloc1 _ (.cells #[.slice dao' dn' dc', .int .i64 tk, .slice fao' fn' fc'] 47))
  have O1 := (ownV_alloc w #[.slice dao dn dc, .int .i64 tk, .slice fao fn fc] 47).alloc (.cells #[.slice dao' dn' dc', .int .i64 tk, .slice fao' fn' fc'] 47)
  have O2 := ownV_alloc (w.alloc (.cells #[.slice dao dn dc, .int .i64 tk, .slice fao fn fc] 47)) #[.slice dao' dn' dc', .int .i64 tk, .slice fao' fn' fc'] 47
  simp only [World.size_alloc] at O2
  have HD := hide (hD.below A)
  have HF := hide (hF.below A)
  have HD' := hide (hD'.below A)
  have HF' := hide (hF'.below A)
  have HW := hide A
  have HO1 := hide O1
  have HO2 := hide O2
  clear A O1 O2 hD hF hD' hF'
  unfold vParty
  go_enter Try.func26, Try.ntmps26
  go_wp2_with fail
  refine (eqStringS_o _ _ D _ (unhide HD) (unhide HD')).mono ?_
  rintro e w1 ⟨rfl, hb⟩
  replace HW := hide (Below.step (unhide HW) hb)
  replace HF := hide ((unhide HF).below hb)
  replace HF' := hide ((unhide HF').below hb)
  have c0 := OwnV.cell (OwnV.step (unhide HO1) hb) (i := 1) rfl
  have c2 := OwnV.cell (OwnV.step (unhide HO2) hb) (i := 1) rfl
  have c1 := OwnV.cell (OwnV.step (unhide HO1) hb) (i := 2) rfl
  have c3 := OwnV.cell (OwnV.step (unhide HO2) hb) (i := 2) rfl
  have hRR : (tk != tk) = false := by simp
  replace HO1 := hide (OwnV.step (unhide HO1) hb)
  replace HO2 := hide (OwnV.step (unhide HO2) hb)
  clear hb HD HD'
  go_wp2_with fail
  refine (eqStringS_o _ _ F _ (unhide HF) (unhide HF')).mono ?_
  rintro e w2 ⟨rfl, hb⟩
  replace HW := hide (Below.step (unhide HW) hb)
  clear hb HF HF' HO1 HO2 c0 c1 c2 c3 hRR
  go_wp2
  go_ret
  exact ⟨rfl, unhide HW⟩

set_option maxHeartbeats 1600000 in
theorem szParty_any (tk : Int) (dao : Option Addr) (dn dc : Nat) (fao : Option Addr) (fn fc : Nat) (D : List ByteArray) (F : List ByteArray) (left : Int) (w : World)
    (hD : SIn w (.slice dao dn dc) D) (hF : SIn w (.slice fao fn fc) F) (hTD : ∀ i, i < D.length → (D.getD i default).size ≤ maxLen) (hTF : ∀ i, i < F.length → (F.getD i default).size ≤ maxLen) (h0 : 0 ≤ left) (h1 : left ≤ 1048576) :
    Calls Try.prog 22 #[vParty (.slice dao dn dc) tk (.slice fao fn fc), .int .i64 left] w fun e w' => ∃ r, e = .returned (.int .i64 r) ∧ -1 ≤ r ∧ r ≤ 1048576 ∧ (0 ≤ r → D.length ≤ 1048576 ∧ F.length ≤ 1048576) ∧ Below w.heap.size w w' := by
  have A := Below.alloc1 w (.cells #[.slice dao dn dc, .int .i64 tk, .slice fao fn fc] 44)
  have HO := hide (ownV_alloc w #[.slice dao dn dc, .int .i64 tk, .slice fao fn fc] 44)
  have HD := hide (hD.below A)
  have HF := hide (hF.below A)
  have HW := hide A
  clear A hD hF
  unfold vParty
  go_enter Try.func22, Try.ntmps22
  go_wp2_with fail
  refine (szStringS_any _ D left _ (unhide HD) hTD h0 h1).mono ?_
  rintro e w1 ⟨r1, rfl, ⟨q1, q2, q3⟩, hb⟩
  replace HW := hide (Below.step (unhide HW) hb)
  replace HF := hide ((unhide HF).below hb)
  have c1 := OwnV.cell (OwnV.step (unhide HO) hb) (i := 2) rfl
  clear hb HD HO
  by_cases hr : r1 < 0
  · go_wp2
    go_ret
    exact ⟨_, rfl, by omega, by omega, fun h => by omega, unhide HW⟩
  · have HQ := hide q3
    clear q3
    go_wp2_with fail
    refine (szStringS_any _ F r1 _ (unhide HF) hTF (by omega) (by omega)).mono ?_
    rintro e w2 ⟨r2, rfl, ⟨p1, p2, p3⟩, hb⟩
    replace HW := hide (Below.step (unhide HW) hb)
    have HP := hide p3
    clear hb p3 c1
    by_cases hr2 : r2 < 0
    · go_wp2
      go_ret
      exact ⟨_, rfl, by omega, by omega, fun h => by omega, unhide HW⟩
    · go_wp2
      go_ret
      exact ⟨_, rfl, by omega, by omega, fun h => ⟨unhide HQ (by omega), unhide HP (by omega)⟩, unhide HW⟩

/-- A list of texts whose block, where it wants one, is g, among A. -/
def TxP (A : Nat → Prop) (g : Nat) (w : World) (v : Value) (L : List ByteArray) : Prop := ∃ ao cap, v = .slice ao L.length cap ∧ L.length ≤ cap ∧ cap ≤ maxLen ∧ (L ≠ [] → ao = some ⟨g, 0, none⟩ ∧ A g ∧ OwnV w g (strs L))
/-- The same, marked from k on. -/
def TkP (A : Nat → Prop) (g : Nat) (w : World) (v : Value) (k : Int) (n : Nat) : Prop := ∃ ao cap, v = .slice ao n cap ∧ n ≤ cap ∧ cap ≤ maxLen ∧ (n ≠ 0 → ao = some ⟨g, 0, none⟩ ∧ A g ∧ OwnV w g (strs (sMarks k n)))
section
variable {A A' : Nat → Prop} {w w' : World} {g n : Nat} {v : Value} {k : Int} {L : List ByteArray}
theorem TxP.inn (h : TxP A g w v L) : SIn w v L := by
  obtain ⟨ao, cap, rfl, h1, h2, h3⟩ := h
  refine ⟨ao, cap, rfl, h1, h2, fun i hi => ?_⟩
  obtain ⟨rfl, _, ho⟩ := h3 (fun e => by rw [e] at hi; simp at hi)
  exact ⟨g, 0, rfl, by rw [Nat.zero_add]; exact ho.cell (map_get (E := Value.string) L hi)⟩
theorem TxP.kept {P : Nat → Prop} (h : TxP A g w v L) (hk : Kept P w w') (hP : ∀ k, A k → ¬ P k) : TxP A g w' v L := by
  obtain ⟨ao, cap, rfl, h1, h2, h3⟩ := h
  exact ⟨ao, cap, rfl, h1, h2, fun hne => ⟨(h3 hne).1, (h3 hne).2.1, (h3 hne).2.2.kept hk (hP _ (h3 hne).2.1)⟩⟩
theorem TxP.keptAt {P : Nat → Prop} (h : TxP A g w v L) (hk : Kept P w w') (hP : ¬ P g) : TxP A g w' v L := by
  obtain ⟨ao, cap, rfl, h1, h2, h3⟩ := h
  exact ⟨ao, cap, rfl, h1, h2, fun hne => ⟨(h3 hne).1, (h3 hne).2.1, (h3 hne).2.2.kept hk hP⟩⟩
theorem TxP.step (h : TxP A g w v L) (hb : Below w.heap.size w w') : TxP A g w' v L := h.kept (P := fun _ => False) (kept_of_below hb) (fun _ _ h => h)
theorem TxP.mono (h : TxP A g w v L) (hA : ∀ k, k < w.heap.size → A k → A' k) : TxP A' g w v L := by
  obtain ⟨ao, cap, rfl, h1, h2, h3⟩ := h
  exact ⟨ao, cap, rfl, h1, h2, fun hne => ⟨(h3 hne).1, hA _ (h3 hne).2.2.lt (h3 hne).2.1, (h3 hne).2.2⟩⟩
theorem TkP.kept {P : Nat → Prop} (h : TkP A g w v k n) (hk : Kept P w w') (hP : ∀ k, A k → ¬ P k) : TkP A g w' v k n := by
  obtain ⟨ao, cap, rfl, h1, h2, h3⟩ := h
  exact ⟨ao, cap, rfl, h1, h2, fun hne => ⟨(h3 hne).1, (h3 hne).2.1, (h3 hne).2.2.kept hk (hP _ (h3 hne).2.1)⟩⟩
theorem TkP.keptAt {P : Nat → Prop} (h : TkP A g w v k n) (hk : Kept P w w') (hP : ¬ P g) : TkP A g w' v k n := by
  obtain ⟨ao, cap, rfl, h1, h2, h3⟩ := h
  exact ⟨ao, cap, rfl, h1, h2, fun hne => ⟨(h3 hne).1, (h3 hne).2.1, (h3 hne).2.2.kept hk hP⟩⟩
theorem TkP.step (h : TkP A g w v k n) (hb : Below w.heap.size w w') : TkP A g w' v k n := h.kept (P := fun _ => False) (kept_of_below hb) (fun _ _ h => h)
theorem TkP.inn (h : TkP A g w v k n) : SIn w v (sMarks k n) := by
  obtain ⟨ao, cap, rfl, h1, h2, h3⟩ := h
  refine ⟨ao, cap, by rw [marksL_len], by rw [marksL_len]; exact h1, h2, fun i hi => ?_⟩
  rw [marksL_len] at hi
  obtain ⟨rfl, _, ho⟩ := h3 (by omega)
  exact ⟨g, 0, rfl, by rw [Nat.zero_add]; exact ho.cell (map_get (E := Value.string) _ (by rw [marksL_len]; exact hi))⟩
theorem txP_own {cap : Nat} (h : OwnV w g (strs L)) (hA : A g) (hc : L.length ≤ cap) (hm : cap ≤ maxLen) : TxP A g w (.slice (some ⟨g, 0, none⟩) L.length cap) L := ⟨_, cap, rfl, hc, hm, fun _ => ⟨rfl, hA, h⟩⟩
end
theorem markStr_zero (ao : Option Addr) (cap : Nat) (k : Int) (w : World) : Calls Try.prog 73 #[.slice ao 0 cap, .int .i64 k] w fun e w' => e = .returned (.int .i64 k) ∧ w' = w := by
  go_enter Try.func73, Try.ntmps73
  go_wp2
  refine wp_loop_rounds 1 ?_
  rw [rounds_succ]
  go_wp2
  go_ret
  exact ⟨rfl, rfl⟩
theorem markStr_at (A : Nat → Prop) (g : Nat) (v : Value) (L : List ByteArray) (k : Int) (w : World) (h : TxP A g w v L) (hn : L.length ≤ 1048576) (hk0 : 0 ≤ k) (hk1 : k ≤ 2305843009213693952) :
    Calls Try.prog 73 #[v, .int .i64 k] w fun e w' => e = .returned (.int .i64 (k + (L.length : Int))) ∧ Kept (fun b => b = g ∧ A b ∧ L ≠ []) w w' ∧ TkP A g w' v k L.length := by
  obtain ⟨ao, cap, rfl, h1, h2, h3⟩ := h
  by_cases hne : L = []
  · subst hne
    refine (markStr_zero ao cap k w).mono ?_
    rintro e w' ⟨rfl, rfl⟩
    exact ⟨by simp, Kept.refl _ _, ao, cap, rfl, h1, h2, fun h => absurd rfl h⟩
  · obtain ⟨rfl, hA, ho⟩ := h3 hne
    refine (markStr_any g cap L k w ho hn hk0 hk1).mono ?_
    rintro e w' ⟨rfl, hk, ho'⟩
    exact ⟨rfl, hk.mono (fun b _ e => ⟨e, by rw [e]; exact hA, hne⟩), _, cap, rfl, h1, h2, fun _ => ⟨rfl, hA, ho'⟩⟩

/-- A party of the call's own, its blocks among A. -/
def PtP (A : Nat → Prop) (w : World) (sv gv : Value) (S G : List ByteArray) : Prop := ∃ gs gg, gs ≠ gg ∧ TxP A gs w sv S ∧ TxP A gg w gv G
def PkP (A : Nat → Prop) (w : World) (sv gv : Value) (k : Int) (n m : Nat) : Prop := ∃ gs gg, gs ≠ gg ∧ TkP A gs w sv k n ∧ TkP A gg w gv (k + (n : Int)) m
/-- A party that can be read. -/
def PtIn (w : World) (sv gv : Value) (S G : List ByteArray) : Prop := SIn w sv S ∧ SIn w gv G
section
variable {A A' : Nat → Prop} {w w' : World} {n m : Nat} {sv gv : Value} {k : Int} {S G : List ByteArray}
theorem PtP.step (h : PtP A w sv gv S G) (hb : Below w.heap.size w w') : PtP A w' sv gv S G := by obtain ⟨a, b, e, h1, h2⟩ := h; exact ⟨a, b, e, h1.step hb, h2.step hb⟩
theorem PtP.kept {P : Nat → Prop} (h : PtP A w sv gv S G) (hk : Kept P w w') (hP : ∀ k, A k → ¬ P k) : PtP A w' sv gv S G := by obtain ⟨a, b, e, h1, h2⟩ := h; exact ⟨a, b, e, h1.kept hk hP, h2.kept hk hP⟩
theorem PtP.mono (h : PtP A w sv gv S G) (hA : ∀ k, k < w.heap.size → A k → A' k) : PtP A' w sv gv S G := by obtain ⟨a, b, e, h1, h2⟩ := h; exact ⟨a, b, e, h1.mono hA, h2.mono hA⟩
theorem PkP.step (h : PkP A w sv gv k n m) (hb : Below w.heap.size w w') : PkP A w' sv gv k n m := by obtain ⟨a, b, e, h1, h2⟩ := h; exact ⟨a, b, e, h1.step hb, h2.step hb⟩
theorem PkP.kept {P : Nat → Prop} (h : PkP A w sv gv k n m) (hk : Kept P w w') (hP : ∀ k, A k → ¬ P k) : PkP A w' sv gv k n m := by obtain ⟨a, b, e, h1, h2⟩ := h; exact ⟨a, b, e, h1.kept hk hP, h2.kept hk hP⟩
theorem PtIn.below (h : PtIn w sv gv S G) (hb : Below w.heap.size w w') : PtIn w' sv gv S G := ⟨h.1.below hb, h.2.below hb⟩
theorem PtP.inn (h : PtP A w sv gv S G) : PtIn w sv gv S G := by obtain ⟨a, b, e, h1, h2⟩ := h; exact ⟨h1.inn, h2.inn⟩
end

end Go.Proofs.Ytjpogaidcmndoaa

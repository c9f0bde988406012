/- Laid together out of: ChH, ChQ, ChQ4. -/
import Derived.Test.YtmpicamenjnkkaaPd
import Derived.Deep.RegionLaw
import Derived.Deep.AppendLies
import Derived.Deep.DeepCutAuto
import Derived.Test.YtmpicamenjnkkaaPe
import Derived.Deep.RegionHeld3

/- Contract of the specification's l6Copy. -/
namespace Go.Proofs.Ytmpicamenjnkkaa
open Go.RowKit

/-- A chart's two lists in rows of the call's own, apart. -/
structure COwn (B : Nat) (A : World) (dv fv : Value) (D : List Int) (F : List FeatureT) : Prop where
  d : A.ownsRow B 3 1 dv D.length (ints D)
  f : A.ownsRow B 91 5 fv F.length (recCells 5 eFeature F)
  ap : ∀ g, dv.ownBlock = some g → fv.ownBlock = some g → False

theorem Try.infoInt6' : (Try.prog.info? 3).map (fun i => (i.zero, i.size, i.bytes)) = some (some (.int .i64 0), 1, 8) := by kernel_rfl
/-- Two boxes of the call's own, and a block behind them. -/
structure B2 (w W : World) (a b : List Value) : Prop where
  o1 : OwnV W w.heap.size a
  o2 : OwnV W (w.heap.size + 1) b
  below : Below w.heap.size w W
theorem b2_new (w : World) (a b : Array Value) (t1 t2 : TypeId) (o : Obj) : B2 w (((w.alloc (.cells a t1)).alloc (.cells b t2)).alloc o) a.toList b.toList := by
  have h2 := ownV_alloc (w.alloc (.cells a t1)) b t2
  simp only [World.size_alloc] at h2
  exact ⟨((ownV_alloc w a t1).alloc _).alloc _, h2.alloc _, Below.step (Below.step (Below.alloc1 _ _) (Below.alloc1 _ _)) (Below.alloc1 _ _)⟩
theorem own_set_lt {A : World} {B b : Nat} {e : TypeId} {m : Nat} {v : Value} {n : Nat} {xs : List Value} (h : A.ownsRow B e m v n xs) (hb : b < B) (i : Nat) (u : Value) : (A.setCell ⟨b, i, none⟩ u).ownsRow B e m v n xs := by
  obtain ⟨h1, h2⟩ := h
  refine ⟨h1, ?_⟩
  rcases h2 with h2 | ⟨g, cap, cur, hv, hg, hh, r⟩
  · exact Or.inl h2
  · refine Or.inr ⟨g, cap, cur, hv, hg, ?_, r⟩
    have hne : ¬ b = g := by omega
    simp [World.setCell, Array.getElem?_modify, hne, hh]
theorem own_base {A : World} {B B' : Nat} {e : TypeId} {m : Nat} {v : Value} {n : Nat} {xs : List Value} (h : A.ownsRow B e m v n xs) (hb : B' ≤ B) : A.ownsRow B' e m v n xs := by
  obtain ⟨h1, h2⟩ := h
  refine ⟨h1, ?_⟩
  rcases h2 with h2 | ⟨g, cap, cur, hv, hg, r⟩
  · exact Or.inl h2
  · exact Or.inr ⟨g, cap, cur, hv, by omega, r⟩
/-- An append of no element. -/
theorem run_append_zero {P : Program} (w : World) (t ty e : TypeId) (i : TypeInfo) (ht : P.underlying t = some (.slice e)) (hi : P.info? e = some i) (a : Addr) (n cap cap' : Nat) (ao : Option Addr) (hc : n ≤ cap) :
    (Builtin.append_ #[t, t] ty #[.slice (some a) n cap, .slice ao 0 cap']).run P w = .ok (.slice (some a) n cap) w := by
  cases ao with
  | none => simp [Builtin.append_, run_underlying ht, sizeOf, typeInfo, hi, Builtin.lenOf, Builtin.firstCells, hc, storeCells]
  | some b => simp [Builtin.append_, run_underlying ht, sizeOf, typeInfo, hi, Builtin.lenOf, Builtin.firstCells, hc, storeCells, loadCells, loadCellsFrom]

/-- An append of any number of elements to a new, empty row of the call's own: a row of the call's own. -/
theorem wpList_append_whole {P : Program} {ops : Array Oper} {rest : List Oper} {o : Oper} {a : Act} {Q : Exit → Act → World → Prop} {w : World} (hgd : o.guard = none) (s x : Operand) (t : TypeId)
    (ho : o.op = .call { callee := .builtin .append, args := #[s, x], argTypes := #[t, t] })
    (base : Nat) (e : TypeId) (i : TypeInfo) (z : Value) (size bytes : Nat) (ht : P.underlying t = some (.slice e)) (hi : P.info? e = some i) (hz : i.zero = some z)
    (hsize : i.size = size) (hby : i.bytes = bytes) (hzs : z.cells.size = size) (hsz : 0 < size)
    (g : Nat) (hs : a.eval s = .slice (some ⟨g, 0, none⟩) 0 0) (hown : w.ownsRow base e size (.slice (some ⟨g, 0, none⟩) 0 0) 0 [])
    (ao : Option Addr) (m c : Nat) (news : List Value) (hx : a.eval x = .slice ao m c) (hl : news.length = m * size) (hnews : m ≠ 0 → ∃ ad, ao = some ad ∧ ∀ j u, news[j]? = some u → w.cell? (ad.add j) = some u) (h1 : ∀ u ∈ news, u.oneCell' = true)
    (h63 : m ≤ maxLen) (hbytes : m * bytes ≤ 140737488355328) (hbase : base ≤ w.heap.size)
    (h : ∀ g' cap w', w'.ownsRow base e size (.slice (some ⟨g', 0, none⟩) m cap) m news → w.grownBy w' (some g) → (g' = g ∨ g' = w.heap.size) → wpList P ops Q rest (a.put o.dst (.slice (some ⟨g', 0, none⟩) m cap)) w') : wpList P ops Q (o :: rest) a w := by
  by_cases hm : m = 0
  · subst hm
    have hn : news = [] := List.length_eq_zero_iff.1 (by omega)
    subst hn
    refine wpList_plain hgd fun K hK => ?_
    have hrun := run_append_zero (P := P) w t o.type e i ht hi ⟨g, 0, none⟩ 0 0 c ao (Nat.le_refl _)
    unfold Oper.wp
    simp [execOp, ho, resolve, invoke, builtin, hs, hx, hrun, Result.andThen]
    exact hK _ _ (h g 0 w hown ⟨rfl, rfl, rfl, Nat.le_refl _, fun _ _ _ => rfl⟩ (Or.inl rfl))
  · obtain ⟨ad, rfl, hn⟩ := hnews hm
    refine wpList_append_lies w hgd s x t ho base e i z size bytes ht hi hz hsize hby hzs hsz _ 0 [] hs hown ad m c news hx hl hn h1 (by omega) (by omega) (by rw [Nat.zero_add]; exact hbytes) hbase _ rfl ?_
    intro g' cap w' ho' hg hat _
    rw [Nat.zero_add, List.nil_append] at ho'
    rw [Nat.zero_add]
    refine h g' cap w' ho' hg ?_
    rcases hat with e | e
    · exact Or.inl (by simpa [Value.ownBlock] using e.symm)
    · exact Or.inr e

theorem fe_one {F : List FeatureT} : ∀ u ∈ recCells 5 eFeature F, u.oneCell' = true := fun u hu => by
  simp only [recCells, List.mem_map, List.mem_range] at hu
  obtain ⟨q, _, rfl⟩ := hu
  have h : q % 5 = 0 ∨ q % 5 = 1 ∨ q % 5 = 2 ∨ q % 5 = 3 ∨ q % 5 = 4 := by omega
  rcases h with h | h | h | h | h <;> rw [h] <;> rfl

set_option maxRecDepth 10000 in
set_option maxHeartbeats 4000000 in
theorem l6Copy_any (wd hg ed : Int) (dao : Option Addr) (dn dc : Nat) (fao : Option Addr) (fn fc : Nat) (D : List Int) (F : List FeatureT) (w : World) (hD : IntsIn w (.slice dao dn dc) D) (hF : RFeature w (.slice fao fn fc) F) (hsD : D.length ≤ 1048576) (hsF : F.length ≤ 1048576) :
    Calls Try.prog 69 #[vChart wd hg (.slice dao dn dc) (.slice fao fn fc) ed] w fun e w' => ∃ dv fv, e = .returned (vChart wd hg dv fv ed) ∧ COwn w.heap.size w' dv fv D F ∧ Below w.heap.size w w' := by
  obtain ⟨dao', dc', eD, hdl, hdm, hdc⟩ := hD
  obtain ⟨fao', fc', eF, hfl, hfm, hfc⟩ := hF
  simp only [Value.slice.injEq] at eD eF
  obtain ⟨rfl, rfl, rfl⟩ := eD
  obtain ⟨rfl, rfl, rfl⟩ := eF
  unfold maxLen at hdm hfm
  have HH := hide (b2_new w #[.int .i64 wd, .int .i64 hg, .slice dao D.length dc, .slice fao F.length fc, .int .i64 ed] #[.int .i64 0, .int .i64 0, .slice none 0 0, .slice none 0 0, .int .i64 0] 27 27 (.cells #[] 3))
  obtain ⟨i0, hi, hz0, hz1, hz2⟩ := info_parts Try.infoInt6'
  obtain ⟨i1, hi', hy0, hy1, hy2⟩ := info_parts Try.infoFeature
  obtain ⟨W3, eW⟩ : ∃ z, z = ((w.alloc (.cells #[.int .i64 wd, .int .i64 hg, .slice dao D.length dc, .slice fao F.length fc, .int .i64 ed] 27)).alloc (.cells #[.int .i64 0, .int .i64 0, .slice none 0 0, .slice none 0 0, .int .i64 0] 27)).alloc (.cells #[] 3) := ⟨_, rfl⟩
  have hR0 : W3.ownsRow (w.heap.size + 1 + 1) 3 1 (.slice (some ⟨w.heap.size + 1 + 1, 0, none⟩) 0 0) 0 [] := by
    rw [eW]
    have h := Go.Deep.blk_alloc_new ((w.alloc (.cells #[.int .i64 wd, .int .i64 hg, .slice dao D.length dc, .slice fao F.length fc, .int .i64 ed] 27)).alloc (.cells #[.int .i64 0, .int .i64 0, .slice none 0 0, .slice none 0 0, .int .i64 0] 27)) (.cells #[] 3)
    simp only [World.size_alloc] at h
    exact ⟨rfl, Or.inr ⟨w.heap.size + 1 + 1, 0, #[], rfl, Nat.le_refl _, h, Nat.le_refl _, Nat.zero_le _, rfl, rfl⟩⟩
  have hz3 : W3.heap.size = w.heap.size + 1 + 1 + 1 := by rw [eW]; simp
  rw [← eW] at HH
  have HR0 := hide hR0
  have HN1 : Hid (D.length ≠ 0 → ∃ ad, dao = some ad ∧ ∀ j u, (ints D)[j]? = some u → W3.cell? (ad.add j) = some u) := fun h => by
    obtain ⟨b, o, rfl, _⟩ := hdc 0 (by omega)
    refine ⟨_, rfl, fun j u hu => ?_⟩
    have hj : j < D.length := by
      have := (List.getElem?_eq_some_iff.1 hu).1
      rwa [ints_length] at this
    obtain ⟨b', o', e', hc⟩ := hdc j hj
    simp only [Option.some.injEq, Addr.mk.injEq, and_true] at e'
    obtain ⟨rfl, rfl⟩ := e'
    rw [ints_get D hj] at hu
    rw [Go.WideShapes.add_plain, ← hu]
    exact ((unhide HH).below.cell (lt_of_cell hc)).trans hc
  have HFC := hide hfc
  have EW := hide eW
  clear hR0 hdc hfc eW
  unfold vChart
  go_enter Try.func69, Try.ntmps69
  go_upto_region 2 with (at_builtin; refine wpList_append_whole rfl _ _ 24 rfl (w.heap.size + 1 + 1) 3 i0 _ 1 8 Try.underlying24 hi hz0 hz1 hz2 rfl (by decide) (w.heap.size + 1 + 1) rfl (by rw [← unhide EW]; exact unhide HR0) dao D.length dc (ints D) rfl (by rw [ints_length, Nat.mul_one]) (by rw [← unhide EW]; exact unhide HN1) (fun u hu => by obtain ⟨x, _, rfl⟩ := List.mem_map.1 hu; rfl) (by unfold maxLen; omega) (by omega) (by rw [← unhide EW]; omega) ?_; intro g1 cap1 wa hown hgrow hat; rw [← unhide EW] at hgrow; have hb1 := (Below.refl (w.heap.size + 1 + 1) W3).grown hgrow (by omega) (fun g hg => by simp at hg; omega); have HOW := hide hown; have HB1 := hide hb1; have c2 := ((unhide HH).o1.below hb1 (by omega)).cell (i := 2) rfl; have c3 := ((unhide HH).o1.below hb1 (by omega)).cell (i := 3) rfl; have cf := ((unhide HH).o1.below hb1 (by omega)).frozen; clear hown hgrow hat hb1)
  clear c2 c3 cf
  have hX := ((unhide HH).o1.below (unhide HB1) (by omega)).set 2 (.slice (some ⟨g1, 0, none⟩) D.length cap1) (by simp)
  have hY := ((unhide HH).o2.below (unhide HB1) (by omega)).other (a := ⟨w.heap.size, 2, none⟩) (by show w.heap.size + 1 ≠ w.heap.size; omega) (.slice (some ⟨g1, 0, none⟩) D.length cap1)
  have hDp := own_set_lt (unhide HOW) (b := w.heap.size) (by omega) 2 (.slice (some ⟨g1, 0, none⟩) D.length cap1)
  have hL : Below w.heap.size w (wa.setCell ⟨w.heap.size, 2, none⟩ (.slice (some ⟨g1, 0, none⟩) D.length cap1)) := by
    have hb := unhide HB1
    exact ((unhide HH).below.trans ⟨hb.os, hb.tape, hb.output, hb.size, fun q hq => hb.block q (by omega)⟩).setCell (p := ⟨w.heap.size, 2, none⟩) (Nat.le_refl _) _
  obtain ⟨W4, eW4⟩ : ∃ z, z = wa.setCell ⟨w.heap.size, 2, none⟩ (.slice (some ⟨g1, 0, none⟩) D.length cap1) := ⟨_, rfl⟩
  rw [← eW4] at hX hY hDp hL ⊢
  have hg1 := (hDp.lt g1 rfl).2
  have hw4 : w.heap.size + 1 < W4.heap.size := hY.lt
  have HX4 := hide hX
  have HY4 := hide hY
  have HD4 := hide hDp
  have HL4 := hide hL
  have HR5 : Hid ((W4.alloc (.cells #[] 91)).ownsRow W4.heap.size 91 5 (.slice (some ⟨W4.heap.size, 0, none⟩) 0 0) 0 []) := ⟨rfl, Or.inr ⟨W4.heap.size, 0, #[], rfl, Nat.le_refl _, Go.Deep.blk_alloc_new _ _, Nat.le_refl _, Nat.zero_le _, rfl, rfl⟩⟩
  have HN5 : Hid (F.length ≠ 0 → ∃ ad, fao = some ad ∧ ∀ j u, (recCells 5 eFeature F)[j]? = some u → (W4.alloc (.cells #[] 91)).cell? (ad.add j) = some u) := fun h => by
    obtain ⟨b, o, rfl, _⟩ := unhide HFC 0 (by omega)
    refine ⟨_, rfl, fun j u hu => ?_⟩
    have hj : j < F.length * 5 := by
      have := (List.getElem?_eq_some_iff.1 hu).1
      rwa [recCells_length] at this
    obtain ⟨b', o', e', hc⟩ := unhide HFC (j / 5) (by omega)
    simp only [Option.some.injEq, Addr.mk.injEq, and_true] at e'
    obtain ⟨rfl, rfl⟩ := e'
    have hc' := hc (j % 5) (by omega)
    rw [show j / 5 * 5 + j % 5 = j by omega] at hc'
    have hu' : u = eFeature (F.getD (j / 5) default) (j % 5) := by
      simp [recCells, List.getElem?_range hj] at hu
      exact hu.symm
    rw [Go.WideShapes.add_plain, hu']
    exact ((Below.step (unhide HL4) (Below.alloc1 _ _)).cell (lt_of_cell hc')).trans hc'
  have a3 := (hX.alloc (.cells #[] 91)).cell (i := 3) rfl
  clear hX hY hDp hL HOW HB1 HH HR0 HN1 HFC EW hz3 eW4
  go_upto_region 3 with (at_builtin; refine wpList_append_whole rfl _ _ 25 rfl W4.heap.size 91 i1 _ 5 48 Try.underlying25 hi' hy0 hy1 hy2 rfl (by decide) W4.heap.size rfl (unhide HR5) fao F.length fc (recCells 5 eFeature F) rfl recCells_length (unhide HN5) fe_one (by unfold maxLen; omega) (by omega) (by simp) ?_; intro g2 cap2 wb hown hgrow hat; have hb2 := (Below.refl W4.heap.size (W4.alloc (.cells #[] 91))).grown hgrow (by simp) (fun g hg => by simp at hg; omega); have HOF := hide hown; have HB2 := hide (Below.step (unhide HL4) (Below.trans (Below.alloc1 W4 (.cells #[] 91)) hb2)); have HX2 := hide ((unhide HX4).step (Below.trans (Below.alloc1 W4 (.cells #[] 91)) hb2)); have HY2 := hide ((unhide HY4).step (Below.trans (Below.alloc1 W4 (.cells #[] 91)) hb2)); have HD2 := hide (ownsRow_below (unhide HD4) (Below.trans (Below.alloc1 W4 (.cells #[] 91)) hb2)); have p0 := (unhide HX2).cell (i := 0) rfl; have p1 := (unhide HX2).cell (i := 1) rfl; have p2 := (unhide HX2).cell (i := 2) rfl; have p3 := (unhide HX2).cell (i := 3) rfl; have p4 := (unhide HX2).cell (i := 4) rfl; have pf := (unhide HX2).frozen; clear hown hgrow hat hb2)
  clear p0 p1 p2 p3 p4 pf a3
  have hg2 := ((unhide HOF).lt g2 rfl).1
  have hX := (unhide HX2).set 3 (.slice (some ⟨g2, 0, none⟩) F.length cap2) (by simp)
  have hY := (unhide HY2).other (a := ⟨w.heap.size, 3, none⟩) (by show w.heap.size + 1 ≠ w.heap.size; omega) (.slice (some ⟨g2, 0, none⟩) F.length cap2)
  have hDp := own_set_lt (unhide HD2) (b := w.heap.size) (by omega) 3 (.slice (some ⟨g2, 0, none⟩) F.length cap2)
  have hFp := own_set_lt (unhide HOF) (b := w.heap.size) (by omega) 3 (.slice (some ⟨g2, 0, none⟩) F.length cap2)
  have hL := (unhide HB2).setCell (p := ⟨w.heap.size, 3, none⟩) (Nat.le_refl _) (.slice (some ⟨g2, 0, none⟩) F.length cap2)
  obtain ⟨W6, eW6⟩ : ∃ z, z = wb.setCell ⟨w.heap.size, 3, none⟩ (.slice (some ⟨g2, 0, none⟩) F.length cap2) := ⟨_, rfl⟩
  rw [← eW6] at hX hY hDp hFp hL ⊢
  have p0 := hX.cell (i := 0) rfl
  have p1 := hX.cell (i := 1) rfl
  have p2 := hX.cell (i := 2) rfl
  have p3 := hX.cell (i := 3) rfl
  have p4 := hX.cell (i := 4) rfl
  have d0 := hY.cell (i := 0) rfl
  have d1 := hY.cell (i := 1) rfl
  have d2 := hY.cell (i := 2) rfl
  have d3 := hY.cell (i := 3) rfl
  have d4 := hY.cell (i := 4) rfl
  have df := hY.frozen
  have hr := ((((hY.set 0 (.int .i64 wd) (by simp)).set 1 (.int .i64 hg) (by simp)).set 2 (.slice (some ⟨g1, 0, none⟩) D.length cap1) (by simp)).set 3 (.slice (some ⟨g2, 0, none⟩) F.length cap2) (by simp)).set 4 (.int .i64 ed) (by simp)
  have hDr := own_set_lt (own_set_lt (own_set_lt (own_set_lt (own_set_lt hDp (b := w.heap.size + 1) (by omega) 0 (.int .i64 wd)) (b := w.heap.size + 1) (by omega) 1 (.int .i64 hg)) (b := w.heap.size + 1) (by omega) 2 (.slice (some ⟨g1, 0, none⟩) D.length cap1)) (b := w.heap.size + 1) (by omega) 3 (.slice (some ⟨g2, 0, none⟩) F.length cap2)) (b := w.heap.size + 1) (by omega) 4 (.int .i64 ed)
  have hFr := own_set_lt (own_set_lt (own_set_lt (own_set_lt (own_set_lt hFp (b := w.heap.size + 1) (by omega) 0 (.int .i64 wd)) (b := w.heap.size + 1) (by omega) 1 (.int .i64 hg)) (b := w.heap.size + 1) (by omega) 2 (.slice (some ⟨g1, 0, none⟩) D.length cap1)) (b := w.heap.size + 1) (by omega) 3 (.slice (some ⟨g2, 0, none⟩) F.length cap2)) (b := w.heap.size + 1) (by omega) 4 (.int .i64 ed)
  have hLr := ((((hL.setCell (p := ⟨w.heap.size + 1, 0, none⟩) (by show w.heap.size ≤ w.heap.size + 1; omega) (.int .i64 wd)).setCell (p := ⟨w.heap.size + 1, 1, none⟩) (by show w.heap.size ≤ w.heap.size + 1; omega) (.int .i64 hg)).setCell (p := ⟨w.heap.size + 1, 2, none⟩) (by show w.heap.size ≤ w.heap.size + 1; omega) (.slice (some ⟨g1, 0, none⟩) D.length cap1)).setCell (p := ⟨w.heap.size + 1, 3, none⟩) (by show w.heap.size ≤ w.heap.size + 1; omega) (.slice (some ⟨g2, 0, none⟩) F.length cap2)).setCell (p := ⟨w.heap.size + 1, 4, none⟩) (by show w.heap.size ≤ w.heap.size + 1; omega) (.int .i64 ed)
  have HRR := hide hr
  have HDR := hide hDr
  have HFR := hide hFr
  have HLR := hide hLr
  clear hr hDr hFr hLr hX hY hDp hFp hL HX2 HY2 HD2 HOF HB2 HX4 HY4 HD4 HL4 HR5 HN5 eW6
  have hn1 : ¬ w.heap.size = w.heap.size + 1 := by omega
  have hn2 : ¬ w.heap.size + 1 = w.heap.size := by omega
  go_wp2
  have k0 := (unhide HRR).cell (i := 0) rfl
  have k1 := (unhide HRR).cell (i := 1) rfl
  have k2 := (unhide HRR).cell (i := 2) rfl
  have k3 := (unhide HRR).cell (i := 3) rfl
  have k4 := (unhide HRR).cell (i := 4) rfl
  refine bodyPost_ret (v := .agg #[.int .i64 wd, .int .i64 hg, (.slice (some ⟨g1, 0, none⟩) D.length cap1), (.slice (some ⟨g2, 0, none⟩) F.length cap2), .int .i64 ed]) (by simp [results, Try.results69, go_sem, k0, k1, k2, k3, k4]) rfl ⟨_, _, rfl, ⟨own_base (unhide HDR) (by omega), own_base (unhide HFR) (by omega), fun g e1 e2 => ?_⟩, unhide HLR⟩
  simp [Value.ownBlock] at e1 e2
  omega

end Go.Proofs.Ytmpicamenjnkkaa

/- The specification's l6Note: words; a note of no known kind. -/
namespace Go.Proofs.Ytmpicamenjnkkaa
open Go.RowKit

theorem OwnCh.far {B U : Nat} {w' : World} {da fa : Option Addr} {dk fk : Nat} {D : List Int} {F : List FeatureT} {fs : List Value} (h : OwnCh B U w' da dk fa fk D F fs) {r : Nat} (hr : U ≤ r) (i : Nat) (u : Value) : OwnCh B U (w'.setCell ⟨r, i, none⟩ u) da dk fa fk D F fs :=
  h.kept (T := fun b => b = r) (Kept.setCell (T := fun b => b = r) (Kept.refl _ w') (p := ⟨r, i, none⟩) rfl u) (fun b _ hb e => by omega)
theorem OwnCh.sizes {B U : Nat} {w : World} {da fa : Option Addr} {dk fk : Nat} {D : List Int} {F : List FeatureT} {fs : List Value} (h : OwnCh B U w da dk fa fk D F fs) : B ≤ U ∧ U ≤ w.heap.size := by
  obtain ⟨_, g1, g2, a1, a2, _, _, _, a6, _⟩ := h
  exact ⟨by omega, a6⟩
theorem OwnCh.whole {B U : Nat} {w : World} {da fa : Option Addr} {dk fk : Nat} {D : List Int} {F : List FeatureT} {fs : List Value} (h : OwnCh B U w da dk fa fk D F fs) : OwnCh B w.heap.size w da dk fa fk D F fs := by
  obtain ⟨h0, g1, g2, a1, a2, a3, a4, a5, a6, a7, a8⟩ := h
  exact ⟨h0, g1, g2, a1, by omega, a3, by omega, a5, Nat.le_refl _, a7, a8⟩
/-- The depths of a chart of the call's own: where they lie, and one of them written. -/
theorem ownCh_deep {B U : Nat} {w : World} {da fa : Option Addr} {dk fk : Nat} {D : List Int} {F : List FeatureT} {fs : List Value} (h : OwnCh B U w da dk fa fk D F fs) (hne : D ≠ []) : ∃ g1, B ≤ g1 ∧ g1 < U ∧ da = some ⟨g1, 0, none⟩ ∧ OwnV w g1 (ints D) ∧ ∀ j d, j < D.length → OwnCh B U (w.setCell ⟨g1, j, none⟩ (.int .i64 d)) da dk fa fk (D.set j d) F fs := by
  obtain ⟨⟨b1, b2, b3, b4⟩, g1, g2, a1, a2, a3, a4, a5, a6, a7, a8⟩ := h
  obtain ⟨e, ho⟩ := a7 hne
  refine ⟨g1, a1, a2, e, ho, fun j d hj => ⟨⟨by rw [List.length_set]; exact b1, b2, b3, b4⟩, g1, g2, a1, a2, a3, a4, a5, by simpa [World.setCell] using a6, fun _ => ⟨e, ?_⟩, ?_⟩⟩
  · have h2 := ho.set j (.int .i64 d) (by rw [ints_length]; exact hj)
    have e2 : (ints D).set j (.int .i64 d) = ints (D.set j d) := by unfold ints; rw [List.map_set]
    rwa [e2] at h2
  · exact fun hf => ⟨(a8 hf).1, farN (a8 hf).2 (fun e => a5 e.symm) j _⟩
theorem Kept.fresh {T : Nat → Prop} {a w : World} (h : Kept T a w) {p : Addr} (hp : a.heap.size ≤ p.block) (u : Value) : Kept T a (w.setCell p u) :=
  ⟨h.os, h.tape, h.output, by simpa [World.setCell] using h.size, fun k hk hn => (Below.heap_setCell _ _ _ _ (fun e => by omega)).trans (h.block k hk hn)⟩
/-- What l6Note hands back. -/
def NoteAns (B : Nat) (da : Option Addr) (dk gf0 : Nat) (W W' : World) (e : Ending) (z : Ch × Bool) : Prop := ∃ gf fk, e = .returned (.tuple #[vChart z.1.wd z.1.hg (.slice da z.1.D.length dk) (.slice (some ⟨gf, 0, none⟩) z.1.F.length fk) z.1.ed, .bool z.2]) ∧ OwnCh B W'.heap.size W' da dk (some ⟨gf, 0, none⟩) fk z.1.D z.1.F (recCells 5 eFeature z.1.F) ∧ Below B W W' ∧ Kept (fun b => da = some ⟨b, 0, none⟩ ∨ b = gf0) W W' ∧ (gf = gf0 ∨ W.heap.size ≤ gf)

set_option maxRecDepth 10000 in
set_option maxHeartbeats 8000000 in
theorem l6NoteOther_any (B U : Nat) (c : Ch) (k : Int) (id x y d : Int) (t : ByteArray) (so : Int) (da : Option Addr) (dk : Nat) (gf : Nat) (fk : Nat) (W : World) (h : OwnCh B U W da dk (some ⟨gf, 0, none⟩) fk c.D c.F (recCells 5 eFeature c.F)) (h1 : k ≠ 1) (h2 : k ≠ 2) (h3 : k ≠ 3) (h4 : k ≠ 4) :
    Calls Try.prog 70 #[vChart c.wd c.hg (.slice da c.D.length dk) (.slice (some ⟨gf, 0, none⟩) c.F.length fk) c.ed, vNote k id x y d t so] W fun e W' => NoteAns B da dk gf W W' e (noteOf c (k, id, x, y, d, t, so)) := by
  obtain ⟨⟨A, r⟩, eA⟩ : ∃ z, z = noteOf c (k, id, x, y, d, t, so) := ⟨_, rfl⟩
  rw [← eA]
  have EA := hide eA
  have HB := hide (b3_new W #[.int .i64 c.wd, .int .i64 c.hg, .slice da c.D.length dk, .slice (some ⟨gf, 0, none⟩) c.F.length fk, .int .i64 c.ed] #[.int .i64 k, .int .i64 id, .int .i64 x, .int .i64 y, .int .i64 d, .string t, .int .i64 so] #[.int .i64 0, .int .i64 0, .slice none 0 0, .slice none 0 0, .int .i64 0] 27 74 27)
  have HFi := hide (l6Find_any c.wd c.hg c.ed (.slice da c.D.length dk) (some ⟨gf, 0, none⟩) c.F.length fk c.F id _ (h.feats.below (unhide HB).below))
  have HO := hide h
  have hUW : B ≤ U ∧ U ≤ W.heap.size := h.sizes
  clear eA h
  have hfb := findOf_bd c.F id
  obtain ⟨at0, eat⟩ : ∃ z, z = findOf c.F id := ⟨_, rfl⟩
  rw [← eat] at HFi hfb
  have EAT := hide eat
  clear eat
  unfold vChart vNote at *
  go_enter Try.func70, Try.ntmps70
  go_wp2_with fail
  refine (unhide HFi).mono ?_
  rintro e V ⟨rfl, hb⟩
  replace HB := hide ((unhide HB).step hb)
  replace HO := hide ((unhide HO).below (unhide HB).below)
  clear hb HFi
  have EZ : Hid ((A, r) = (c, false)) := by show _ = _; rw [unhide EA]; unfold noteOf; rw [if_neg h1, if_neg h2, if_neg h3, if_neg h4]
  have e1 : (k == 1) = false := by simp; exact h1
  have e2 : (k == 2) = false := by simp; exact h2
  have e3 : (k == 3) = false := by simp; exact h3
  have e4 : (k == 4) = false := by simp; exact h4
  have c0 := (unhide HB).o1.cell (i := 0) rfl
  have c1 := (unhide HB).o1.cell (i := 1) rfl
  have c2 := (unhide HB).o1.cell (i := 2) rfl
  have c3 := (unhide HB).o1.cell (i := 3) rfl
  have c4 := (unhide HB).o1.cell (i := 4) rfl
  have n0 := (unhide HB).o2.cell (i := 0) rfl
  have n1 := (unhide HB).o2.cell (i := 1) rfl
  have n2 := (unhide HB).o2.cell (i := 2) rfl
  have n3 := (unhide HB).o2.cell (i := 3) rfl
  have n4 := (unhide HB).o2.cell (i := 4) rfl
  have n5 := (unhide HB).o2.cell (i := 5) rfl
  have n6 := (unhide HB).o2.cell (i := 6) rfl
  have hU : U ≤ W.heap.size + 1 + 1 := by omega
  have hx1 : ¬ W.heap.size = W.heap.size + 1 + 1 := by omega
  have hx2 : ¬ W.heap.size + 1 + 1 = W.heap.size := by omega
  have hx3 : ¬ W.heap.size + 1 = W.heap.size + 1 + 1 := by omega
  have d0 := (unhide HB).o3.cell (i := 0) rfl
  have d1 := (unhide HB).o3.cell (i := 1) rfl
  have d2 := (unhide HB).o3.cell (i := 2) rfl
  have d3 := (unhide HB).o3.cell (i := 3) rfl
  have d4 := (unhide HB).o3.cell (i := 4) rfl
  have df := (unhide HB).o3.frozen
  have HB8 := hide ((((((unhide HB).put3 0 (.int .i64 c.wd) (by simp)).put3 1 (.int .i64 c.hg) (by simp)).put3 2 (.slice da c.D.length dk) (by simp)).put3 3 (.slice (some ⟨gf, 0, none⟩) c.F.length fk) (by simp)).put3 4 (.int .i64 c.ed) (by simp))
  have HO8 := hide (OwnCh.far (OwnCh.far (OwnCh.far (OwnCh.far (OwnCh.far (unhide HO) hU 0 (.int .i64 c.wd)) hU 1 (.int .i64 c.hg)) hU 2 (.slice da c.D.length dk)) hU 3 (.slice (some ⟨gf, 0, none⟩) c.F.length fk)) hU 4 (.int .i64 c.ed))
  clear HB HO
  go_wp2
  have q0 := (unhide HB8).o3.cell (i := 0) rfl
  have q1 := (unhide HB8).o3.cell (i := 1) rfl
  have q2 := (unhide HB8).o3.cell (i := 2) rfl
  have q3 := (unhide HB8).o3.cell (i := 3) rfl
  have q4 := (unhide HB8).o3.cell (i := 4) rfl
  refine bodyPost_ret (v := .tuple #[.agg #[.int .i64 c.wd, .int .i64 c.hg, .slice da c.D.length dk, .slice (some ⟨gf, 0, none⟩) c.F.length fk, .int .i64 c.ed], .bool false]) (by simp [results, Try.results70, go_sem, q0, q1, q2, q3, q4]) rfl ?_
  exact ⟨gf, fk, by rw [unhide EZ]; rfl, by rw [unhide EZ]; exact OwnCh.whole (unhide HO8), (unhide HB8).below.mono (by omega), kept_of_below (unhide HB8).below, Or.inl rfl⟩

end Go.Proofs.Ytmpicamenjnkkaa

/- The specification's l6Note: a depth. -/
namespace Go.Proofs.Ytmpicamenjnkkaa
open Go.RowKit

set_option maxRecDepth 10000 in
set_option maxHeartbeats 8000000 in
theorem l6NoteDepth_any (B U : Nat) (c : Ch) (id x y d : Int) (t : ByteArray) (so : Int) (da : Option Addr) (dk : Nat) (gf : Nat) (fk : Nat) (W : World) (h : OwnCh B U W da dk (some ⟨gf, 0, none⟩) fk c.D c.F (recCells 5 eFeature c.F)) (hw : 1 ≤ c.wd ∧ c.wd ≤ 12) (hh : 1 ≤ c.hg ∧ c.hg ≤ 12) (hl : (c.D.length : Int) = c.wd * c.hg) :
    Calls Try.prog 70 #[vChart c.wd c.hg (.slice da c.D.length dk) (.slice (some ⟨gf, 0, none⟩) c.F.length fk) c.ed, vNote 4 id x y d t so] W fun e W' => NoteAns B da dk gf W W' e (noteOf c (4, id, x, y, d, t, so)) := by
  obtain ⟨⟨A, r⟩, eA⟩ : ∃ z, z = noteOf c (4, id, x, y, d, t, so) := ⟨_, rfl⟩
  rw [← eA]
  have EA := hide eA
  have HB := hide (b3_new W #[.int .i64 c.wd, .int .i64 c.hg, .slice da c.D.length dk, .slice (some ⟨gf, 0, none⟩) c.F.length fk, .int .i64 c.ed] #[.int .i64 4, .int .i64 id, .int .i64 x, .int .i64 y, .int .i64 d, .string t, .int .i64 so] #[.int .i64 0, .int .i64 0, .slice none 0 0, .slice none 0 0, .int .i64 0] 27 74 27)
  have HFi := hide (l6Find_any c.wd c.hg c.ed (.slice da c.D.length dk) (some ⟨gf, 0, none⟩) c.F.length fk c.F id _ (h.feats.below (unhide HB).below))
  have HO := hide h
  have hUW : B ≤ U ∧ U ≤ W.heap.size := h.sizes
  clear eA h
  have hfb := findOf_bd c.F id
  obtain ⟨at0, eat⟩ : ∃ z, z = findOf c.F id := ⟨_, rfl⟩
  rw [← eat] at HFi hfb
  have EAT := hide eat
  clear eat
  unfold vChart vNote at *
  go_enter Try.func70, Try.ntmps70
  go_wp2_with fail
  refine (unhide HFi).mono ?_
  rintro e V ⟨rfl, hb⟩
  replace HB := hide ((unhide HB).step hb)
  replace HO := hide ((unhide HO).below (unhide HB).below)
  clear hb HFi
  have HP := hide fun V => l6Place_any c.wd c.hg c.ed x y (.slice da c.D.length dk) (.slice (some ⟨gf, 0, none⟩) c.F.length fk) V (by omega) (by omega) (by omega) (by omega)
  unfold vChart at HP
  have c0 := (unhide HB).o1.cell (i := 0) rfl
  have c1 := (unhide HB).o1.cell (i := 1) rfl
  have c2 := (unhide HB).o1.cell (i := 2) rfl
  have c3 := (unhide HB).o1.cell (i := 3) rfl
  have c4 := (unhide HB).o1.cell (i := 4) rfl
  have n0 := (unhide HB).o2.cell (i := 0) rfl
  have n1 := (unhide HB).o2.cell (i := 1) rfl
  have n2 := (unhide HB).o2.cell (i := 2) rfl
  have n3 := (unhide HB).o2.cell (i := 3) rfl
  have n4 := (unhide HB).o2.cell (i := 4) rfl
  have n5 := (unhide HB).o2.cell (i := 5) rfl
  have n6 := (unhide HB).o2.cell (i := 6) rfl
  go_wp2_with fail
  refine (unhide HP _).mono ?_
  rintro e V1 ⟨rfl, hb⟩
  replace HB := hide ((unhide HB).step hb)
  replace HO := hide ((unhide HO).below hb)
  clear hb HP c0 c1 c2 c3 c4 n0 n1 n2 n3 n4 n5 n6
  have c0 := (unhide HB).o1.cell (i := 0) rfl
  have c1 := (unhide HB).o1.cell (i := 1) rfl
  have c2 := (unhide HB).o1.cell (i := 2) rfl
  have c3 := (unhide HB).o1.cell (i := 3) rfl
  have c4 := (unhide HB).o1.cell (i := 4) rfl
  have n0 := (unhide HB).o2.cell (i := 0) rfl
  have n1 := (unhide HB).o2.cell (i := 1) rfl
  have n2 := (unhide HB).o2.cell (i := 2) rfl
  have n3 := (unhide HB).o2.cell (i := 3) rfl
  have n4 := (unhide HB).o2.cell (i := 4) rfl
  have n5 := (unhide HB).o2.cell (i := 5) rfl
  have n6 := (unhide HB).o2.cell (i := 6) rfl
  have hnk : ∀ z, noteOf c (4, id, x, y, d, t, so) = z ↔ (if (!placeB c.wd c.hg x y || !inB d (-1000) 10000) = true then (c, false) else ({ c with D := c.D.set (y * c.wd + x).toNat d }, true)) = z := fun z => by
    unfold noteOf
    rw [if_neg (by show ¬ (4 : Int) = 1; decide), if_neg (by show ¬ (4 : Int) = 2; decide), if_neg (by show ¬ (4 : Int) = 3; decide), if_pos rfl]
  have HNK := hide hnk
  clear hnk
  cases hpl : placeB c.wd c.hg x y with
  | false =>
    have EZ : Hid ((A, r) = (c, false)) := by show _ = _; rw [unhide EA]; exact (unhide HNK _).2 (by rw [hpl]; rfl)
    have hU : U ≤ W.heap.size + 1 + 1 := by omega
    have hx1 : ¬ W.heap.size = W.heap.size + 1 + 1 := by omega
    have hx2 : ¬ W.heap.size + 1 + 1 = W.heap.size := by omega
    have hx3 : ¬ W.heap.size + 1 = W.heap.size + 1 + 1 := by omega
    have d0 := (unhide HB).o3.cell (i := 0) rfl
    have d1 := (unhide HB).o3.cell (i := 1) rfl
    have d2 := (unhide HB).o3.cell (i := 2) rfl
    have d3 := (unhide HB).o3.cell (i := 3) rfl
    have d4 := (unhide HB).o3.cell (i := 4) rfl
    have df := (unhide HB).o3.frozen
    have HB8 := hide ((((((unhide HB).put3 0 (.int .i64 c.wd) (by simp)).put3 1 (.int .i64 c.hg) (by simp)).put3 2 (.slice da c.D.length dk) (by simp)).put3 3 (.slice (some ⟨gf, 0, none⟩) c.F.length fk) (by simp)).put3 4 (.int .i64 c.ed) (by simp))
    have HO8 := hide (OwnCh.far (OwnCh.far (OwnCh.far (OwnCh.far (OwnCh.far (unhide HO) hU 0 (.int .i64 c.wd)) hU 1 (.int .i64 c.hg)) hU 2 (.slice da c.D.length dk)) hU 3 (.slice (some ⟨gf, 0, none⟩) c.F.length fk)) hU 4 (.int .i64 c.ed))
    clear HB HO
    go_wp2
    have q0 := (unhide HB8).o3.cell (i := 0) rfl
    have q1 := (unhide HB8).o3.cell (i := 1) rfl
    have q2 := (unhide HB8).o3.cell (i := 2) rfl
    have q3 := (unhide HB8).o3.cell (i := 3) rfl
    have q4 := (unhide HB8).o3.cell (i := 4) rfl
    refine bodyPost_ret (v := .tuple #[.agg #[.int .i64 c.wd, .int .i64 c.hg, .slice da c.D.length dk, .slice (some ⟨gf, 0, none⟩) c.F.length fk, .int .i64 c.ed], .bool false]) (by simp [results, Try.results70, go_sem, q0, q1, q2, q3, q4]) rfl ?_
    exact ⟨gf, fk, by rw [unhide EZ]; rfl, by rw [unhide EZ]; exact OwnCh.whole (unhide HO8), (unhide HB8).below.mono (by omega), kept_of_below (unhide HB8).below, Or.inl rfl⟩
  | true =>
  have HL := hide fun V => l6Depth_any d V
  cases hin : inB d (-1000) 10000 with
  | false =>
    rw [hin] at HL
    have EZ : Hid ((A, r) = (c, false)) := by show _ = _; rw [unhide EA]; exact (unhide HNK _).2 (by rw [hpl, hin]; rfl)
    have hU : U ≤ W.heap.size + 1 + 1 := by omega
    have hx1 : ¬ W.heap.size = W.heap.size + 1 + 1 := by omega
    have hx2 : ¬ W.heap.size + 1 + 1 = W.heap.size := by omega
    have hx3 : ¬ W.heap.size + 1 = W.heap.size + 1 + 1 := by omega
    have d0 := (unhide HB).o3.cell (i := 0) rfl
    have d1 := (unhide HB).o3.cell (i := 1) rfl
    have d2 := (unhide HB).o3.cell (i := 2) rfl
    have d3 := (unhide HB).o3.cell (i := 3) rfl
    have d4 := (unhide HB).o3.cell (i := 4) rfl
    have df := (unhide HB).o3.frozen
    have HB8 := hide ((((((unhide HB).put3 0 (.int .i64 c.wd) (by simp)).put3 1 (.int .i64 c.hg) (by simp)).put3 2 (.slice da c.D.length dk) (by simp)).put3 3 (.slice (some ⟨gf, 0, none⟩) c.F.length fk) (by simp)).put3 4 (.int .i64 c.ed) (by simp))
    have HO8 := hide (OwnCh.far (OwnCh.far (OwnCh.far (OwnCh.far (OwnCh.far (unhide HO) hU 0 (.int .i64 c.wd)) hU 1 (.int .i64 c.hg)) hU 2 (.slice da c.D.length dk)) hU 3 (.slice (some ⟨gf, 0, none⟩) c.F.length fk)) hU 4 (.int .i64 c.ed))
    clear HB HO
    go_wp2_with (go_at_call 57; refine (unhide HL _).mono ?_; rintro e w' ⟨rfl, h9⟩; have h8 := h9.symm; subst h8; clear h9)
    have q0 := (unhide HB8).o3.cell (i := 0) rfl
    have q1 := (unhide HB8).o3.cell (i := 1) rfl
    have q2 := (unhide HB8).o3.cell (i := 2) rfl
    have q3 := (unhide HB8).o3.cell (i := 3) rfl
    have q4 := (unhide HB8).o3.cell (i := 4) rfl
    refine bodyPost_ret (v := .tuple #[.agg #[.int .i64 c.wd, .int .i64 c.hg, .slice da c.D.length dk, .slice (some ⟨gf, 0, none⟩) c.F.length fk, .int .i64 c.ed], .bool false]) (by simp [results, Try.results70, go_sem, q0, q1, q2, q3, q4]) rfl ?_
    exact ⟨gf, fk, by rw [unhide EZ]; rfl, by rw [unhide EZ]; exact OwnCh.whole (unhide HO8), (unhide HB8).below.mono (by omega), kept_of_below (unhide HB8).below, Or.inl rfl⟩
  | true =>
  rw [hin] at HL
  obtain ⟨hx0, hx1, hy0, hy1⟩ := place_bd hpl
  have hq := place_lt hw.1 hw.2 hh.1 hh.2 hx0 hx1 hy0 hy1
  obtain ⟨yw, eyw⟩ : ∃ z, z = y * c.wd := ⟨_, rfl⟩
  rw [← eyw, ← hl] at hq
  obtain ⟨hq0, hq1, hq2⟩ := hq
  obtain ⟨j, ej⟩ := Int.eq_ofNat_of_zero_le (show 0 ≤ yw + x by omega)
  have i1 : IntKind.i64.wrap (y * c.wd) = yw := by rw [← eyw, IntKind.wrap_i64]; omega
  have i2 : IntKind.i64.wrap (yw + x) = (j : Int) := by rw [IntKind.wrap_i64]; omega
  have hji : (j : Int) < c.D.length := by omega
  have hjn : j < c.D.length := by omega
  have EZ : Hid ((A, r) = ({ c with D := c.D.set j d }, true)) := by show _ = _; rw [unhide EA]; exact (unhide HNK _).2 (by rw [hpl, hin, ← eyw, ej, Int.toNat_natCast]; rfl)
  obtain ⟨g1, hg1B, hg1U, hda, hO1, HO'⟩ := ownCh_deep (unhide HO) (fun e => by rw [e] at hjn; simp at hjn)
  subst hda
  have f5 := hO1.cell (i := j) (ints_get c.D hjn)
  have f6 := hO1.frozen j
  have hn1 : ¬ g1 = W.heap.size := by omega
  have hn2 : ¬ W.heap.size = g1 := by omega
  have hn3 : ¬ g1 = W.heap.size + 1 := by omega
  have hn4 : ¬ W.heap.size + 1 = g1 := by omega
  have HO2 := hide (HO' j d hjn)
  clear hO1 HO' eyw ej hl HO HNK EA EAT
  go_upto_region 28 with (go_at_call 57; refine (unhide HL _).mono ?_; rintro e w' ⟨rfl, h9⟩; have h8 := h9.symm; subst h8; clear h9)
  have hX := farN (unhide HB).o1 hn2 j (.int .i64 d)
  have hZ := farN (unhide HB).o3 (show W.heap.size + 1 + 1 ≠ g1 by omega) j (.int .i64 d)
  have hL := ((unhide HB).below.mono (by omega : B ≤ W.heap.size)).setCell (p := ⟨g1, j, none⟩) hg1B (.int .i64 d)
  have hP := unhide HO2
  have hK := Kept.setCell (T := fun b => some (⟨g1, 0, none⟩ : Addr) = some ⟨b, 0, none⟩ ∨ b = gf) (kept_of_below (unhide HB).below) (p := ⟨g1, j, none⟩) (Or.inl rfl) (.int .i64 d)
  obtain ⟨V6, e6⟩ : ∃ z, z = (w'.setCell ⟨g1, j, none⟩ (.int .i64 d)) := ⟨_, rfl⟩
  rw [← e6] at hX hZ hL hP hK ⊢
  have hU : U ≤ W.heap.size + 1 + 1 := by omega
  have p0 := hX.cell (i := 0) rfl
  have p1 := hX.cell (i := 1) rfl
  have p2 := hX.cell (i := 2) rfl
  have p3 := hX.cell (i := 3) rfl
  have p4 := hX.cell (i := 4) rfl
  have d0 := hZ.cell (i := 0) rfl
  have d1 := hZ.cell (i := 1) rfl
  have d2 := hZ.cell (i := 2) rfl
  have d3 := hZ.cell (i := 3) rfl
  have d4 := hZ.cell (i := 4) rfl
  have df := hZ.frozen
  have hx1 : ¬ W.heap.size = W.heap.size + 1 + 1 := by omega
  have hx2 : ¬ W.heap.size + 1 + 1 = W.heap.size := by omega
  have HZ8 := hide (((((hZ.set 0 (.int .i64 c.wd) (by simp)).set 1 (.int .i64 c.hg) (by simp)).set 2 (.slice (some ⟨g1, 0, none⟩) c.D.length dk) (by simp)).set 3 (.slice (some ⟨gf, 0, none⟩) c.F.length fk) (by simp)).set 4 (.int .i64 c.ed) (by simp))
  have HP8 := hide (OwnCh.far (OwnCh.far (OwnCh.far (OwnCh.far (OwnCh.far hP hU 0 (.int .i64 c.wd)) hU 1 (.int .i64 c.hg)) hU 2 (.slice (some ⟨g1, 0, none⟩) c.D.length dk)) hU 3 (.slice (some ⟨gf, 0, none⟩) c.F.length fk)) hU 4 (.int .i64 c.ed))
  have hBr : B ≤ W.heap.size + 1 + 1 := by omega
  have HL8 := hide (Below.setCell (Below.setCell (Below.setCell (Below.setCell (Below.setCell hL (p := ⟨W.heap.size + 1 + 1, 0, none⟩) hBr (.int .i64 c.wd)) (p := ⟨W.heap.size + 1 + 1, 1, none⟩) hBr (.int .i64 c.hg)) (p := ⟨W.heap.size + 1 + 1, 2, none⟩) hBr (.slice (some ⟨g1, 0, none⟩) c.D.length dk)) (p := ⟨W.heap.size + 1 + 1, 3, none⟩) hBr (.slice (some ⟨gf, 0, none⟩) c.F.length fk)) (p := ⟨W.heap.size + 1 + 1, 4, none⟩) hBr (.int .i64 c.ed))
  have HK8 := hide (Kept.fresh (Kept.fresh (Kept.fresh (Kept.fresh (Kept.fresh hK (p := ⟨W.heap.size + 1 + 1, 0, none⟩) (show W.heap.size ≤ W.heap.size + 1 + 1 by omega) (.int .i64 c.wd)) (p := ⟨W.heap.size + 1 + 1, 1, none⟩) (show W.heap.size ≤ W.heap.size + 1 + 1 by omega) (.int .i64 c.hg)) (p := ⟨W.heap.size + 1 + 1, 2, none⟩) (show W.heap.size ≤ W.heap.size + 1 + 1 by omega) (.slice (some ⟨g1, 0, none⟩) c.D.length dk)) (p := ⟨W.heap.size + 1 + 1, 3, none⟩) (show W.heap.size ≤ W.heap.size + 1 + 1 by omega) (.slice (some ⟨gf, 0, none⟩) c.F.length fk)) (p := ⟨W.heap.size + 1 + 1, 4, none⟩) (show W.heap.size ≤ W.heap.size + 1 + 1 by omega) (.int .i64 c.ed))
  clear hX hZ hL hP hK e6 HB c0 c1 c2 c3 c4 n0 n1 n2 n3 n4 n5 n6 HO2 f5 f6
  go_wp2
  have q0 := (unhide HZ8).cell (i := 0) rfl
  have q1 := (unhide HZ8).cell (i := 1) rfl
  have q2 := (unhide HZ8).cell (i := 2) rfl
  have q3 := (unhide HZ8).cell (i := 3) rfl
  have q4 := (unhide HZ8).cell (i := 4) rfl
  refine bodyPost_ret (v := .tuple #[.agg #[.int .i64 c.wd, .int .i64 c.hg, .slice (some ⟨g1, 0, none⟩) c.D.length dk, .slice (some ⟨gf, 0, none⟩) c.F.length fk, .int .i64 c.ed], .bool true]) (by simp [results, Try.results70, go_sem, q0, q1, q2, q3, q4]) rfl ?_
  have hP8 := OwnCh.whole (unhide HP8)
  refine ⟨gf, fk, ?_, ?_, unhide HL8, unhide HK8, Or.inl rfl⟩
  · rw [unhide EZ]; show _ = Ending.returned (.tuple #[vChart c.wd c.hg (.slice _ _ dk) (.slice _ _ _) c.ed, .bool true]); simp [vChart]
  · rw [unhide EZ]; exact hP8

end Go.Proofs.Ytmpicamenjnkkaa

/- Laid together out of: OpenRm, OpenCh, OpenUi, OpenUl. -/
import Derived.Test.YtmpicamenjnkkaaPb
import Derived.Test.YtmpicamenjnkkaaPe
import Derived.ProofKit
import Derived.OpenShut
import Derived.ShutString
import Derived.ChangeOld
import Derived.Below
import Derived.Deep.Matrix
import Derived.Lib.SmallJoins
import Derived.Test.YtmpicamenjnkkaaPc

/- How slices of flat structs of whole numbers and texts that came in are opened. Written by wip/mkopenm.py. -/
namespace Go.Proofs.Ytmpicamenjnkkaa
open Go.ChangeShapes Go.WideShapes Go.ChangeAt Go.RowKit Go.Deep

theorem Try.ownM : ownKnob Try.prog.godebug = none := by kernel_rfl
theorem Try.laidOutM : laidOutB Try.prog = true := by kernel_rfl
theorem Try.cellIntM : Try.prog.cellsOf 3 = 1 := by kernel_rfl
theorem Try.cellStrM : Try.prog.cellsOf 9 = 1 := by kernel_rfl

theorem recFeature_open {H : Type} {enc : TypeId × Value → H} {W : World} {v : Value} {fuel : Nat} {x : DataW H × List MemPlace} {P : Program} {t e ti ts : TypeId} {f0 f1 f2 f3 f4 : Field} (hi : P.underlying ti = some (.int .i64)) (hs : P.underlying ts = some .string) (ci : P.cellsOf ti = 1) (cst : P.cellsOf ts = 1)
    (ht : P.underlying t = some (.slice e)) (he : P.underlying e = some (.struct #[f0, f1, f2, f3, f4])) (ce : P.cellsOf e = 5)
    (ho : [f0.offset, f1.offset, f2.offset, f3.offset, f4.offset] = [0, 1, 2, 3, 4]) (hty : [f0.type, f1.type, f2.type, f3.type, f4.type] = [ti, ti, ti, ti, ts])
    (h : DataW.trod enc P W 0 (fun _ => true) true fuel t [v] = some x) : ∃ L, RFeature W v L ∧ ∀ i, i < L.length → (txtFeature (L.getD i default)).size ≤ maxLen := by
  simp only [List.cons.injEq, and_true] at ho hty
  obtain ⟨o0, o1, o2, o3, o4⟩ := ho
  obtain ⟨u0, u1, u2, u3, u4⟩ := hty
  rcases open_slice ht h with ⟨hcs, _⟩ | ⟨a, len, cap, m, n, D, Pl, hcs, _, hl, hm, hmm, _, hx⟩
  · simp only [List.cons.injEq, and_true] at hcs
    subst hcs
    exact ⟨[], recsIn_nil, fun i hi => by simp at hi⟩
  simp only [List.cons.injEq, and_true] at hcs
  subst hcs
  simp only [if_true] at hmm
  subst hmm
  have each : ∀ i, i < len → ∃ q : FeatureT, (∀ j, j < 5 → W.cell? (a.add (i * 5 + j)) = some (eFeature q j)) ∧ (txtFeature q).size ≤ maxLen := by
    intro i hin
    obtain ⟨cs', h1, h2⟩ := hx i (by omega)
    rw [ce] at h1
    obtain ⟨_, hlen, hcell⟩ := World.cells?_some h1
    obtain ⟨xs, k, hk, hxy, _, hxl, hf⟩ := DataW.trod_struct he h2
    match xs, hxl, cs', hlen with
    | [y0, y1, y2, y3, y4], _, [v0, v1, v2, v3, v4], _ =>
      have g0 := hf 0 f0 rfl
      have g1 := hf 1 f1 rfl
      have g2 := hf 2 f2 rfl
      have g3 := hf 3 f3 rfl
      have g4 := hf 4 f4 rfl
      simp [o0, o1, o2, o3, o4, u0, u1, u2, u3, u4, ci, cst] at g0 g1 g2 g3 g4
      obtain ⟨z0, e0, _, _⟩ := DataW.trod_int hi g0
      obtain ⟨z1, e1, _, _⟩ := DataW.trod_int hi g1
      obtain ⟨z2, e2, _, _⟩ := DataW.trod_int hi g2
      obtain ⟨z3, e3, _, _⟩ := DataW.trod_int hi g3
      obtain ⟨z4, e4, _, sz⟩ := DataW.trod_string hs g4
      simp only [List.cons.injEq, and_true] at e0 e1 e2 e3 e4
      have d0 := hcell 0 (by omega)
      rw [add_add] at d0
      subst e0
      have d1 := hcell 1 (by omega)
      rw [add_add] at d1
      subst e1
      have d2 := hcell 2 (by omega)
      rw [add_add] at d2
      subst e2
      have d3 := hcell 3 (by omega)
      rw [add_add] at d3
      subst e3
      have d4 := hcell 4 (by omega)
      rw [add_add] at d4
      subst e4
      refine ⟨(z0, z1, z2, z3, z4), fun j hj => ?_, by simpa [txtFeature] using sz⟩
      match j, hj with
      | 0, _ => simpa [eFeature] using d0
      | 1, _ => simpa [eFeature] using d1
      | 2, _ => simpa [eFeature] using d2
      | 3, _ => simpa [eFeature] using d3
      | 4, _ => simpa [eFeature] using d4
  obtain ⟨q, hq⟩ := choose_lt each
  refine ⟨(List.range len).map q, ⟨some a, _, by simp, by simpa using hl, hm, fun i hi => ?_⟩, fun i hi => ?_⟩
  · simp only [List.length_map, List.length_range] at hi
    obtain ⟨b, o, sp⟩ := a
    have hs : sp = none := by simpa [Addr.add] using World.cell?_spot ((hq 0 (by omega)).1 0 (by omega))
    subst hs
    refine ⟨b, o, rfl, fun j hj => ?_⟩
    rw [← add_plain, (hq i hi).1 j hj]
    simp [List.getD, hi]
  · simp only [List.length_map, List.length_range] at hi
    have e : ((List.range len).map q).getD i default = q i := by simp [List.getD, hi]
    rw [e]
    exact (hq i hi).2

theorem recNote_open {H : Type} {enc : TypeId × Value → H} {W : World} {v : Value} {fuel : Nat} {x : DataW H × List MemPlace} {P : Program} {t e ti ts : TypeId} {f0 f1 f2 f3 f4 f5 f6 : Field} (hi : P.underlying ti = some (.int .i64)) (hs : P.underlying ts = some .string) (ci : P.cellsOf ti = 1) (cst : P.cellsOf ts = 1)
    (ht : P.underlying t = some (.slice e)) (he : P.underlying e = some (.struct #[f0, f1, f2, f3, f4, f5, f6])) (ce : P.cellsOf e = 7)
    (ho : [f0.offset, f1.offset, f2.offset, f3.offset, f4.offset, f5.offset, f6.offset] = [0, 1, 2, 3, 4, 5, 6]) (hty : [f0.type, f1.type, f2.type, f3.type, f4.type, f5.type, f6.type] = [ti, ti, ti, ti, ti, ts, ti])
    (h : DataW.trod enc P W 0 (fun _ => true) true fuel t [v] = some x) : ∃ L, RNote W v L ∧ ∀ i, i < L.length → (txtNote (L.getD i default)).size ≤ maxLen := by
  simp only [List.cons.injEq, and_true] at ho hty
  obtain ⟨o0, o1, o2, o3, o4, o5, o6⟩ := ho
  obtain ⟨u0, u1, u2, u3, u4, u5, u6⟩ := hty
  rcases open_slice ht h with ⟨hcs, _⟩ | ⟨a, len, cap, m, n, D, Pl, hcs, _, hl, hm, hmm, _, hx⟩
  · simp only [List.cons.injEq, and_true] at hcs
    subst hcs
    exact ⟨[], recsIn_nil, fun i hi => by simp at hi⟩
  simp only [List.cons.injEq, and_true] at hcs
  subst hcs
  simp only [if_true] at hmm
  subst hmm
  have each : ∀ i, i < len → ∃ q : NoteT, (∀ j, j < 7 → W.cell? (a.add (i * 7 + j)) = some (eNote q j)) ∧ (txtNote q).size ≤ maxLen := by
    intro i hin
    obtain ⟨cs', h1, h2⟩ := hx i (by omega)
    rw [ce] at h1
    obtain ⟨_, hlen, hcell⟩ := World.cells?_some h1
    obtain ⟨xs, k, hk, hxy, _, hxl, hf⟩ := DataW.trod_struct he h2
    match xs, hxl, cs', hlen with
    | [y0, y1, y2, y3, y4, y5, y6], _, [v0, v1, v2, v3, v4, v5, v6], _ =>
      have g0 := hf 0 f0 rfl
      have g1 := hf 1 f1 rfl
      have g2 := hf 2 f2 rfl
      have g3 := hf 3 f3 rfl
      have g4 := hf 4 f4 rfl
      have g5 := hf 5 f5 rfl
      have g6 := hf 6 f6 rfl
      simp [o0, o1, o2, o3, o4, o5, o6, u0, u1, u2, u3, u4, u5, u6, ci, cst] at g0 g1 g2 g3 g4 g5 g6
      obtain ⟨z0, e0, _, _⟩ := DataW.trod_int hi g0
      obtain ⟨z1, e1, _, _⟩ := DataW.trod_int hi g1
      obtain ⟨z2, e2, _, _⟩ := DataW.trod_int hi g2
      obtain ⟨z3, e3, _, _⟩ := DataW.trod_int hi g3
      obtain ⟨z4, e4, _, _⟩ := DataW.trod_int hi g4
      obtain ⟨z5, e5, _, sz⟩ := DataW.trod_string hs g5
      obtain ⟨z6, e6, _, _⟩ := DataW.trod_int hi g6
      simp only [List.cons.injEq, and_true] at e0 e1 e2 e3 e4 e5 e6
      have d0 := hcell 0 (by omega)
      rw [add_add] at d0
      subst e0
      have d1 := hcell 1 (by omega)
      rw [add_add] at d1
      subst e1
      have d2 := hcell 2 (by omega)
      rw [add_add] at d2
      subst e2
      have d3 := hcell 3 (by omega)
      rw [add_add] at d3
      subst e3
      have d4 := hcell 4 (by omega)
      rw [add_add] at d4
      subst e4
      have d5 := hcell 5 (by omega)
      rw [add_add] at d5
      subst e5
      have d6 := hcell 6 (by omega)
      rw [add_add] at d6
      subst e6
      refine ⟨(z0, z1, z2, z3, z4, z5, z6), fun j hj => ?_, by simpa [txtNote] using sz⟩
      match j, hj with
      | 0, _ => simpa [eNote] using d0
      | 1, _ => simpa [eNote] using d1
      | 2, _ => simpa [eNote] using d2
      | 3, _ => simpa [eNote] using d3
      | 4, _ => simpa [eNote] using d4
      | 5, _ => simpa [eNote] using d5
      | 6, _ => simpa [eNote] using d6
  obtain ⟨q, hq⟩ := choose_lt each
  refine ⟨(List.range len).map q, ⟨some a, _, by simp, by simpa using hl, hm, fun i hi => ?_⟩, fun i hi => ?_⟩
  · simp only [List.length_map, List.length_range] at hi
    obtain ⟨b, o, sp⟩ := a
    have hs : sp = none := by simpa [Addr.add] using World.cell?_spot ((hq 0 (by omega)).1 0 (by omega))
    subst hs
    refine ⟨b, o, rfl, fun j hj => ?_⟩
    rw [← add_plain, (hq i hi).1 j hj]
    simp [List.getD, hi]
  · simp only [List.length_map, List.length_range] at hi
    have e : ((List.range len).map q).getD i default = q i := by simp [List.getD, hi]
    rw [e]
    exact (hq i hi).2

end Go.Proofs.Ytmpicamenjnkkaa

/- How a chart that came in is opened: its numbers, its depths and its features. No statement about the program stands here. -/
namespace Go.Proofs.Ytmpicamenjnkkaa
open Go.ChangeShapes Go.WideShapes Go.ChangeAt Go.RowKit Go.Deep

theorem intsM_open {H : Type} {enc : TypeId × Value → H} {W : World} {v : Value} {fuel : Nat} {x : DataW H × List MemPlace} {P : Program} {t ti : TypeId} (hi : P.underlying ti = some (.int .i64)) (ci : P.cellsOf ti = 1)
    (ht : P.underlying t = some (.slice ti)) (h : DataW.trod enc P W 0 (fun _ => true) true fuel t [v] = some x) : ∃ L, IntsIn W v L := by
  rcases open_ints ht hi ci h with ⟨hcs, _⟩ | ⟨a, len, cap, zs, hcs, _, hl, hm, hz, _, hcell, _⟩
  · simp only [List.cons.injEq, and_true] at hcs
    subst hcs
    exact ⟨[], ⟨none, 0, rfl, Nat.le_refl _, Nat.zero_le _, fun i hi => by simp at hi⟩⟩
  · simp only [List.cons.injEq, and_true] at hcs
    subst hcs
    simp only [if_true] at hz
    have hl' : (zs.take len).length = len := by rw [List.length_take]; omega
    refine ⟨zs.take len, some a, cap, by rw [hl'], by rw [hl']; exact hl, hm, fun i hi => ?_⟩
    rw [hl'] at hi
    obtain ⟨b, o, sp⟩ := a
    have hs : sp = none := by simpa [Addr.add] using World.cell?_spot (hcell 0 (by omega))
    subst hs
    refine ⟨b, o, rfl, ?_⟩
    rw [← add_plain, hcell i (by omega)]
    simp [List.getD, hi]

/-- A struct of five fields, opened field by field. -/
theorem five_open {H : Type} {enc : TypeId × Value → H} {W : World} {base : Nat} {P : Program} {t : TypeId} {f0 f1 f2 f3 f4 : Field} {v : Value} {d : DataW H} {p : List MemPlace} (hs : P.underlying t = some (.struct #[f0, f1, f2, f3, f4]))
    (ho : [f0.offset, f1.offset, f2.offset, f3.offset, f4.offset] = [0, 1, 2, 3, 4]) (hc : [P.cellsOf f0.type, P.cellsOf f1.type, P.cellsOf f2.type, P.cellsOf f3.type, P.cellsOf f4.type] = [1, 1, 1, 1, 1]) (hC : P.cellsOf t = 5)
    (hv : Value.okWide P W .any base t v) (h : DataW.Trod enc P W 0 (fun _ => true) true t v d p) :
    ∃ (v0 v1 v2 v3 v4 : Value) (y0 y1 y2 y3 y4 : DataW H × List MemPlace) (n : Nat), v = .agg #[v0, v1, v2, v3, v4] ∧
      DataW.trod enc P W 0 (fun _ => true) true n f0.type [v0] = some y0 ∧ DataW.trod enc P W 0 (fun _ => true) true n f1.type [v1] = some y1 ∧ DataW.trod enc P W 0 (fun _ => true) true n f2.type [v2] = some y2 ∧
      DataW.trod enc P W 0 (fun _ => true) true n f3.type [v3] = some y3 ∧ DataW.trod enc P W 0 (fun _ => true) true n f4.type [v4] = some y4 := by
  simp only [List.cons.injEq, and_true] at ho hc
  obtain ⟨o0, o1, o2, o3, o4⟩ := ho
  obtain ⟨c0, c1, c2, c3, c4⟩ := hc
  obtain ⟨⟨l⟩, rfl, hsz⟩ := okWide_struct hs hv
  rw [hC] at hsz
  obtain ⟨fuel, hf⟩ := h
  obtain ⟨xs, n, _, _, _, hlen, hx⟩ := DataW.trod_struct hs hf
  match l, hsz, xs, hlen with
  | [v0, v1, v2, v3, v4], _, [y0, y1, y2, y3, y4], _ =>
    have g0 := hx 0 f0 rfl
    have g1 := hx 1 f1 rfl
    have g2 := hx 2 f2 rfl
    have g3 := hx 3 f3 rfl
    have g4 := hx 4 f4 rfl
    simp [Value.cells, o0, o1, o2, o3, o4, c0, c1, c2, c3, c4] at g0 g1 g2 g3 g4
    exact ⟨v0, v1, v2, v3, v4, y0, y1, y2, y3, y4, n, rfl, g0, g1, g2, g3, g4⟩

set_option maxRecDepth 100000 in
theorem open_chart {H : Type} {enc : TypeId × Value → H} {W : World} {base : Nat} {v0 : Value} {d0 : DataW H} {p0 : List MemPlace} (hv : Value.okWide Try.prog W .any base 49 v0)
    (h0 : DataW.Trod enc Try.prog W 0 (fun _ => true) true 49 v0 d0 p0) :
    ∃ (c : Ch) (dao : Option Addr) (dn dc : Nat) (fao : Option Addr) (fn fc : Nat), v0 = vChart c.wd c.hg (.slice dao dn dc) (.slice fao fn fc) c.ed ∧ IntsIn W (.slice dao dn dc) c.D ∧ RFeature W (.slice fao fn fc) c.F ∧ ∀ i, i < c.F.length → (txtFeature (c.F.getD i default)).size ≤ maxLen := by
  obtain ⟨c0, c1, c2, c3, c4, y0, y1, y2, y3, y4, n, rfl, t0, t1, t2, t3, t4⟩ := five_open Try.underlying49 (by kernel_rfl) (by kernel_rfl) (by kernel_rfl) hv h0
  obtain ⟨wd, e0, _, _⟩ := DataW.trod_int Try.underlying3 t0
  obtain ⟨hg, e1, _, _⟩ := DataW.trod_int Try.underlying3 t1
  obtain ⟨D, hD⟩ := intsM_open Try.underlying3 Try.cellIntM Try.underlying24 t2
  obtain ⟨F, hF, hT⟩ := recFeature_open Try.underlying3 Try.underlying9 Try.cellIntM Try.cellStrM Try.underlying47 Try.underlying128 (by kernel_rfl) rfl rfl t3
  obtain ⟨ed, e4, _, _⟩ := DataW.trod_int Try.underlying3 t4
  simp only [List.cons.injEq, and_true] at e0 e1 e4
  subst e0 e1 e4
  obtain ⟨dao, dc, eD, _⟩ := id hD
  obtain ⟨fao, fc, eF, _⟩ := id hF
  subst eD eF
  exact ⟨⟨wd, hg, D, F, ed⟩, dao, D.length, dc, fao, F.length, fc, rfl, hD, hF, hT⟩

end Go.Proofs.Ytmpicamenjnkkaa

/- How an update that came in is opened, with the bound of each note's Id. Written by wip/mkopenui.py. -/
namespace Go.Proofs.Ytmpicamenjnkkaa
open Go.ChangeShapes Go.WideShapes Go.ChangeAt Go.RowKit Go.Deep

theorem recNote_openI {H : Type} {enc : TypeId × Value → H} {W : World} {v : Value} {fuel : Nat} {x : DataW H × List MemPlace} {P : Program} {t e ti ts : TypeId} {f0 f1 f2 f3 f4 f5 f6 : Field} (hi : P.underlying ti = some (.int .i64)) (hs : P.underlying ts = some .string) (ci : P.cellsOf ti = 1) (cst : P.cellsOf ts = 1)
    (ht : P.underlying t = some (.slice e)) (he : P.underlying e = some (.struct #[f0, f1, f2, f3, f4, f5, f6])) (ce : P.cellsOf e = 7)
    (ho : [f0.offset, f1.offset, f2.offset, f3.offset, f4.offset, f5.offset, f6.offset] = [0, 1, 2, 3, 4, 5, 6]) (hty : [f0.type, f1.type, f2.type, f3.type, f4.type, f5.type, f6.type] = [ti, ti, ti, ti, ti, ts, ti])
    (h : DataW.trod enc P W 0 (fun _ => true) true fuel t [v] = some x) : ∃ L, RNote W v L ∧ ∀ i, i < L.length → (txtNote (L.getD i default)).size ≤ maxLen ∧ (-9223372036854775808 ≤ (L.getD i default).2.1 ∧ (L.getD i default).2.1 ≤ 9223372036854775807) := by
  simp only [List.cons.injEq, and_true] at ho hty
  obtain ⟨o0, o1, o2, o3, o4, o5, o6⟩ := ho
  obtain ⟨u0, u1, u2, u3, u4, u5, u6⟩ := hty
  rcases open_slice ht h with ⟨hcs, _⟩ | ⟨a, len, cap, m, n, D, Pl, hcs, _, hl, hm, hmm, _, hx⟩
  · simp only [List.cons.injEq, and_true] at hcs
    subst hcs
    exact ⟨[], recsIn_nil, fun i hi => by simp at hi⟩
  simp only [List.cons.injEq, and_true] at hcs
  subst hcs
  simp only [if_true] at hmm
  subst hmm
  have each : ∀ i, i < len → ∃ q : NoteT, (∀ j, j < 7 → W.cell? (a.add (i * 7 + j)) = some (eNote q j)) ∧ (txtNote q).size ≤ maxLen ∧ (-9223372036854775808 ≤ q.2.1 ∧ q.2.1 ≤ 9223372036854775807) := by
    intro i hin
    obtain ⟨cs', h1, h2⟩ := hx i (by omega)
    rw [ce] at h1
    obtain ⟨_, hlen, hcell⟩ := World.cells?_some h1
    obtain ⟨xs, k, hk, hxy, _, hxl, hf⟩ := DataW.trod_struct he h2
    match xs, hxl, cs', hlen with
    | [y0, y1, y2, y3, y4, y5, y6], _, [v0, v1, v2, v3, v4, v5, v6], _ =>
      have g0 := hf 0 f0 rfl
      have g1 := hf 1 f1 rfl
      have g2 := hf 2 f2 rfl
      have g3 := hf 3 f3 rfl
      have g4 := hf 4 f4 rfl
      have g5 := hf 5 f5 rfl
      have g6 := hf 6 f6 rfl
      simp [o0, o1, o2, o3, o4, o5, o6, u0, u1, u2, u3, u4, u5, u6, ci, cst] at g0 g1 g2 g3 g4 g5 g6
      obtain ⟨z0, e0, _, _⟩ := DataW.trod_int hi g0
      obtain ⟨z1, e1, _, wf1⟩ := DataW.trod_int hi g1
      simp [Lit.wf, IntKind.min, IntKind.max, IntKind.bits, IntKind.signed] at wf1
      obtain ⟨z2, e2, _, _⟩ := DataW.trod_int hi g2
      obtain ⟨z3, e3, _, _⟩ := DataW.trod_int hi g3
      obtain ⟨z4, e4, _, _⟩ := DataW.trod_int hi g4
      obtain ⟨z5, e5, _, sz⟩ := DataW.trod_string hs g5
      obtain ⟨z6, e6, _, _⟩ := DataW.trod_int hi g6
      simp only [List.cons.injEq, and_true] at e0 e1 e2 e3 e4 e5 e6
      have d0 := hcell 0 (by omega)
      rw [add_add] at d0
      subst e0
      have d1 := hcell 1 (by omega)
      rw [add_add] at d1
      subst e1
      have d2 := hcell 2 (by omega)
      rw [add_add] at d2
      subst e2
      have d3 := hcell 3 (by omega)
      rw [add_add] at d3
      subst e3
      have d4 := hcell 4 (by omega)
      rw [add_add] at d4
      subst e4
      have d5 := hcell 5 (by omega)
      rw [add_add] at d5
      subst e5
      have d6 := hcell 6 (by omega)
      rw [add_add] at d6
      subst e6
      refine ⟨(z0, z1, z2, z3, z4, z5, z6), fun j hj => ?_, by simpa [txtNote] using sz, by simp only; omega⟩
      match j, hj with
      | 0, _ => simpa [eNote] using d0
      | 1, _ => simpa [eNote] using d1
      | 2, _ => simpa [eNote] using d2
      | 3, _ => simpa [eNote] using d3
      | 4, _ => simpa [eNote] using d4
      | 5, _ => simpa [eNote] using d5
      | 6, _ => simpa [eNote] using d6
  obtain ⟨q, hq⟩ := choose_lt each
  refine ⟨(List.range len).map q, ⟨some a, _, by simp, by simpa using hl, hm, fun i hi => ?_⟩, fun i hi => ?_⟩
  · simp only [List.length_map, List.length_range] at hi
    obtain ⟨b, o, sp⟩ := a
    have hs : sp = none := by simpa [Addr.add] using World.cell?_spot ((hq 0 (by omega)).1 0 (by omega))
    subst hs
    refine ⟨b, o, rfl, fun j hj => ?_⟩
    rw [← add_plain, (hq i hi).1 j hj]
    simp [List.getD, hi]
  · simp only [List.length_map, List.length_range] at hi
    have e : ((List.range len).map q).getD i default = q i := by simp [List.getD, hi]
    rw [e]
    exact (hq i hi).2

theorem notesI_open {H : Type} {enc : TypeId × Value → H} {W : World} {v : Value} {fuel : Nat} {x : DataW H × List MemPlace} (h : DataW.trod enc Try.prog W 0 (fun _ => true) true fuel 50 [v] = some x) :
    ∃ L, RNote W v L ∧ ∀ i, i < L.length → (txtNote (L.getD i default)).size ≤ maxLen ∧ (-9223372036854775808 ≤ (L.getD i default).2.1 ∧ (L.getD i default).2.1 ≤ 9223372036854775807) :=
  recNote_openI Try.underlying3 Try.underlying9 Try.cellIntM Try.cellStrM Try.underlying50 Try.underlying130 (by kernel_rfl) rfl rfl h

set_option maxRecDepth 100000 in
theorem open_updateI {H : Type} {enc : TypeId × Value → H} {W : World} {base : Nat} {v0 : Value} {d0 : DataW H} {p0 : List MemPlace} (hv : Value.okWide Try.prog W .any base 52 v0)
    (h0 : DataW.Trod enc Try.prog W 0 (fun _ => true) true 52 v0 d0 p0) :
    ∃ (ed : Int) (nao : Option Addr) (nn nc : Nat) (U : List NoteT), v0 = vUpdate ed (.slice nao nn nc) ∧ RNote W (.slice nao nn nc) U ∧ ∀ i, i < U.length → (txtNote (U.getD i default)).size ≤ maxLen ∧ (-9223372036854775808 ≤ (U.getD i default).2.1 ∧ (U.getD i default).2.1 ≤ 9223372036854775807) := by
  obtain ⟨c0, c1, y0, y1, n, rfl, _, _, t0, t1⟩ := Joins.open_agg2 Try.underlying52 (by kernel_rfl) (by kernel_rfl) hv h0
  obtain ⟨ed, e0, _, _⟩ := DataW.trod_int Try.underlying3 t0
  obtain ⟨U, hU, hT⟩ := notesI_open t1
  simp only [List.cons.injEq, and_true] at e0
  subst e0
  obtain ⟨nao, nc, eN, _⟩ := id hU
  subst eN
  exact ⟨ed, nao, U.length, nc, U, rfl, hU, hT⟩

end Go.Proofs.Ytmpicamenjnkkaa

/- How a list of updates that came in is opened, with the bound of each note's Id. Written by wip/mkholdcat.py. -/
namespace Go.Proofs.Ytmpicamenjnkkaa
open Go.ChangeShapes Go.WideShapes Go.ChangeAt Go.RowKit Go.Deep

set_option maxRecDepth 100000 in
theorem upsI_open {H : Type} {enc : TypeId × Value → H} {W : World} {v : Value} {fuel : Nat} {x : DataW H × List MemPlace} (h : DataW.trod enc Try.prog W 0 (fun _ => true) true fuel 62 [v] = some x) :
    ∃ L, UpsIn W v L ∧ ∀ i, i < L.length → ∀ j, j < (L.getD i default).2.length → (txtNote ((L.getD i default).2.getD j default)).size ≤ maxLen ∧ (-9223372036854775808 ≤ ((L.getD i default).2.getD j default).2.1 ∧ ((L.getD i default).2.getD j default).2.1 ≤ 9223372036854775807) := by
  have ce : Try.prog.cellsOf 52 = 2 := by kernel_rfl
  have cn : Try.prog.cellsOf 50 = 1 := by kernel_rfl
  rcases open_slice Try.underlying62 h with ⟨hcs, _⟩ | ⟨a, len, cap, m, n, D, Pl, hcs, _, hl, hm, hmm, _, hx⟩
  · simp only [List.cons.injEq, and_true] at hcs
    subst hcs
    exact ⟨[], upsIn_nil, fun i hi => by simp at hi⟩
  simp only [List.cons.injEq, and_true] at hcs
  subst hcs
  simp only [if_true] at hmm
  subst hmm
  have each : ∀ i, i < len → ∃ q : UpT, (W.cell? (a.add (i * 2)) = some (.int .i64 q.1) ∧ ∃ na nc, W.cell? (a.add (i * 2 + 1)) = some (.slice na q.2.length nc) ∧ RNote W (.slice na q.2.length nc) q.2) ∧ ∀ j, j < q.2.length → (txtNote (q.2.getD j default)).size ≤ maxLen ∧ (-9223372036854775808 ≤ (q.2.getD j default).2.1 ∧ (q.2.getD j default).2.1 ≤ 9223372036854775807) := by
    intro i hin
    obtain ⟨cs', h1, h2⟩ := hx i (by omega)
    rw [ce] at h1
    obtain ⟨_, hlen, hcell⟩ := World.cells?_some h1
    obtain ⟨xs, k, hk, hxy, _, hxl, hf⟩ := DataW.trod_struct Try.underlying52 h2
    match xs, hxl, cs', hlen with
    | [y0, y1], _, [v0, v1], _ =>
      have g0 := hf 0 _ rfl
      have g1 := hf 1 _ rfl
      simp [Try.cellIntM, cn] at g0 g1
      obtain ⟨ed, e0, _, _⟩ := DataW.trod_int Try.underlying3 g0
      obtain ⟨U, hU, hT⟩ := notesI_open g1
      simp only [List.cons.injEq, and_true] at e0
      have d0 := hcell 0 (by omega)
      have d1 := hcell 1 (by omega)
      rw [add_add] at d0 d1
      subst e0
      obtain ⟨na, nc, eN, _⟩ := id hU
      subst eN
      exact ⟨(ed, U), ⟨by simpa using d0, na, nc, by simpa using d1, hU⟩, hT⟩
  obtain ⟨q, hq⟩ := choose_lt each
  have eq : ∀ i, i < len → ((List.range len).map q).getD i default = q i := fun i hi => by simp [List.getD, hi]
  refine ⟨(List.range len).map q, ⟨some a, _, by simp, by simpa using hl, hm, fun i hi => ?_⟩, fun i hi => ?_⟩
  · simp only [List.length_map, List.length_range] at hi
    obtain ⟨b, o, sp⟩ := a
    have hs : sp = none := by simpa [Addr.add] using World.cell?_spot (hq 0 (by omega)).1.1
    subst hs
    rw [eq i hi]
    obtain ⟨⟨c0, na, nc, c1, hU⟩, _⟩ := hq i hi
    rw [add_plain] at c0 c1
    exact ⟨b, o, na, nc, rfl, c0, by rw [Nat.add_assoc]; exact c1, hU⟩
  · simp only [List.length_map, List.length_range] at hi
    rw [eq i hi]
    exact (hq i hi).2

end Go.Proofs.Ytmpicamenjnkkaa

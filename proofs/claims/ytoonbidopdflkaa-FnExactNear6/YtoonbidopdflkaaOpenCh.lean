/- How a chart that came in is opened: its numbers, its depths and its features. No statement about the program stands here. -/
import Derived.Test.YtoonbidopdflkaaOpenRm
import Derived.Test.YtoonbidopdflkaaChB
namespace Go.Proofs.Ytoonbidopdflkaa
open Go.ChangeShapes Go.WideShapes Go.ChangeAt Go.RowKit Go.Deep

theorem intsM_open {H : Type} {enc : TypeId × Value → H} {W : World} {v : Value} {fuel : Nat} {x : DataW H × List MemPlace} {P : Program} {t ti : TypeId} (hi : P.underlying ti = some (.int .i64)) (ci : P.cellsOf ti = 1)
    (ht : P.underlying t = some (.slice ti)) (h : DataW.trod enc P W 0 (fun _ => true) true fuel t [v] = some x) : ∃ L, IntsIn W v L := by
  rcases open_ints ht hi ci h with ⟨hcs, _⟩ | ⟨a, len, cap, zs, hcs, _, hl, hm, hz, _, hcell, _⟩
  · simp only [List.cons.injEq, and_true] at hcs
    subst hcs
    exact ⟨[], ⟨none, 0, rfl, Nat.le_refl _, Nat.zero_le _, fun i hi => by simp at hi⟩⟩
  · simp only [List.cons.injEq, and_true] at hcs
    subst hcs
    simp only [if_true] at hz
    have hl' : (zs.take len).length = len := by rw [List.length_take]; omega
    refine ⟨zs.take len, some a, cap, by rw [hl'], by rw [hl']; exact hl, hm, fun i hi => ?_⟩
    rw [hl'] at hi
    obtain ⟨b, o, sp⟩ := a
    have hs : sp = none := by simpa [Addr.add] using World.cell?_spot (hcell 0 (by omega))
    subst hs
    refine ⟨b, o, rfl, ?_⟩
    rw [← add_plain, hcell i (by omega)]
    simp [List.getD, hi]

/-- A struct of five fields, opened field by field. -/
theorem five_open {H : Type} {enc : TypeId × Value → H} {W : World} {base : Nat} {P : Program} {t : TypeId} {f0 f1 f2 f3 f4 : Field} {v : Value} {d : DataW H} {p : List MemPlace} (hs : P.underlying t = some (.struct #[f0, f1, f2, f3, f4]))
    (ho : [f0.offset, f1.offset, f2.offset, f3.offset, f4.offset] = [0, 1, 2, 3, 4]) (hc : [P.cellsOf f0.type, P.cellsOf f1.type, P.cellsOf f2.type, P.cellsOf f3.type, P.cellsOf f4.type] = [1, 1, 1, 1, 1]) (hC : P.cellsOf t = 5)
    (hv : Value.okWide P W .any base t v) (h : DataW.Trod enc P W 0 (fun _ => true) true t v d p) :
    ∃ (v0 v1 v2 v3 v4 : Value) (y0 y1 y2 y3 y4 : DataW H × List MemPlace) (n : Nat), v = .agg #[v0, v1, v2, v3, v4] ∧
      DataW.trod enc P W 0 (fun _ => true) true n f0.type [v0] = some y0 ∧ DataW.trod enc P W 0 (fun _ => true) true n f1.type [v1] = some y1 ∧ DataW.trod enc P W 0 (fun _ => true) true n f2.type [v2] = some y2 ∧
      DataW.trod enc P W 0 (fun _ => true) true n f3.type [v3] = some y3 ∧ DataW.trod enc P W 0 (fun _ => true) true n f4.type [v4] = some y4 := by
  simp only [List.cons.injEq, and_true] at ho hc
  obtain ⟨o0, o1, o2, o3, o4⟩ := ho
  obtain ⟨c0, c1, c2, c3, c4⟩ := hc
  obtain ⟨⟨l⟩, rfl, hsz⟩ := okWide_struct hs hv
  rw [hC] at hsz
  obtain ⟨fuel, hf⟩ := h
  obtain ⟨xs, n, _, _, _, hlen, hx⟩ := DataW.trod_struct hs hf
  match l, hsz, xs, hlen with
  | [v0, v1, v2, v3, v4], _, [y0, y1, y2, y3, y4], _ =>
    have g0 := hx 0 f0 rfl
    have g1 := hx 1 f1 rfl
    have g2 := hx 2 f2 rfl
    have g3 := hx 3 f3 rfl
    have g4 := hx 4 f4 rfl
    simp [Value.cells, o0, o1, o2, o3, o4, c0, c1, c2, c3, c4] at g0 g1 g2 g3 g4
    exact ⟨v0, v1, v2, v3, v4, y0, y1, y2, y3, y4, n, rfl, g0, g1, g2, g3, g4⟩

set_option maxRecDepth 100000 in
theorem open_chart {H : Type} {enc : TypeId × Value → H} {W : World} {base : Nat} {v0 : Value} {d0 : DataW H} {p0 : List MemPlace} (hv : Value.okWide Try.prog W .any base 49 v0)
    (h0 : DataW.Trod enc Try.prog W 0 (fun _ => true) true 49 v0 d0 p0) :
    ∃ (c : Ch) (dao : Option Addr) (dn dc : Nat) (fao : Option Addr) (fn fc : Nat), v0 = vChart c.wd c.hg (.slice dao dn dc) (.slice fao fn fc) c.ed ∧ IntsIn W (.slice dao dn dc) c.D ∧ RFeature W (.slice fao fn fc) c.F ∧ ∀ i, i < c.F.length → (txtFeature (c.F.getD i default)).size ≤ maxLen := by
  obtain ⟨c0, c1, c2, c3, c4, y0, y1, y2, y3, y4, n, rfl, t0, t1, t2, t3, t4⟩ := five_open Try.underlying49 (by kernel_rfl) (by kernel_rfl) (by kernel_rfl) hv h0
  obtain ⟨wd, e0, _, _⟩ := DataW.trod_int Try.underlying3 t0
  obtain ⟨hg, e1, _, _⟩ := DataW.trod_int Try.underlying3 t1
  obtain ⟨D, hD⟩ := intsM_open Try.underlying3 Try.cellIntM Try.underlying24 t2
  obtain ⟨F, hF, hT⟩ := recFeature_open Try.underlying3 Try.underlying9 Try.cellIntM Try.cellStrM Try.underlying47 Try.underlying133 (by kernel_rfl) rfl rfl t3
  obtain ⟨ed, e4, _, _⟩ := DataW.trod_int Try.underlying3 t4
  simp only [List.cons.injEq, and_true] at e0 e1 e4
  subst e0 e1 e4
  obtain ⟨dao, dc, eD, _⟩ := id hD
  obtain ⟨fao, fc, eF, _⟩ := id hF
  subst eD eF
  exact ⟨⟨wd, hg, D, F, ed⟩, dao, D.length, dc, fao, F.length, fc, rfl, hD, hF, hT⟩

end Go.Proofs.Ytoonbidopdflkaa

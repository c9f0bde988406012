/- How a sea that came in is opened: its numbers, its costs and what is closed. No statement about the program stands here. -/
import Derived.Test.YtdpcacfgbjllhaaOpenRs
import Derived.Test.YtdpcacfgbjllhaaSeB
namespace Go.Proofs.Ytdpcacfgbjllhaa
open Go.ChangeShapes Go.WideShapes Go.ChangeAt Go.RowKit Go.Deep

theorem intsS_open {H : Type} {enc : TypeId × Value → H} {W : World} {v : Value} {fuel : Nat} {x : DataW H × List MemPlace} {P : Program} {t ti : TypeId} (hi : P.underlying ti = some (.int .i64)) (ci : P.cellsOf ti = 1)
    (ht : P.underlying t = some (.slice ti)) (h : DataW.trod enc P W 0 (fun _ => true) true fuel t [v] = some x) : ∃ L, IntsIn W v L ∧ ∀ i, i < L.length → -9223372036854775808 ≤ L.getD i 0 ∧ L.getD i 0 ≤ 9223372036854775807 := by
  rcases open_ints ht hi ci h with ⟨hcs, _⟩ | ⟨a, len, cap, zs, hcs, _, hl, hm, hz, _, hcell, hwf⟩
  · simp only [List.cons.injEq, and_true] at hcs
    subst hcs
    exact ⟨[], ⟨none, 0, rfl, Nat.le_refl _, Nat.zero_le _, fun i hi => by simp at hi⟩, fun i hi => by simp at hi⟩
  · simp only [List.cons.injEq, and_true] at hcs
    subst hcs
    simp only [if_true] at hz
    have hl' : (zs.take len).length = len := by rw [List.length_take]; omega
    have hg : ∀ i, i < len → (zs.take len).getD i 0 = zs.getD i 0 := fun i hi => by simp [List.getD, hi]
    refine ⟨zs.take len, ⟨some a, cap, by rw [hl'], by rw [hl']; exact hl, hm, fun i hi => ?_⟩, fun i hi => ?_⟩
    · rw [hl'] at hi
      obtain ⟨b, o, sp⟩ := a
      have hs : sp = none := by simpa [Addr.add] using World.cell?_spot (hcell 0 (by omega))
      subst hs
      refine ⟨b, o, rfl, ?_⟩
      rw [← add_plain, hcell i (by omega), hg i hi]
    · rw [hl'] at hi
      rw [hg i hi]
      have hm' : zs.getD i 0 ∈ zs := by rw [getD_lt (show i < zs.length by omega)]; exact List.getElem_mem _
      have := hwf _ hm'
      clear hg hwf hcell hm'
      generalize zs.getD i 0 = y at *
      simp [Lit.wf, IntKind.min, IntKind.max, IntKind.bits, IntKind.signed] at this
      omega

/-- A struct of four fields, opened field by field. -/
theorem four_open {H : Type} {enc : TypeId × Value → H} {W : World} {base : Nat} {P : Program} {t : TypeId} {f0 f1 f2 f3 : Field} {v : Value} {d : DataW H} {p : List MemPlace} (hs : P.underlying t = some (.struct #[f0, f1, f2, f3]))
    (ho : [f0.offset, f1.offset, f2.offset, f3.offset] = [0, 1, 2, 3]) (hc : [P.cellsOf f0.type, P.cellsOf f1.type, P.cellsOf f2.type, P.cellsOf f3.type] = [1, 1, 1, 1]) (hC : P.cellsOf t = 4)
    (hv : Value.okWide P W .any base t v) (h : DataW.Trod enc P W 0 (fun _ => true) true t v d p) :
    ∃ (v0 v1 v2 v3 : Value) (y0 y1 y2 y3 : DataW H × List MemPlace) (n : Nat), v = .agg #[v0, v1, v2, v3] ∧
      DataW.trod enc P W 0 (fun _ => true) true n f0.type [v0] = some y0 ∧ DataW.trod enc P W 0 (fun _ => true) true n f1.type [v1] = some y1 ∧ DataW.trod enc P W 0 (fun _ => true) true n f2.type [v2] = some y2 ∧
      DataW.trod enc P W 0 (fun _ => true) true n f3.type [v3] = some y3 := by
  simp only [List.cons.injEq, and_true] at ho hc
  obtain ⟨o0, o1, o2, o3⟩ := ho
  obtain ⟨c0, c1, c2, c3⟩ := hc
  obtain ⟨⟨l⟩, rfl, hsz⟩ := okWide_struct hs hv
  rw [hC] at hsz
  obtain ⟨fuel, hf⟩ := h
  obtain ⟨xs, n, _, _, _, hlen, hx⟩ := DataW.trod_struct hs hf
  match l, hsz, xs, hlen with
  | [v0, v1, v2, v3], _, [y0, y1, y2, y3], _ =>
    have g0 := hx 0 f0 rfl
    have g1 := hx 1 f1 rfl
    have g2 := hx 2 f2 rfl
    have g3 := hx 3 f3 rfl
    simp [Value.cells, o0, o1, o2, o3, c0, c1, c2, c3] at g0 g1 g2 g3
    exact ⟨v0, v1, v2, v3, y0, y1, y2, y3, n, rfl, g0, g1, g2, g3⟩

set_option maxRecDepth 100000 in
theorem open_sea {H : Type} {enc : TypeId × Value → H} {W : World} {base : Nat} {v0 : Value} {d0 : DataW H} {p0 : List MemPlace} (hv : Value.okWide Try.prog W .any base 42 v0)
    (h0 : DataW.Trod enc Try.prog W 0 (fun _ => true) true 42 v0 d0 p0) :
    ∃ (s : Se) (dao : Option Addr) (dn dc : Nat) (fao : Option Addr) (fn fc : Nat), v0 = vSea s.wd s.hg (.slice dao dn dc) (.slice fao fn fc) ∧ IntsIn W (.slice dao dn dc) s.D ∧ RClosed W (.slice fao fn fc) s.F := by
  obtain ⟨c0, c1, c2, c3, y0, y1, y2, y3, n, rfl, t0, t1, t2, t3⟩ := four_open Try.underlying42 (by kernel_rfl) (by kernel_rfl) (by kernel_rfl) hv h0
  obtain ⟨wd, e0, _, _⟩ := DataW.trod_int Try.underlying3 t0
  obtain ⟨hg, e1, _, _⟩ := DataW.trod_int Try.underlying3 t1
  obtain ⟨D, hD, -⟩ := intsS_open Try.underlying3 Try.cellIntM Try.underlying24 t2
  obtain ⟨F, hF, -⟩ := recClosed_open Try.underlying3 Try.underlying9 Try.cellIntM Try.cellStrM Try.underlying40 Try.underlying99 (by kernel_rfl) rfl rfl t3
  simp only [List.cons.injEq, and_true] at e0 e1
  subst e0 e1
  obtain ⟨dao, dc, eD, _⟩ := id hD
  obtain ⟨fao, fc, eF, _⟩ := id hF
  subst eD eF
  exact ⟨⟨wd, hg, D, F⟩, dao, D.length, dc, fao, F.length, fc, rfl, hD, hF⟩

set_option maxRecDepth 100000 in
theorem open_intsS {H : Type} {enc : TypeId × Value → H} {W : World} {base : Nat} {v0 : Value} {d0 : DataW H} {p0 : List MemPlace} (hv : Value.okWide Try.prog W .any base 24 v0)
    (h0 : DataW.Trod enc Try.prog W 0 (fun _ => true) true 24 v0 d0 p0) :
    ∃ (M : List Int) (mao : Option Addr) (mc : Nat), v0 = .slice mao M.length mc ∧ IntsIn W (.slice mao M.length mc) M ∧ ∀ i, i < M.length → -9223372036854775808 ≤ M.getD i 0 ∧ M.getD i 0 ≤ 9223372036854775807 := by
  obtain ⟨a, len, cap, rfl⟩ := okWide_slice Try.underlying24 hv
  obtain ⟨fuel, hf⟩ := h0
  obtain ⟨M, hM, hb⟩ := intsS_open Try.underlying3 Try.cellIntM Try.underlying24 hf
  obtain ⟨mao, mc, e, _⟩ := id hM
  rw [e] at hM ⊢
  exact ⟨M, mao, mc, rfl, hM, hb⟩

end Go.Proofs.Ytdpcacfgbjllhaa

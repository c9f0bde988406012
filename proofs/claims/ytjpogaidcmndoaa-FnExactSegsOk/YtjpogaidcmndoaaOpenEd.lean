/- How segments that came in are opened. By hand. No statement about the program stands here. -/
import Derived.Test.YtjpogaidcmndoaaOpenPt
import Derived.Test.YtjpogaidcmndoaaEdA
namespace Go.Proofs.Ytjpogaidcmndoaa
open Go.ChangeShapes Go.WideShapes Go.ChangeAt Go.RowKit Go.Deep

set_option maxRecDepth 100000 in
theorem strss_open {H : Type} {enc : TypeId × Value → H} {W : World} {v : Value} {fuel : Nat} {x : DataW H × List MemPlace} (h : DataW.trod enc Try.prog W 0 (fun _ => true) true fuel 31 [v] = some x) : ∃ P, SsIn W v P ∧ TxSs P := by
  have cn : Try.prog.cellsOf 34 = 1 := by kernel_rfl
  rcases open_slice Try.underlying31 h with ⟨hcs, _⟩ | ⟨a, len, cap, m, n, D, Pl, hcs, _, hl, hm, hmm, _, hx⟩
  · simp only [List.cons.injEq, and_true] at hcs
    subst hcs
    exact ⟨[], ssIn_nil, fun i hi => by simp at hi⟩
  simp only [List.cons.injEq, and_true] at hcs
  subst hcs
  simp only [if_true] at hmm
  subst hmm
  have each : ∀ i, i < len → ∃ q : List ByteArray, (∃ na nc, W.cell? (a.add i) = some (.slice na q.length nc) ∧ SIn W (.slice na q.length nc) q) ∧ ∀ j, j < q.length → (q.getD j default).size ≤ maxLen := by
    intro i hin
    obtain ⟨cs', h1, h2⟩ := hx i (by omega)
    rw [cn] at h1
    obtain ⟨_, hlen, hcell⟩ := World.cells?_some h1
    match cs', hlen with
    | [v0], _ =>
      obtain ⟨M, hM, hT⟩ := strs_open h2
      have d := hcell 0 (by omega)
      rw [add_add] at d
      obtain ⟨na, nc, eN, _⟩ := _root_.id hM
      subst eN
      exact ⟨M, ⟨na, nc, by simpa [cn] using d, hM⟩, hT⟩
  obtain ⟨q, hq⟩ := choose_lt each
  have eq : ∀ i, i < len → ((List.range len).map q).getD i default = q i := fun i hi => by simp [List.getD, hi]
  refine ⟨(List.range len).map q, ⟨some a, _, by simp, by simpa using hl, hm, fun i hi => ?_⟩, fun i hi => ?_⟩
  · simp only [List.length_map, List.length_range] at hi
    obtain ⟨b, o, sp⟩ := a
    have hs : sp = none := by
      obtain ⟨⟨na, nc, c, _⟩, _⟩ := hq 0 (by omega)
      simpa [Addr.add] using World.cell?_spot c
    subst hs
    rw [eq i hi]
    obtain ⟨⟨na, nc, c, hU⟩, _⟩ := hq i hi
    rw [add_plain] at c
    exact ⟨b, o, na, nc, rfl, c, hU⟩
  · simp only [List.length_map, List.length_range] at hi
    rw [eq i hi]
    exact (hq i hi).2

set_option maxRecDepth 100000 in
theorem segs_open {H : Type} {enc : TypeId × Value → H} {W : World} {v : Value} {fuel : Nat} {x : DataW H × List MemPlace} (h : DataW.trod enc Try.prog W 0 (fun _ => true) true fuel 36 [v] = some x) : ∃ L, SgsIn W v L ∧ TxSg L := by
  have ce : Try.prog.cellsOf 64 = 2 := by kernel_rfl
  have cn : Try.prog.cellsOf 31 = 1 := by kernel_rfl
  rcases open_slice Try.underlying36 h with ⟨hcs, _⟩ | ⟨a, len, cap, m, n, D, Pl, hcs, _, hl, hm, hmm, _, hx⟩
  · simp only [List.cons.injEq, and_true] at hcs
    subst hcs
    exact ⟨[], sgsIn_nil, fun i hi => by simp at hi⟩
  simp only [List.cons.injEq, and_true] at hcs
  subst hcs
  simp only [if_true] at hmm
  subst hmm
  have each : ∀ i, i < len → ∃ q : SegT, (W.cell? (a.add (i * 2)) = some (.string q.1) ∧ ∃ na nc, W.cell? (a.add (i * 2 + 1)) = some (.slice na q.2.length nc) ∧ SsIn W (.slice na q.2.length nc) q.2) ∧ q.1.size ≤ maxLen ∧ TxSs q.2 := by
    intro i hin
    obtain ⟨cs', h1, h2⟩ := hx i (by omega)
    rw [ce] at h1
    obtain ⟨_, hlen, hcell⟩ := World.cells?_some h1
    obtain ⟨xs, k, hk, hxy, _, hxl, hf⟩ := DataW.trod_struct Try.underlying64 h2
    match xs, hxl, cs', hlen with
    | [y0, y1], _, [v0, v1], _ =>
      have g0 := hf 0 _ rfl
      have g1 := hf 1 _ rfl
      simp [Try.cellStrM, cn] at g0 g1
      obtain ⟨z0, e0, _, s0⟩ := DataW.trod_string Try.underlying9 g0
      obtain ⟨M, hM, hT⟩ := strss_open g1
      simp only [List.cons.injEq, and_true] at e0
      have d0 := hcell 0 (by omega)
      have d1 := hcell 1 (by omega)
      rw [add_add] at d0 d1
      subst e0
      obtain ⟨na, nc, eN, _⟩ := _root_.id hM
      subst eN
      exact ⟨(_, M), ⟨by simpa using d0, na, nc, by simpa using d1, hM⟩, s0, hT⟩
  obtain ⟨q, hq⟩ := choose_lt each
  have eq : ∀ i, i < len → ((List.range len).map q).getD i default = q i := fun i hi => by simp [List.getD, hi]
  refine ⟨(List.range len).map q, ⟨some a, _, by simp, by simpa using hl, hm, fun i hi => ?_⟩, fun i hi => ?_⟩
  · simp only [List.length_map, List.length_range] at hi
    obtain ⟨b, o, sp⟩ := a
    have hs : sp = none := by simpa [Addr.add] using World.cell?_spot (hq 0 (by omega)).1.1
    subst hs
    rw [eq i hi]
    obtain ⟨⟨c0, na, nc, c1, hU⟩, _⟩ := hq i hi
    rw [add_plain] at c0 c1
    exact ⟨b, o, na, nc, rfl, c0, by rw [Nat.add_assoc]; exact c1, hU⟩
  · simp only [List.length_map, List.length_range] at hi
    rw [eq i hi]
    exact (hq i hi).2

set_option maxRecDepth 100000 in
theorem open_segs {H : Type} {enc : TypeId × Value → H} {W : World} {base : Nat} {v0 : Value} {d0 : DataW H} {p0 : List MemPlace} (hv : Value.okWide Try.prog W .any base 36 v0)
    (h0 : DataW.Trod enc Try.prog W 0 (fun _ => true) true 36 v0 d0 p0) : ∃ L, SgsIn W v0 L ∧ TxSg L := by
  obtain ⟨a0, len0, cap0, rfl⟩ := okWide_slice Try.underlying36 hv
  obtain ⟨fuel, hf⟩ := h0
  exact segs_open hf

end Go.Proofs.Ytjpogaidcmndoaa

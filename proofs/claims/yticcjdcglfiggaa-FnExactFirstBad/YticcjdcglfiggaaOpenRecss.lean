/- How a slice of slices of flat structs of three whole numbers that came in is opened. -/
import Derived.Test.YticcjdcglfiggaaRecss
import Derived.Test.YticcjdcglfiggaaOpenRecs
namespace Go.Proofs.Yticcjdcglfiggaa
open Go.ChangeShapes Go.WideShapes Go.ChangeAt Go.RowKit Go.Deep

theorem recss3_open {H : Type} {enc : TypeId × Value → H} {W : World} {v : Value} {fuel : Nat} {x : DataW H × List MemPlace} {P : Program} {t s e ti : TypeId} {f0 f1 f2 : Field} (hi : P.underlying ti = some (.int .i64)) (ci : P.cellsOf ti = 1)
    (ht : P.underlying t = some (.slice s)) (cs : P.cellsOf s = 1) (hs : P.underlying s = some (.slice e)) (he : P.underlying e = some (.struct #[f0, f1, f2])) (ce : P.cellsOf e = 3)
    (ho : [f0.offset, f1.offset, f2.offset] = [0, 1, 2]) (hty : [f0.type, f1.type, f2.type] = [ti, ti, ti])
    (h : DataW.trod enc P W 0 (fun _ => true) true fuel t [v] = some x) : ∃ L, RR3 W v L := by
  rcases open_slice ht h with ⟨hcs, _⟩ | ⟨a, len, cap, m, n, D, Pl, hcs, _, hl, hm, hmm, _, hx⟩
  · simp only [List.cons.injEq, and_true] at hcs
    subst hcs
    exact ⟨[], none, 0, rfl, Nat.le_refl _, Nat.zero_le _, fun r hr => by simp at hr⟩
  simp only [List.cons.injEq, and_true] at hcs
  subst hcs
  simp only [if_true] at hmm
  subst hmm
  have each : ∀ i, i < len → ∃ q : Value × List I3, W.cell? (a.add i) = some q.1 ∧ R3 W q.1 q.2 := by
    intro i hin
    obtain ⟨cs', h1, h2⟩ := hx i (by omega)
    rw [cs, Nat.mul_one] at h1
    obtain ⟨_, hlen, hcell⟩ := World.cells?_some h1
    match cs', hlen with
    | [c], _ =>
      obtain ⟨L, hL⟩ := recs3_open hi ci hs he ce ho hty h2
      have d0 := hcell 0 (by omega)
      rw [add_add] at d0
      exact ⟨(c, L), by simpa using d0, hL⟩
  obtain ⟨q, hq⟩ := choose_lt each
  refine ⟨(List.range len).map fun i => (q i).2, some a, _, by simp, by simpa using hl, hm, fun i hi' => ?_⟩
  simp only [List.length_map, List.length_range] at hi'
  obtain ⟨b, o, sp⟩ := a
  have hsp : sp = none := by simpa [Addr.add] using World.cell?_spot (hq 0 (by omega)).1
  subst hsp
  refine ⟨b, o, (q i).1, rfl, ?_, ?_⟩
  · rw [← add_plain]; exact (hq i hi').1
  · have e : ((List.range len).map fun i => (q i).2).getD i [] = (q i).2 := by simp [List.getD, hi']
    rw [e]
    exact (hq i hi').2

end Go.Proofs.Yticcjdcglfiggaa

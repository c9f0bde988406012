/- How a slice of flat structs of whole numbers that came in is opened. Written by wip/mkopen.py. -/
import Derived.Test.YticcjdcglfiggaaRecs
import Derived.Test.YticcjdcglfiggaaOpen
namespace Go.Proofs.Yticcjdcglfiggaa
open Go.ChangeShapes Go.WideShapes Go.ChangeAt Go.RowKit Go.Deep

theorem recs2_open {H : Type} {enc : TypeId × Value → H} {W : World} {v : Value} {fuel : Nat} {x : DataW H × List MemPlace} {P : Program} {t e ti : TypeId} {f0 f1 : Field} (hi : P.underlying ti = some (.int .i64)) (ci : P.cellsOf ti = 1)
    (ht : P.underlying t = some (.slice e)) (he : P.underlying e = some (.struct #[f0, f1])) (ce : P.cellsOf e = 2)
    (ho : [f0.offset, f1.offset] = [0, 1]) (hty : [f0.type, f1.type] = [ti, ti])
    (h : DataW.trod enc P W 0 (fun _ => true) true fuel t [v] = some x) : ∃ L, R2 W v L := by
  simp only [List.cons.injEq, and_true] at ho hty
  obtain ⟨o0, o1⟩ := ho
  obtain ⟨u0, u1⟩ := hty
  rcases open_slice ht h with ⟨hcs, _⟩ | ⟨a, len, cap, m, n, D, Pl, hcs, _, hl, hm, hmm, _, hx⟩
  · simp only [List.cons.injEq, and_true] at hcs
    subst hcs
    exact ⟨[], recsIn_nil⟩
  simp only [List.cons.injEq, and_true] at hcs
  subst hcs
  simp only [if_true] at hmm
  subst hmm
  have each : ∀ i, i < len → ∃ q : I2, ∀ j, j < 2 → W.cell? (a.add (i * 2 + j)) = some (e2 q j) := by
    intro i hin
    obtain ⟨cs', h1, h2⟩ := hx i (by omega)
    rw [ce] at h1
    obtain ⟨_, hlen, hcell⟩ := World.cells?_some h1
    obtain ⟨xs, k, hk, hxy, _, hxl, hf⟩ := DataW.trod_struct he h2
    match xs, hxl, cs', hlen with
    | [y0, y1], _, [v0, v1], _ =>
      have g0 := hf 0 f0 rfl
      have g1 := hf 1 f1 rfl
      simp [o0, o1, u0, u1, ci] at g0 g1
      obtain ⟨z0, e0, _, _⟩ := DataW.trod_int hi g0
      obtain ⟨z1, e1, _, _⟩ := DataW.trod_int hi g1
      simp only [List.cons.injEq, and_true] at e0 e1
      have d0 := hcell 0 (by omega)
      rw [add_add] at d0
      subst e0
      have d1 := hcell 1 (by omega)
      rw [add_add] at d1
      subst e1
      refine ⟨(z0, z1), fun j hj => ?_⟩
      match j, hj with
      | 0, _ => simpa [e2] using d0
      | 1, _ => simpa [e2] using d1
  obtain ⟨q, hq⟩ := choose_lt each
  refine ⟨(List.range len).map q, some a, _, by simp, by simpa using hl, hm, fun i hi => ?_⟩
  simp only [List.length_map, List.length_range] at hi
  obtain ⟨b, o, sp⟩ := a
  have hs : sp = none := by simpa [Addr.add] using World.cell?_spot (hq 0 (by omega) 0 (by omega))
  subst hs
  refine ⟨b, o, rfl, fun j hj => ?_⟩
  rw [← add_plain, hq i hi j hj]
  simp [List.getD, hi]

theorem recs3_open {H : Type} {enc : TypeId × Value → H} {W : World} {v : Value} {fuel : Nat} {x : DataW H × List MemPlace} {P : Program} {t e ti : TypeId} {f0 f1 f2 : Field} (hi : P.underlying ti = some (.int .i64)) (ci : P.cellsOf ti = 1)
    (ht : P.underlying t = some (.slice e)) (he : P.underlying e = some (.struct #[f0, f1, f2])) (ce : P.cellsOf e = 3)
    (ho : [f0.offset, f1.offset, f2.offset] = [0, 1, 2]) (hty : [f0.type, f1.type, f2.type] = [ti, ti, ti])
    (h : DataW.trod enc P W 0 (fun _ => true) true fuel t [v] = some x) : ∃ L, R3 W v L := by
  simp only [List.cons.injEq, and_true] at ho hty
  obtain ⟨o0, o1, o2⟩ := ho
  obtain ⟨u0, u1, u2⟩ := hty
  rcases open_slice ht h with ⟨hcs, _⟩ | ⟨a, len, cap, m, n, D, Pl, hcs, _, hl, hm, hmm, _, hx⟩
  · simp only [List.cons.injEq, and_true] at hcs
    subst hcs
    exact ⟨[], recsIn_nil⟩
  simp only [List.cons.injEq, and_true] at hcs
  subst hcs
  simp only [if_true] at hmm
  subst hmm
  have each : ∀ i, i < len → ∃ q : I3, ∀ j, j < 3 → W.cell? (a.add (i * 3 + j)) = some (e3 q j) := by
    intro i hin
    obtain ⟨cs', h1, h2⟩ := hx i (by omega)
    rw [ce] at h1
    obtain ⟨_, hlen, hcell⟩ := World.cells?_some h1
    obtain ⟨xs, k, hk, hxy, _, hxl, hf⟩ := DataW.trod_struct he h2
    match xs, hxl, cs', hlen with
    | [y0, y1, y2], _, [v0, v1, v2], _ =>
      have g0 := hf 0 f0 rfl
      have g1 := hf 1 f1 rfl
      have g2 := hf 2 f2 rfl
      simp [o0, o1, o2, u0, u1, u2, ci] at g0 g1 g2
      obtain ⟨z0, e0, _, _⟩ := DataW.trod_int hi g0
      obtain ⟨z1, e1, _, _⟩ := DataW.trod_int hi g1
      obtain ⟨z2, e2, _, _⟩ := DataW.trod_int hi g2
      simp only [List.cons.injEq, and_true] at e0 e1 e2
      have d0 := hcell 0 (by omega)
      rw [add_add] at d0
      subst e0
      have d1 := hcell 1 (by omega)
      rw [add_add] at d1
      subst e1
      have d2 := hcell 2 (by omega)
      rw [add_add] at d2
      subst e2
      refine ⟨(z0, z1, z2), fun j hj => ?_⟩
      match j, hj with
      | 0, _ => simpa [e3] using d0
      | 1, _ => simpa [e3] using d1
      | 2, _ => simpa [e3] using d2
  obtain ⟨q, hq⟩ := choose_lt each
  refine ⟨(List.range len).map q, some a, _, by simp, by simpa using hl, hm, fun i hi => ?_⟩
  simp only [List.length_map, List.length_range] at hi
  obtain ⟨b, o, sp⟩ := a
  have hs : sp = none := by simpa [Addr.add] using World.cell?_spot (hq 0 (by omega) 0 (by omega))
  subst hs
  refine ⟨b, o, rfl, fun j hj => ?_⟩
  rw [← add_plain, hq i hi j hj]
  simp [List.getD, hi]

end Go.Proofs.Yticcjdcglfiggaa

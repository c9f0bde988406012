/- How a slice of harmonics (two waves each) that came in is opened. Written by wip/mkhold5.py. -/
import Derived.Test.YtglehiakikhlaaaOpenFl
import Derived.Test.YtglehiakikhlaaaHaA
namespace Go.Proofs.Ytglehiakikhlaaa
open Go.ChangeShapes Go.WideShapes Go.ChangeAt Go.RowKit Go.Deep

theorem wave_open {H : Type} {enc : TypeId × Value → H} {W : World} {fuel : Nat} {x : DataW H × List MemPlace} {P : Program} {e ti : TypeId} {f0 f1 : Field} {v0 v1 : Value} (hi : P.underlying ti = some (.float .f64)) (ci : P.cellsOf ti = 1)
    (he : P.underlying e = some (.struct #[f0, f1])) (ho : [f0.offset, f1.offset] = [0, 1]) (hty : [f0.type, f1.type] = [ti, ti])
    (h : DataW.trod enc P W 0 (fun _ => true) true fuel e [v0, v1] = some x) : ∃ a b, v0 = .float .f64 a ∧ v1 = .float .f64 b := by
  simp only [List.cons.injEq, and_true] at ho hty
  obtain ⟨o0, o1⟩ := ho
  obtain ⟨u0, u1⟩ := hty
  obtain ⟨xs, k, hk, hxy, _, hxl, hf⟩ := DataW.trod_struct he h
  match xs, hxl with
  | [y0, y1], _ =>
    have g0 := hf 0 f0 rfl
    have g1 := hf 1 f1 rfl
    simp [o0, o1, u0, u1, ci] at g0 g1
    obtain ⟨z0, e0, _, _⟩ := trod_float hi g0
    obtain ⟨z1, e1, _, _⟩ := trod_float hi g1
    simp only [List.cons.injEq, and_true] at e0 e1
    exact ⟨z0, z1, e0, e1⟩

theorem recsH_open {H : Type} {enc : TypeId × Value → H} {W : World} {v : Value} {fuel : Nat} {x : DataW H × List MemPlace} {P : Program} {t e tw ti : TypeId} {f0 f1 k0 k1 : Field} (hi : P.underlying ti = some (.float .f64)) (ci : P.cellsOf ti = 1)
    (ht : P.underlying t = some (.slice e)) (he : P.underlying e = some (.struct #[f0, f1])) (ce : P.cellsOf e = 4) (cw : P.cellsOf tw = 2) (hw : P.underlying tw = some (.struct #[k0, k1]))
    (ho : [f0.offset, f1.offset] = [0, 2]) (hty : [f0.type, f1.type] = [tw, tw]) (hko : [k0.offset, k1.offset] = [0, 1]) (hkt : [k0.type, k1.type] = [ti, ti])
    (h : DataW.trod enc P W 0 (fun _ => true) true fuel t [v] = some x) : ∃ L, RH W v L := by
  simp only [List.cons.injEq, and_true] at ho hty
  obtain ⟨o0, o1⟩ := ho
  obtain ⟨u0, u1⟩ := hty
  rcases open_slice ht h with ⟨hcs, _⟩ | ⟨a, len, cap, m, n, D, Pl, hcs, _, hl, hm, hmm, _, hx⟩
  · simp only [List.cons.injEq, and_true] at hcs
    subst hcs
    exact ⟨[], recsIn_nil⟩
  simp only [List.cons.injEq, and_true] at hcs
  subst hcs
  simp only [if_true] at hmm
  subst hmm
  have each : ∀ i, i < len → ∃ q : F4, ∀ j, j < 4 → W.cell? (a.add (i * 4 + j)) = some (eH q j) := by
    intro i hin
    obtain ⟨cs', h1, h2⟩ := hx i (by omega)
    rw [ce] at h1
    obtain ⟨_, hlen, hcell⟩ := World.cells?_some h1
    obtain ⟨xs, k, hk, hxy, _, hxl, hf⟩ := DataW.trod_struct he h2
    match xs, hxl, cs', hlen with
    | [y0, y1], _, [v0, v1, v2, v3], _ =>
      have g0 := hf 0 f0 rfl
      have g1 := hf 1 f1 rfl
      simp [o0, o1, u0, u1, cw] at g0 g1
      obtain ⟨z0, z1, e0, e1⟩ := wave_open hi ci hw hko hkt g0
      obtain ⟨z2, z3, e2, e3⟩ := wave_open hi ci hw hko hkt g1
      have d0 := hcell 0 (by omega)
      have d1 := hcell 1 (by omega)
      have d2 := hcell 2 (by omega)
      have d3 := hcell 3 (by omega)
      rw [add_add] at d0 d1 d2 d3
      subst e0 e1 e2 e3
      refine ⟨(z0, z1, z2, z3), fun j hj => ?_⟩
      match j, hj with
      | 0, _ => simpa [eH] using d0
      | 1, _ => simpa [eH] using d1
      | 2, _ => simpa [eH] using d2
      | 3, _ => simpa [eH] using d3
  obtain ⟨q, hq⟩ := choose_lt each
  refine ⟨(List.range len).map q, some a, _, by simp, by simpa using hl, hm, fun i hi => ?_⟩
  simp only [List.length_map, List.length_range] at hi
  obtain ⟨b, o, sp⟩ := a
  have hs : sp = none := by simpa [Addr.add] using World.cell?_spot (hq 0 (by omega) 0 (by omega))
  subst hs
  refine ⟨b, o, rfl, fun j hj => ?_⟩
  rw [← add_plain, hq i hi j hj]
  simp [List.getD, hi]

end Go.Proofs.Ytglehiakikhlaaa

/- How slices of floats and of structs of two floats that came in are opened. Written by wip/mkopenf.py. -/
import Derived.Test.YtglehiakikhlaaaOpenFl
import Derived.Test.YtglehiakikhlaaaFlK
namespace Go.Proofs.Ytglehiakikhlaaa
open Go.ChangeShapes Go.WideShapes Go.ChangeAt Go.RowKit Go.Deep

theorem recsW_open {H : Type} {enc : TypeId × Value → H} {W : World} {v : Value} {fuel : Nat} {x : DataW H × List MemPlace} {P : Program} {t e ti : TypeId} {f0 f1 : Field} (hi : P.underlying ti = some (.float .f64)) (ci : P.cellsOf ti = 1)
    (ht : P.underlying t = some (.slice e)) (he : P.underlying e = some (.struct #[f0, f1])) (ce : P.cellsOf e = 2)
    (ho : [f0.offset, f1.offset] = [0, 1]) (hty : [f0.type, f1.type] = [ti, ti])
    (h : DataW.trod enc P W 0 (fun _ => true) true fuel t [v] = some x) : ∃ L, RW W v L := by
  simp only [List.cons.injEq, and_true] at ho hty
  obtain ⟨o0, o1⟩ := ho
  obtain ⟨u0, u1⟩ := hty
  rcases open_slice ht h with ⟨hcs, _⟩ | ⟨a, len, cap, m, n, D, Pl, hcs, _, hl, hm, hmm, _, hx⟩
  · simp only [List.cons.injEq, and_true] at hcs
    subst hcs
    exact ⟨[], recsIn_nil⟩
  simp only [List.cons.injEq, and_true] at hcs
  subst hcs
  simp only [if_true] at hmm
  subst hmm
  have each : ∀ i, i < len → ∃ q : F2, ∀ j, j < 2 → W.cell? (a.add (i * 2 + j)) = some (eW q j) := by
    intro i hin
    obtain ⟨cs', h1, h2⟩ := hx i (by omega)
    rw [ce] at h1
    obtain ⟨_, hlen, hcell⟩ := World.cells?_some h1
    obtain ⟨xs, k, hk, hxy, _, hxl, hf⟩ := DataW.trod_struct he h2
    match xs, hxl, cs', hlen with
    | [y0, y1], _, [v0, v1], _ =>
      have g0 := hf 0 f0 rfl
      have g1 := hf 1 f1 rfl
      simp [o0, o1, u0, u1, ci] at g0 g1
      obtain ⟨z0, e0, _, _⟩ := trod_float hi g0
      obtain ⟨z1, e1, _, _⟩ := trod_float hi g1
      simp only [List.cons.injEq, and_true] at e0 e1
      have d0 := hcell 0 (by omega)
      rw [add_add] at d0
      subst e0
      have d1 := hcell 1 (by omega)
      rw [add_add] at d1
      subst e1
      refine ⟨(z0, z1), fun j hj => ?_⟩
      match j, hj with
      | 0, _ => simpa [eW] using d0
      | 1, _ => simpa [eW] using d1
  obtain ⟨q, hq⟩ := choose_lt each
  refine ⟨(List.range len).map q, some a, _, by simp, by simpa using hl, hm, fun i hi => ?_⟩
  simp only [List.length_map, List.length_range] at hi
  obtain ⟨b, o, sp⟩ := a
  have hs : sp = none := by simpa [Addr.add] using World.cell?_spot (hq 0 (by omega) 0 (by omega))
  subst hs
  refine ⟨b, o, rfl, fun j hj => ?_⟩
  rw [← add_plain, hq i hi j hj]
  simp [List.getD, hi]

theorem recsS_open {H : Type} {enc : TypeId × Value → H} {W : World} {v : Value} {fuel : Nat} {x : DataW H × List MemPlace} {P : Program} {t e ti : TypeId} {f0 f1 : Field} (hi : P.underlying ti = some (.float .f32)) (ci : P.cellsOf ti = 1)
    (ht : P.underlying t = some (.slice e)) (he : P.underlying e = some (.struct #[f0, f1])) (ce : P.cellsOf e = 2)
    (ho : [f0.offset, f1.offset] = [0, 1]) (hty : [f0.type, f1.type] = [ti, ti])
    (h : DataW.trod enc P W 0 (fun _ => true) true fuel t [v] = some x) : ∃ L, RS W v L := by
  simp only [List.cons.injEq, and_true] at ho hty
  obtain ⟨o0, o1⟩ := ho
  obtain ⟨u0, u1⟩ := hty
  rcases open_slice ht h with ⟨hcs, _⟩ | ⟨a, len, cap, m, n, D, Pl, hcs, _, hl, hm, hmm, _, hx⟩
  · simp only [List.cons.injEq, and_true] at hcs
    subst hcs
    exact ⟨[], recsIn_nil⟩
  simp only [List.cons.injEq, and_true] at hcs
  subst hcs
  simp only [if_true] at hmm
  subst hmm
  have each : ∀ i, i < len → ∃ q : F2, ∀ j, j < 2 → W.cell? (a.add (i * 2 + j)) = some (eS q j) := by
    intro i hin
    obtain ⟨cs', h1, h2⟩ := hx i (by omega)
    rw [ce] at h1
    obtain ⟨_, hlen, hcell⟩ := World.cells?_some h1
    obtain ⟨xs, k, hk, hxy, _, hxl, hf⟩ := DataW.trod_struct he h2
    match xs, hxl, cs', hlen with
    | [y0, y1], _, [v0, v1], _ =>
      have g0 := hf 0 f0 rfl
      have g1 := hf 1 f1 rfl
      simp [o0, o1, u0, u1, ci] at g0 g1
      obtain ⟨z0, e0, _, _⟩ := trod_float hi g0
      obtain ⟨z1, e1, _, _⟩ := trod_float hi g1
      simp only [List.cons.injEq, and_true] at e0 e1
      have d0 := hcell 0 (by omega)
      rw [add_add] at d0
      subst e0
      have d1 := hcell 1 (by omega)
      rw [add_add] at d1
      subst e1
      refine ⟨(z0, z1), fun j hj => ?_⟩
      match j, hj with
      | 0, _ => simpa [eS] using d0
      | 1, _ => simpa [eS] using d1
  obtain ⟨q, hq⟩ := choose_lt each
  refine ⟨(List.range len).map q, some a, _, by simp, by simpa using hl, hm, fun i hi => ?_⟩
  simp only [List.length_map, List.length_range] at hi
  obtain ⟨b, o, sp⟩ := a
  have hs : sp = none := by simpa [Addr.add] using World.cell?_spot (hq 0 (by omega) 0 (by omega))
  subst hs
  refine ⟨b, o, rfl, fun j hj => ?_⟩
  rw [← add_plain, hq i hi j hj]
  simp [List.getD, hi]

theorem fls_open {H : Type} {enc : TypeId × Value → H} {W : World} {v : Value} {fuel : Nat} {x : DataW H × List MemPlace} {P : Program} {t ti : TypeId} (hi : P.underlying ti = some (.float .f64)) (ci : P.cellsOf ti = 1)
    (ht : P.underlying t = some (.slice ti)) (h : DataW.trod enc P W 0 (fun _ => true) true fuel t [v] = some x) : ∃ L, FlIn W v L := by
  rcases open_slice ht h with ⟨hcs, _⟩ | ⟨a, len, cap, m, n, D, Pl, hcs, _, hl, hm, hmm, _, hx⟩
  · simp only [List.cons.injEq, and_true] at hcs
    subst hcs
    exact ⟨[], none, 0, rfl, Nat.le_refl _, Nat.zero_le _, fun i hi => by simp at hi⟩
  simp only [List.cons.injEq, and_true] at hcs
  subst hcs
  simp only [if_true] at hmm
  subst hmm
  have each : ∀ i, i < len → ∃ q : Nat, W.cell? (a.add i) = some (.float .f64 q) := by
    intro i hin
    obtain ⟨cs', h1, h2⟩ := hx i (by omega)
    rw [ci] at h1
    obtain ⟨_, hlen, hcell⟩ := World.cells?_some h1
    obtain ⟨z, e0, _, _⟩ := trod_float hi h2
    subst e0
    have d0 := hcell 0 (by simp)
    rw [add_add] at d0
    refine ⟨z, ?_⟩
    simpa using d0
  obtain ⟨q, hq⟩ := choose_lt each
  refine ⟨(List.range len).map q, some a, _, by simp, by simpa using hl, hm, fun i hi => ?_⟩
  simp only [List.length_map, List.length_range] at hi
  obtain ⟨b, o, sp⟩ := a
  have hs : sp = none := by simpa [Addr.add] using World.cell?_spot (hq 0 (by omega))
  subst hs
  refine ⟨b, o, rfl, ?_⟩
  rw [← add_plain, hq i hi]
  simp [List.getD, hi]

theorem Try.cellsF64 : Try.prog.cellsOf 25 = 1 := by kernel_rfl

end Go.Proofs.Ytglehiakikhlaaa

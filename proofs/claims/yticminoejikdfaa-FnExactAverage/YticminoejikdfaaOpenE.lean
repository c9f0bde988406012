/- How what came in is opened: slices of structs of ints, slices of ints, structs of three ints. Written by wip/mk10.py. No statement about the program stands here. -/
import Derived.Test.YticminoejikdfaaRecs
import Derived.Test.YticminoejikdfaaWalkA
import Derived.ProofKit
import Derived.OpenShut
import Derived.ShutString
import Derived.ChangeOld
import Derived.Below
import Derived.Deep.Matrix
import Derived.Lib.SmallJoins
namespace Go.Proofs.Yticminoejikdfaa
open Go.ChangeShapes Go.WideShapes Go.ChangeAt Go.RowKit Go.Deep

theorem Try.ownM : ownKnob Try.prog.godebug = none := by kernel_rfl
theorem Try.laidOutM : laidOutB Try.prog = true := by kernel_rfl
theorem Try.cellIntM : Try.prog.cellsOf 3 = 1 := by kernel_rfl
theorem choose_lt {α : Type} [Inhabited α] {n : Nat} {p : Nat → α → Prop} (h : ∀ i, i < n → ∃ q, p i q) : ∃ f : Nat → α, ∀ i, i < n → p i (f i) :=
  ⟨fun i => if hi : i < n then Classical.choose (h i hi) else default, fun i hi => by simp only [dif_pos hi]; exact Classical.choose_spec (h i hi)⟩

/-- A struct of three ints, opened. -/
theorem three_open {H : Type} {enc : TypeId × Value → H} {W : World} {base : Nat} {P : Program} {t ti : TypeId} {f0 f1 f2 : Field} {v : Value} {d : DataW H} {p : List MemPlace} (hi : P.underlying ti = some (.int .i64)) (hs : P.underlying t = some (.struct #[f0, f1, f2]))
    (ho : [f0.offset, f1.offset, f2.offset] = [0, 1, 2]) (hy : [f0.type, f1.type, f2.type] = [ti, ti, ti]) (hc : P.cellsOf ti = 1) (hC : P.cellsOf t = 3)
    (hv : Value.okWide P W .any base t v) (h : DataW.Trod enc P W 0 (fun _ => true) true t v d p) : ∃ x0 x1 x2 : Int, v = .agg #[.int .i64 x0, .int .i64 x1, .int .i64 x2] := by
  simp only [List.cons.injEq, and_true] at ho hy
  obtain ⟨o0, o1, o2⟩ := ho
  obtain ⟨u0, u1, u2⟩ := hy
  obtain ⟨⟨l⟩, rfl, hsz⟩ := okWide_struct hs hv
  rw [hC] at hsz
  obtain ⟨fuel, hf⟩ := h
  obtain ⟨xs, n, _, _, _, hlen, hx⟩ := DataW.trod_struct hs hf
  match l, hsz, xs, hlen with
  | [v0, v1, v2], _, [y0, y1, y2], _ =>
    have g0 := hx 0 f0 rfl
    have g1 := hx 1 f1 rfl
    have g2 := hx 2 f2 rfl
    simp [Value.cells, o0, o1, o2, u0, u1, u2, hc] at g0 g1 g2
    obtain ⟨z0, e0, _, _⟩ := DataW.trod_int hi g0
    obtain ⟨z1, e1, _, _⟩ := DataW.trod_int hi g1
    obtain ⟨z2, e2, _, _⟩ := DataW.trod_int hi g2
    simp only [List.cons.injEq, and_true] at e0 e1 e2
    subst e0 e1 e2
    exact ⟨z0, z1, z2, rfl⟩


theorem recs2_open {H : Type} {enc : TypeId × Value → H} {W : World} {v : Value} {fuel : Nat} {x : DataW H × List MemPlace} {P : Program} {t e ti : TypeId} {f0 f1 : Field} (hi : P.underlying ti = some (.int .i64)) (ci : P.cellsOf ti = 1)
    (ht : P.underlying t = some (.slice e)) (he : P.underlying e = some (.struct #[f0, f1])) (ce : P.cellsOf e = 2)
    (ho : [f0.offset, f1.offset] = [0, 1]) (hty : [f0.type, f1.type] = [ti, ti])
    (h : DataW.trod enc P W 0 (fun _ => true) true fuel t [v] = some x) : ∃ L, R2 W v L := by
  simp only [List.cons.injEq, and_true] at ho hty
  obtain ⟨o0, o1⟩ := ho
  obtain ⟨u0, u1⟩ := hty
  rcases open_slice ht h with ⟨hcs, _⟩ | ⟨a, len, cap, m, n, D, Pl, hcs, _, hl, hm, hmm, _, hx⟩
  · simp only [List.cons.injEq, and_true] at hcs
    subst hcs
    exact ⟨[], recsIn_nil⟩
  simp only [List.cons.injEq, and_true] at hcs
  subst hcs
  simp only [if_true] at hmm
  subst hmm
  have each : ∀ i, i < len → ∃ q : I2, ∀ j, j < 2 → W.cell? (a.add (i * 2 + j)) = some (e2 q j) := by
    intro i hin
    obtain ⟨cs', h1, h2⟩ := hx i (by omega)
    rw [ce] at h1
    obtain ⟨_, hlen, hcell⟩ := World.cells?_some h1
    obtain ⟨xs, k, hk, hxy, _, hxl, hf⟩ := DataW.trod_struct he h2
    match xs, hxl, cs', hlen with
    | [y0, y1], _, [v0, v1], _ =>
      have g0 := hf 0 f0 rfl
      have g1 := hf 1 f1 rfl
      simp [o0, o1, u0, u1, ci] at g0 g1
      obtain ⟨z0, e0, _, _⟩ := DataW.trod_int hi g0
      obtain ⟨z1, e1, _, _⟩ := DataW.trod_int hi g1
      simp only [List.cons.injEq, and_true] at e0 e1
      have d0 := hcell 0 (by omega)
      rw [add_add] at d0
      subst e0
      have d1 := hcell 1 (by omega)
      rw [add_add] at d1
      subst e1
      refine ⟨(z0, z1), fun j hj => ?_⟩
      match j, hj with
      | 0, _ => simpa [e2] using d0
      | 1, _ => simpa [e2] using d1
  obtain ⟨q, hq⟩ := choose_lt each
  refine ⟨(List.range len).map q, some a, _, by simp, by simpa using hl, hm, fun i hi => ?_⟩
  simp only [List.length_map, List.length_range] at hi
  obtain ⟨b, o, sp⟩ := a
  have hs : sp = none := by simpa [Addr.add] using World.cell?_spot (hq 0 (by omega) 0 (by omega))
  subst hs
  refine ⟨b, o, rfl, fun j hj => ?_⟩
  rw [← add_plain, hq i hi j hj]
  simp [List.getD, hi]

theorem recs3_open {H : Type} {enc : TypeId × Value → H} {W : World} {v : Value} {fuel : Nat} {x : DataW H × List MemPlace} {P : Program} {t e ti : TypeId} {f0 f1 f2 : Field} (hi : P.underlying ti = some (.int .i64)) (ci : P.cellsOf ti = 1)
    (ht : P.underlying t = some (.slice e)) (he : P.underlying e = some (.struct #[f0, f1, f2])) (ce : P.cellsOf e = 3)
    (ho : [f0.offset, f1.offset, f2.offset] = [0, 1, 2]) (hty : [f0.type, f1.type, f2.type] = [ti, ti, ti])
    (h : DataW.trod enc P W 0 (fun _ => true) true fuel t [v] = some x) : ∃ L, R3 W v L := by
  simp only [List.cons.injEq, and_true] at ho hty
  obtain ⟨o0, o1, o2⟩ := ho
  obtain ⟨u0, u1, u2⟩ := hty
  rcases open_slice ht h with ⟨hcs, _⟩ | ⟨a, len, cap, m, n, D, Pl, hcs, _, hl, hm, hmm, _, hx⟩
  · simp only [List.cons.injEq, and_true] at hcs
    subst hcs
    exact ⟨[], recsIn_nil⟩
  simp only [List.cons.injEq, and_true] at hcs
  subst hcs
  simp only [if_true] at hmm
  subst hmm
  have each : ∀ i, i < len → ∃ q : I3, ∀ j, j < 3 → W.cell? (a.add (i * 3 + j)) = some (e3 q j) := by
    intro i hin
    obtain ⟨cs', h1, h2⟩ := hx i (by omega)
    rw [ce] at h1
    obtain ⟨_, hlen, hcell⟩ := World.cells?_some h1
    obtain ⟨xs, k, hk, hxy, _, hxl, hf⟩ := DataW.trod_struct he h2
    match xs, hxl, cs', hlen with
    | [y0, y1, y2], _, [v0, v1, v2], _ =>
      have g0 := hf 0 f0 rfl
      have g1 := hf 1 f1 rfl
      have g2 := hf 2 f2 rfl
      simp [o0, o1, o2, u0, u1, u2, ci] at g0 g1 g2
      obtain ⟨z0, e0, _, _⟩ := DataW.trod_int hi g0
      obtain ⟨z1, e1, _, _⟩ := DataW.trod_int hi g1
      obtain ⟨z2, e2, _, _⟩ := DataW.trod_int hi g2
      simp only [List.cons.injEq, and_true] at e0 e1 e2
      have d0 := hcell 0 (by omega)
      rw [add_add] at d0
      subst e0
      have d1 := hcell 1 (by omega)
      rw [add_add] at d1
      subst e1
      have d2 := hcell 2 (by omega)
      rw [add_add] at d2
      subst e2
      refine ⟨(z0, z1, z2), fun j hj => ?_⟩
      match j, hj with
      | 0, _ => simpa [e3] using d0
      | 1, _ => simpa [e3] using d1
      | 2, _ => simpa [e3] using d2
  obtain ⟨q, hq⟩ := choose_lt each
  refine ⟨(List.range len).map q, some a, _, by simp, by simpa using hl, hm, fun i hi => ?_⟩
  simp only [List.length_map, List.length_range] at hi
  obtain ⟨b, o, sp⟩ := a
  have hs : sp = none := by simpa [Addr.add] using World.cell?_spot (hq 0 (by omega) 0 (by omega))
  subst hs
  refine ⟨b, o, rfl, fun j hj => ?_⟩
  rw [← add_plain, hq i hi j hj]
  simp [List.getD, hi]

theorem intsS_open {H : Type} {enc : TypeId × Value → H} {W : World} {v : Value} {fuel : Nat} {x : DataW H × List MemPlace} {P : Program} {t ti : TypeId} (hi : P.underlying ti = some (.int .i64)) (ci : P.cellsOf ti = 1)
    (ht : P.underlying t = some (.slice ti)) (h : DataW.trod enc P W 0 (fun _ => true) true fuel t [v] = some x) : ∃ L, IntsIn W v L ∧ ∀ i, i < L.length → -9223372036854775808 ≤ L.getD i 0 ∧ L.getD i 0 ≤ 9223372036854775807 := by
  rcases open_ints ht hi ci h with ⟨hcs, _⟩ | ⟨a, len, cap, zs, hcs, _, hl, hm, hz, _, hcell, hwf⟩
  · simp only [List.cons.injEq, and_true] at hcs
    subst hcs
    exact ⟨[], ⟨none, 0, rfl, Nat.le_refl _, Nat.zero_le _, fun i hi => by simp at hi⟩, fun i hi => by simp at hi⟩
  · simp only [List.cons.injEq, and_true] at hcs
    subst hcs
    simp only [if_true] at hz
    have hl' : (zs.take len).length = len := by rw [List.length_take]; omega
    have hg : ∀ i, i < len → (zs.take len).getD i 0 = zs.getD i 0 := fun i hi => by simp [List.getD, hi]
    refine ⟨zs.take len, ⟨some a, cap, by rw [hl'], by rw [hl']; exact hl, hm, fun i hi => ?_⟩, fun i hi => ?_⟩
    · rw [hl'] at hi
      obtain ⟨b, o, sp⟩ := a
      have hs : sp = none := by simpa [Addr.add] using World.cell?_spot (hcell 0 (by omega))
      subst hs
      refine ⟨b, o, rfl, ?_⟩
      rw [← add_plain, hcell i (by omega), hg i hi]
    · rw [hl'] at hi
      rw [hg i hi]
      have hm' : zs.getD i 0 ∈ zs := by rw [getD_lt (show i < zs.length by omega)]; exact List.getElem_mem _
      have := hwf _ hm'
      clear hg hwf hcell hm'
      generalize zs.getD i 0 = y at *
      simp [Lit.wf, IntKind.min, IntKind.max, IntKind.bits, IntKind.signed] at this
      omega

set_option maxRecDepth 100000 in
theorem open_spellS {H : Type} {enc : TypeId × Value → H} {W : World} {base : Nat} {v0 : Value} {d0 : DataW H} {p0 : List MemPlace} (hv : Value.okWide Try.prog W .any base 48 v0)
    (h0 : DataW.Trod enc Try.prog W 0 (fun _ => true) true 48 v0 d0 p0) : ∃ L, R2 W v0 L := by
  obtain ⟨a0, len0, cap0, rfl⟩ := okWide_slice Try.underlying48 hv
  obtain ⟨fuel, hf⟩ := h0
  exact recs2_open Try.underlying3 (by kernel_rfl) Try.underlying48 Try.underlying78 (by kernel_rfl) rfl rfl hf

set_option maxRecDepth 100000 in
theorem open_intL {H : Type} {enc : TypeId × Value → H} {W : World} {base : Nat} {v0 : Value} {d0 : DataW H} {p0 : List MemPlace} (hv : Value.okWide Try.prog W .any base 42 v0)
    (h0 : DataW.Trod enc Try.prog W 0 (fun _ => true) true 42 v0 d0 p0) : ∃ L, IntsIn W v0 L := by
  obtain ⟨a0, len0, cap0, rfl⟩ := okWide_slice Try.underlying42 hv
  obtain ⟨fuel, hf⟩ := h0
  obtain ⟨L, hL, -⟩ := intsS_open Try.underlying3 Try.cellIntM Try.underlying42 hf
  exact ⟨L, hL⟩

end Go.Proofs.Yticminoejikdfaa

/- How reports, bytes and numbers that came in are opened. Written by wip/mk9.py. No statement about the program stands here. -/
import Derived.Test.YtkjikjeecjendaaRReport
import Derived.Test.YtkjikjeecjendaaFmB
import Derived.ProofKit
import Derived.OpenShut
import Derived.ShutString
import Derived.ChangeOld
import Derived.Below
import Derived.Deep.Matrix
import Derived.Lib.SmallJoins
namespace Go.Proofs.Ytkjikjeecjendaa
open Go.ChangeShapes Go.WideShapes Go.ChangeAt Go.RowKit Go.Deep

theorem Try.ownM : ownKnob Try.prog.godebug = none := by kernel_rfl
theorem Try.laidOutM : laidOutB Try.prog = true := by kernel_rfl
theorem Try.cellIntM : Try.prog.cellsOf 3 = 1 := by kernel_rfl
theorem Try.cellU8M : Try.prog.cellsOf 5 = 1 := by kernel_rfl

/-- A struct of six ints, opened. -/
theorem six_open {H : Type} {enc : TypeId × Value → H} {W : World} {base : Nat} {P : Program} {t ti : TypeId} {f0 f1 f2 f3 f4 f5 : Field} {v : Value} {d : DataW H} {p : List MemPlace} (hi : P.underlying ti = some (.int .i64)) (hs : P.underlying t = some (.struct #[f0, f1, f2, f3, f4, f5]))
    (ho : [f0.offset, f1.offset, f2.offset, f3.offset, f4.offset, f5.offset] = [0, 1, 2, 3, 4, 5]) (hy : [f0.type, f1.type, f2.type, f3.type, f4.type, f5.type] = [ti, ti, ti, ti, ti, ti]) (hc : P.cellsOf ti = 1) (hC : P.cellsOf t = 6)
    (hv : Value.okWide P W .any base t v) (h : DataW.Trod enc P W 0 (fun _ => true) true t v d p) : ∃ x0 x1 x2 x3 x4 x5 : Int, v = .agg #[.int .i64 x0, .int .i64 x1, .int .i64 x2, .int .i64 x3, .int .i64 x4, .int .i64 x5] := by
  simp only [List.cons.injEq, and_true] at ho hy
  obtain ⟨o0, o1, o2, o3, o4, o5⟩ := ho
  obtain ⟨u0, u1, u2, u3, u4, u5⟩ := hy
  obtain ⟨⟨l⟩, rfl, hsz⟩ := okWide_struct hs hv
  rw [hC] at hsz
  obtain ⟨fuel, hf⟩ := h
  obtain ⟨xs, n, _, _, _, hlen, hx⟩ := DataW.trod_struct hs hf
  match l, hsz, xs, hlen with
  | [v0, v1, v2, v3, v4, v5], _, [y0, y1, y2, y3, y4, y5], _ =>
    have g0 := hx 0 f0 rfl
    have g1 := hx 1 f1 rfl
    have g2 := hx 2 f2 rfl
    have g3 := hx 3 f3 rfl
    have g4 := hx 4 f4 rfl
    have g5 := hx 5 f5 rfl
    simp [Value.cells, o0, o1, o2, o3, o4, o5, u0, u1, u2, u3, u4, u5, hc] at g0 g1 g2 g3 g4 g5
    obtain ⟨z0, e0, _, _⟩ := DataW.trod_int hi g0
    obtain ⟨z1, e1, _, _⟩ := DataW.trod_int hi g1
    obtain ⟨z2, e2, _, _⟩ := DataW.trod_int hi g2
    obtain ⟨z3, e3, _, _⟩ := DataW.trod_int hi g3
    obtain ⟨z4, e4, _, _⟩ := DataW.trod_int hi g4
    obtain ⟨z5, e5, _, _⟩ := DataW.trod_int hi g5
    simp only [List.cons.injEq, and_true] at e0 e1 e2 e3 e4 e5
    subst e0 e1 e2 e3 e4 e5
    exact ⟨z0, z1, z2, z3, z4, z5, rfl⟩

set_option maxRecDepth 100000 in
theorem open_report {H : Type} {enc : TypeId × Value → H} {W : World} {base : Nat} {v0 : Value} {d0 : DataW H} {p0 : List MemPlace} (hv : Value.okWide Try.prog W .any base 49 v0)
    (h0 : DataW.Trod enc Try.prog W 0 (fun _ => true) true 49 v0 d0 p0) : ∃ x0 x1 x2 x3 x4 x5 : Int, v0 = vReport x0 x1 x2 x3 x4 x5 :=
  six_open (ti := 3) Try.underlying3 Try.underlying49 rfl rfl (by kernel_rfl) (by kernel_rfl) hv h0

theorem intsS_open {H : Type} {enc : TypeId × Value → H} {W : World} {v : Value} {fuel : Nat} {x : DataW H × List MemPlace} {P : Program} {t ti : TypeId} (hi : P.underlying ti = some (.int .i64)) (ci : P.cellsOf ti = 1)
    (ht : P.underlying t = some (.slice ti)) (h : DataW.trod enc P W 0 (fun _ => true) true fuel t [v] = some x) : ∃ L, IntsIn W v L ∧ ∀ i, i < L.length → -9223372036854775808 ≤ L.getD i 0 ∧ L.getD i 0 ≤ 9223372036854775807 := by
  rcases open_ints ht hi ci h with ⟨hcs, _⟩ | ⟨a, len, cap, zs, hcs, _, hl, hm, hz, _, hcell, hwf⟩
  · simp only [List.cons.injEq, and_true] at hcs
    subst hcs
    exact ⟨[], ⟨none, 0, rfl, Nat.le_refl _, Nat.zero_le _, fun i hi => by simp at hi⟩, fun i hi => by simp at hi⟩
  · simp only [List.cons.injEq, and_true] at hcs
    subst hcs
    simp only [if_true] at hz
    have hl' : (zs.take len).length = len := by rw [List.length_take]; omega
    have hg : ∀ i, i < len → (zs.take len).getD i 0 = zs.getD i 0 := fun i hi => by simp [List.getD, hi]
    refine ⟨zs.take len, ⟨some a, cap, by rw [hl'], by rw [hl']; exact hl, hm, fun i hi => ?_⟩, fun i hi => ?_⟩
    · rw [hl'] at hi
      obtain ⟨b, o, sp⟩ := a
      have hs : sp = none := by simpa [Addr.add] using World.cell?_spot (hcell 0 (by omega))
      subst hs
      refine ⟨b, o, rfl, ?_⟩
      rw [← add_plain, hcell i (by omega), hg i hi]
    · rw [hl'] at hi
      rw [hg i hi]
      have hm' : zs.getD i 0 ∈ zs := by rw [getD_lt (show i < zs.length by omega)]; exact List.getElem_mem _
      have := hwf _ hm'
      clear hg hwf hcell hm'
      generalize zs.getD i 0 = y at *
      simp [Lit.wf, IntKind.min, IntKind.max, IntKind.bits, IntKind.signed] at this
      omega

set_option maxRecDepth 100000 in
theorem open_intsS {H : Type} {enc : TypeId × Value → H} {W : World} {base : Nat} {v0 : Value} {d0 : DataW H} {p0 : List MemPlace} (hv : Value.okWide Try.prog W .any base 34 v0)
    (h0 : DataW.Trod enc Try.prog W 0 (fun _ => true) true 34 v0 d0 p0) :
    ∃ (M : List Int) (mao : Option Addr) (mc : Nat), v0 = .slice mao M.length mc ∧ IntsIn W (.slice mao M.length mc) M ∧ ∀ i, i < M.length → -9223372036854775808 ≤ M.getD i 0 ∧ M.getD i 0 ≤ 9223372036854775807 := by
  obtain ⟨a, len, cap, rfl⟩ := okWide_slice Try.underlying34 hv
  obtain ⟨fuel, hf⟩ := h0
  obtain ⟨M, hM, hb⟩ := intsS_open Try.underlying3 Try.cellIntM Try.underlying34 hf
  obtain ⟨mao, mc, e, _⟩ := id hM
  rw [e] at hM ⊢
  exact ⟨M, mao, mc, rfl, hM, hb⟩

theorem bnd_u8 {z : Int} (h : Lit.wf (.int .u8 z) = true) : 0 ≤ z ∧ z ≤ 255 := by
  simp [Lit.wf, IntKind.min, IntKind.max, IntKind.bits, IntKind.signed] at h
  omega

set_option maxRecDepth 100000 in
theorem open_bytesL {H : Type} {enc : TypeId × Value → H} {W : World} {base : Nat} {v0 : Value} {d0 : DataW H} {p0 : List MemPlace} (hv : Value.okWide Try.prog W .any base 22 v0)
    (h0 : DataW.Trod enc Try.prog W 0 (fun _ => true) true 22 v0 d0 p0) : ∃ L, ByIn W v0 L := by
  obtain ⟨a0, len, cap, rfl⟩ := okWide_slice Try.underlying22 hv
  obtain ⟨fuel, hf⟩ := h0
  rcases open_ints Try.underlying22 Try.underlying5 Try.cellU8M hf with ⟨hcs, _⟩ | ⟨x, l, c, zs, hcs, _, hl, hm, hz, _, hcell, hwz⟩
  · simp [Value.cells] at hcs
    obtain ⟨rfl, rfl, rfl⟩ := hcs
    exact ⟨[], none, 0, rfl, Nat.le_refl _, Nat.zero_le _, fun i hi => by simp at hi⟩
  · simp [Value.cells] at hcs
    obtain ⟨rfl, rfl, rfl⟩ := hcs
    simp only [if_true] at hz
    refine ⟨(List.range len).map (fun i => toB (zs.getD i 0)), some x, cap, by simp, by simpa using hl, hm, fun i hi => ?_⟩
    simp only [List.length_map, List.length_range] at hi
    obtain ⟨b, o, sp⟩ := x
    have hs : sp = none := by simpa [Addr.add] using World.cell?_spot (hcell 0 (by omega))
    subst hs
    have hc := hcell i (by omega)
    rw [add_plain] at hc
    have hb := bnd_u8 (hwz (zs.getD i 0) (by rw [getD_lt (show i < zs.length by omega)]; exact List.getElem_mem _))
    have eg : ((List.range len).map (fun i => toB (zs.getD i 0))).getD i default = toB (zs.getD i 0) := by simp [List.getD, hi]
    refine ⟨b, o, rfl, ?_⟩
    rw [eg, eB_toB, show zs.getD i 0 % 256 = zs.getD i 0 by omega]
    exact hc

end Go.Proofs.Ytkjikjeecjendaa

/- How what came in is opened. Written by wip/mkopen2.py. No statement about the program stands here. -/
import Derived.Test.YtdkfleodgdpckaaRStow
import Derived.Test.YtdkfleodgdpckaaRHatch
import Derived.Test.YtdkfleodgdpckaaWalkA
import Derived.ProofKit
import Derived.OpenShut
import Derived.ShutString
import Derived.ChangeOld
import Derived.Below
import Derived.Deep.Matrix
import Derived.Lib.SmallJoins
namespace Go.Proofs.Ytdkfleodgdpckaa
open Go.ChangeShapes Go.WideShapes Go.ChangeAt Go.RowKit Go.Deep

theorem Try.ownM : ownKnob Try.prog.godebug = none := by kernel_rfl
theorem Try.laidOutM : laidOutB Try.prog = true := by kernel_rfl
theorem Try.cellIntM : Try.prog.cellsOf 3 = 1 := by kernel_rfl
theorem Try.cellStrM : Try.prog.cellsOf 9 = 1 := by kernel_rfl
theorem Try.cellBoolM : Try.prog.cellsOf 4 = 1 := by kernel_rfl
theorem choose_lt {α : Type} [Inhabited α] {n : Nat} {p : Nat → α → Prop} (h : ∀ i, i < n → ∃ q, p i q) : ∃ f : Nat → α, ∀ i, i < n → p i (f i) :=
  ⟨fun i => if hi : i < n then Classical.choose (h i hi) else default, fun i hi => by simp only [dif_pos hi]; exact Classical.choose_spec (h i hi)⟩
set_option maxRecDepth 100000 in
theorem open_str {H : Type} {enc : TypeId × Value → H} {W : World} {base : Nat} {v0 : Value} {d0 : DataW H} {p0 : List MemPlace} (hv : Value.okWide Try.prog W .any base 9 v0)
    (h0 : DataW.Trod enc Try.prog W 0 (fun _ => true) true 9 v0 d0 p0) : ∃ s, v0 = .string s ∧ s.size ≤ maxLen := by
  obtain ⟨s0, rfl⟩ := okWide_string Try.underlying9 hv
  obtain ⟨fuel, hf⟩ := h0
  obtain ⟨s, e, _, sz⟩ := DataW.trod_string Try.underlying9 hf
  have e' : [Value.string s0] = [Value.string s] := e
  simp only [List.cons.injEq, and_true] at e'
  exact ⟨s, e', sz⟩

set_option maxRecDepth 100000 in
theorem flatBox_open {H : Type} {enc : TypeId × Value → H} {W : World} {base : Nat} {v : Value} {d : DataW H} {p : List MemPlace} {f0 f1 f2 f3 f4 f5 : Field} (hs : Try.prog.underlying 115 = some (.struct #[f0, f1, f2, f3, f4, f5]))
    (ho : [f0.offset, f1.offset, f2.offset, f3.offset, f4.offset, f5.offset] = [0, 1, 2, 3, 4, 5]) (hy : [f0.type, f1.type, f2.type, f3.type, f4.type, f5.type] = [9, 3, 3, 4, 3, 3]) (hC : Try.prog.cellsOf 115 = 6)
    (hv : Value.okWide Try.prog W .any base 115 v) (h : DataW.Trod enc Try.prog W 0 (fun _ => true) true 115 v d p) : ∃ (x0 : ByteArray) (x1 : Int) (x2 : Int) (x3 : Bool) (x4 : Int) (x5 : Int), v = vBox x0 x1 x2 x3 x4 x5 ∧ x0.size ≤ maxLen := by
  simp only [List.cons.injEq, and_true] at ho hy
  obtain ⟨o0, o1, o2, o3, o4, o5⟩ := ho
  obtain ⟨u0, u1, u2, u3, u4, u5⟩ := hy
  obtain ⟨⟨l⟩, rfl, hsz⟩ := okWide_struct hs hv
  rw [hC] at hsz
  obtain ⟨fuel, hf⟩ := h
  obtain ⟨xs, n, _, _, _, hlen, hx⟩ := DataW.trod_struct hs hf
  match l, hsz, xs, hlen with
  | [v0, v1, v2, v3, v4, v5], _, [y0, y1, y2, y3, y4, y5], _ =>
    have g0 := hx 0 f0 rfl
    have g1 := hx 1 f1 rfl
    have g2 := hx 2 f2 rfl
    have g3 := hx 3 f3 rfl
    have g4 := hx 4 f4 rfl
    have g5 := hx 5 f5 rfl
    simp [Value.cells, o0, o1, o2, o3, o4, o5, u0, u1, u2, u3, u4, u5, Try.cellBoolM, Try.cellIntM, Try.cellStrM] at g0 g1 g2 g3 g4 g5
    obtain ⟨z0, e0, _, s0⟩ := DataW.trod_string Try.underlying9 g0
    obtain ⟨z1, e1, _, _⟩ := DataW.trod_int Try.underlying3 g1
    obtain ⟨z2, e2, _, _⟩ := DataW.trod_int Try.underlying3 g2
    obtain ⟨z3, e3, _⟩ := DataW.trod_bool Try.underlying4 g3
    obtain ⟨z4, e4, _, _⟩ := DataW.trod_int Try.underlying3 g4
    obtain ⟨z5, e5, _, _⟩ := DataW.trod_int Try.underlying3 g5
    simp only [List.cons.injEq, and_true] at e0 e1 e2 e3 e4 e5
    subst e0 e1 e2 e3 e4 e5
    exact ⟨z0, z1, z2, z3, z4, z5, rfl, s0⟩

set_option maxRecDepth 100000 in
theorem open_Box1 {H : Type} {enc : TypeId × Value → H} {W : World} {base : Nat} {v0 : Value} {d0 : DataW H} {p0 : List MemPlace} (hv : Value.okWide Try.prog W .any base 115 v0)
    (h0 : DataW.Trod enc Try.prog W 0 (fun _ => true) true 115 v0 d0 p0) : ∃ (x0 : ByteArray) (x1 : Int) (x2 : Int) (x3 : Bool) (x4 : Int) (x5 : Int), v0 = vBox x0 x1 x2 x3 x4 x5 ∧ x0.size ≤ maxLen :=
  flatBox_open Try.underlying115 rfl rfl (by kernel_rfl) hv h0

set_option maxRecDepth 100000 in
theorem recsBox_open {H : Type} {enc : TypeId × Value → H} {W : World} {v : Value} {fuel : Nat} {x : DataW H × List MemPlace} {f0 f1 f2 f3 f4 f5 : Field} (ht : Try.prog.underlying 68 = some (.slice 115)) (he : Try.prog.underlying 115 = some (.struct #[f0, f1, f2, f3, f4, f5])) (ce : Try.prog.cellsOf 115 = 6)
    (ho : [f0.offset, f1.offset, f2.offset, f3.offset, f4.offset, f5.offset] = [0, 1, 2, 3, 4, 5]) (hty : [f0.type, f1.type, f2.type, f3.type, f4.type, f5.type] = [9, 3, 3, 4, 3, 3])
    (h : DataW.trod enc Try.prog W 0 (fun _ => true) true fuel 68 [v] = some x) : ∃ L, RBox W v L ∧ ∀ i, i < L.length → (txtBox (L.getD i default)).size ≤ maxLen := by
  simp only [List.cons.injEq, and_true] at ho hty
  obtain ⟨o0, o1, o2, o3, o4, o5⟩ := ho
  obtain ⟨u0, u1, u2, u3, u4, u5⟩ := hty
  rcases open_slice ht h with ⟨hcs, _⟩ | ⟨a, len, cap, m, n, D, Pl, hcs, _, hl, hm, hmm, _, hx⟩
  · simp only [List.cons.injEq, and_true] at hcs
    subst hcs
    exact ⟨[], recsIn_nil, fun i hi => by simp at hi⟩
  simp only [List.cons.injEq, and_true] at hcs
  subst hcs
  simp only [if_true] at hmm
  subst hmm
  have each : ∀ i, i < len → ∃ q : BoxT, (∀ j, j < 6 → W.cell? (a.add (i * 6 + j)) = some (eBox q j)) ∧ (txtBox q).size ≤ maxLen := by
    intro i hin
    obtain ⟨cs', h1, h2⟩ := hx i (by omega)
    rw [ce] at h1
    obtain ⟨_, hlen, hcell⟩ := World.cells?_some h1
    obtain ⟨xs, k, hk, hxy, _, hxl, hf⟩ := DataW.trod_struct he h2
    match xs, hxl, cs', hlen with
    | [y0, y1, y2, y3, y4, y5], _, [v0, v1, v2, v3, v4, v5], _ =>
      have g0 := hf 0 f0 rfl
      have g1 := hf 1 f1 rfl
      have g2 := hf 2 f2 rfl
      have g3 := hf 3 f3 rfl
      have g4 := hf 4 f4 rfl
      have g5 := hf 5 f5 rfl
      simp [o0, o1, o2, o3, o4, o5, u0, u1, u2, u3, u4, u5, Try.cellBoolM, Try.cellIntM, Try.cellStrM] at g0 g1 g2 g3 g4 g5
      obtain ⟨z0, e0, _, sz⟩ := DataW.trod_string Try.underlying9 g0
      obtain ⟨z1, e1, _, _⟩ := DataW.trod_int Try.underlying3 g1
      obtain ⟨z2, e2, _, _⟩ := DataW.trod_int Try.underlying3 g2
      obtain ⟨z3, e3, _⟩ := DataW.trod_bool Try.underlying4 g3
      obtain ⟨z4, e4, _, _⟩ := DataW.trod_int Try.underlying3 g4
      obtain ⟨z5, e5, _, _⟩ := DataW.trod_int Try.underlying3 g5
      simp only [List.cons.injEq, and_true] at e0 e1 e2 e3 e4 e5
      have d0 := hcell 0 (by omega)
      rw [add_add] at d0
      subst e0
      have d1 := hcell 1 (by omega)
      rw [add_add] at d1
      subst e1
      have d2 := hcell 2 (by omega)
      rw [add_add] at d2
      subst e2
      have d3 := hcell 3 (by omega)
      rw [add_add] at d3
      subst e3
      have d4 := hcell 4 (by omega)
      rw [add_add] at d4
      subst e4
      have d5 := hcell 5 (by omega)
      rw [add_add] at d5
      subst e5
      refine ⟨(z0, z1, z2, z3, z4, z5), fun j hj => ?_, by simpa [txtBox] using sz⟩
      match j, hj with
      | 0, _ => simpa [eBox] using d0
      | 1, _ => simpa [eBox] using d1
      | 2, _ => simpa [eBox] using d2
      | 3, _ => simpa [eBox] using d3
      | 4, _ => simpa [eBox] using d4
      | 5, _ => simpa [eBox] using d5
  obtain ⟨q, hq⟩ := choose_lt each
  refine ⟨(List.range len).map q, ⟨some a, _, by simp, by simpa using hl, hm, fun i hi => ?_⟩, fun i hi => ?_⟩
  · simp only [List.length_map, List.length_range] at hi
    obtain ⟨b, o, sp⟩ := a
    have hs : sp = none := by simpa [Addr.add] using World.cell?_spot ((hq 0 (by omega)).1 0 (by omega))
    subst hs
    refine ⟨b, o, rfl, fun j hj => ?_⟩
    rw [← add_plain, (hq i hi).1 j hj]
    simp [List.getD, hi]
  · simp only [List.length_map, List.length_range] at hi
    have e : ((List.range len).map q).getD i default = q i := by simp [List.getD, hi]
    rw [e]
    exact (hq i hi).2

set_option maxRecDepth 100000 in
theorem open_BoxS {H : Type} {enc : TypeId × Value → H} {W : World} {base : Nat} {v0 : Value} {d0 : DataW H} {p0 : List MemPlace} (hv : Value.okWide Try.prog W .any base 68 v0)
    (h0 : DataW.Trod enc Try.prog W 0 (fun _ => true) true 68 v0 d0 p0) : ∃ L, RBox W v0 L ∧ ∀ i, i < L.length → (txtBox (L.getD i default)).size ≤ maxLen := by
  obtain ⟨a0, len0, cap0, rfl⟩ := okWide_slice Try.underlying68 hv
  obtain ⟨fuel, hf⟩ := h0
  exact recsBox_open Try.underlying68 Try.underlying115 (by kernel_rfl) rfl rfl hf

set_option maxRecDepth 100000 in
theorem recsHatch_open {H : Type} {enc : TypeId × Value → H} {W : World} {v : Value} {fuel : Nat} {x : DataW H × List MemPlace} {f0 f1 f2 f3 : Field} (ht : Try.prog.underlying 51 = some (.slice 111)) (he : Try.prog.underlying 111 = some (.struct #[f0, f1, f2, f3])) (ce : Try.prog.cellsOf 111 = 4)
    (ho : [f0.offset, f1.offset, f2.offset, f3.offset] = [0, 1, 2, 3]) (hty : [f0.type, f1.type, f2.type, f3.type] = [3, 3, 3, 3])
    (h : DataW.trod enc Try.prog W 0 (fun _ => true) true fuel 51 [v] = some x) : ∃ L, RHatch W v L := by
  simp only [List.cons.injEq, and_true] at ho hty
  obtain ⟨o0, o1, o2, o3⟩ := ho
  obtain ⟨u0, u1, u2, u3⟩ := hty
  rcases open_slice ht h with ⟨hcs, _⟩ | ⟨a, len, cap, m, n, D, Pl, hcs, _, hl, hm, hmm, _, hx⟩
  · simp only [List.cons.injEq, and_true] at hcs
    subst hcs
    exact ⟨[], recsIn_nil⟩
  simp only [List.cons.injEq, and_true] at hcs
  subst hcs
  simp only [if_true] at hmm
  subst hmm
  have each : ∀ i, i < len → ∃ q : HatchT, (∀ j, j < 4 → W.cell? (a.add (i * 4 + j)) = some (eHatch q j)) ∧ True := by
    intro i hin
    obtain ⟨cs', h1, h2⟩ := hx i (by omega)
    rw [ce] at h1
    obtain ⟨_, hlen, hcell⟩ := World.cells?_some h1
    obtain ⟨xs, k, hk, hxy, _, hxl, hf⟩ := DataW.trod_struct he h2
    match xs, hxl, cs', hlen with
    | [y0, y1, y2, y3], _, [v0, v1, v2, v3], _ =>
      have g0 := hf 0 f0 rfl
      have g1 := hf 1 f1 rfl
      have g2 := hf 2 f2 rfl
      have g3 := hf 3 f3 rfl
      simp [o0, o1, o2, o3, u0, u1, u2, u3, Try.cellIntM] at g0 g1 g2 g3
      obtain ⟨z0, e0, _, _⟩ := DataW.trod_int Try.underlying3 g0
      obtain ⟨z1, e1, _, _⟩ := DataW.trod_int Try.underlying3 g1
      obtain ⟨z2, e2, _, _⟩ := DataW.trod_int Try.underlying3 g2
      obtain ⟨z3, e3, _, _⟩ := DataW.trod_int Try.underlying3 g3
      simp only [List.cons.injEq, and_true] at e0 e1 e2 e3
      have d0 := hcell 0 (by omega)
      rw [add_add] at d0
      subst e0
      have d1 := hcell 1 (by omega)
      rw [add_add] at d1
      subst e1
      have d2 := hcell 2 (by omega)
      rw [add_add] at d2
      subst e2
      have d3 := hcell 3 (by omega)
      rw [add_add] at d3
      subst e3
      refine ⟨(z0, z1, z2, z3), fun j hj => ?_, trivial⟩
      match j, hj with
      | 0, _ => simpa [eHatch] using d0
      | 1, _ => simpa [eHatch] using d1
      | 2, _ => simpa [eHatch] using d2
      | 3, _ => simpa [eHatch] using d3
  obtain ⟨q, hq⟩ := choose_lt each
  refine ⟨(List.range len).map q, ⟨some a, _, by simp, by simpa using hl, hm, fun i hi => ?_⟩⟩
  · simp only [List.length_map, List.length_range] at hi
    obtain ⟨b, o, sp⟩ := a
    have hs : sp = none := by simpa [Addr.add] using World.cell?_spot ((hq 0 (by omega)).1 0 (by omega))
    subst hs
    refine ⟨b, o, rfl, fun j hj => ?_⟩
    rw [← add_plain, (hq i hi).1 j hj]
    simp [List.getD, hi]

set_option maxRecDepth 100000 in
theorem open_HatchS {H : Type} {enc : TypeId × Value → H} {W : World} {base : Nat} {v0 : Value} {d0 : DataW H} {p0 : List MemPlace} (hv : Value.okWide Try.prog W .any base 51 v0)
    (h0 : DataW.Trod enc Try.prog W 0 (fun _ => true) true 51 v0 d0 p0) : ∃ L, RHatch W v0 L := by
  obtain ⟨a0, len0, cap0, rfl⟩ := okWide_slice Try.underlying51 hv
  obtain ⟨fuel, hf⟩ := h0
  exact recsHatch_open Try.underlying51 Try.underlying111 (by kernel_rfl) rfl rfl hf

set_option maxRecDepth 100000 in
theorem recsStow_open {H : Type} {enc : TypeId × Value → H} {W : World} {v : Value} {fuel : Nat} {x : DataW H × List MemPlace} {f0 f1 a0 a1 a2 a3 a4 a5 b0 b1 b2 : Field} (ht : Try.prog.underlying 57 = some (.slice 118)) (he : Try.prog.underlying 118 = some (.struct #[f0, f1])) (ce : Try.prog.cellsOf 118 = 9)
    (hB : Try.prog.underlying 115 = some (.struct #[a0, a1, a2, a3, a4, a5])) (cB : Try.prog.cellsOf 115 = 6) (hS : Try.prog.underlying 116 = some (.struct #[b0, b1, b2])) (cS : Try.prog.cellsOf 116 = 3)
    (ho : [f0.offset, f1.offset, a0.offset, a1.offset, a2.offset, a3.offset, a4.offset, a5.offset, b0.offset, b1.offset, b2.offset] = [0, 6, 0, 1, 2, 3, 4, 5, 0, 1, 2]) (hty : [f0.type, f1.type, a0.type, a1.type, a2.type, a3.type, a4.type, a5.type, b0.type, b1.type, b2.type] = [115, 116, 9, 3, 3, 4, 3, 3, 3, 3, 3])
    (h : DataW.trod enc Try.prog W 0 (fun _ => true) true fuel 57 [v] = some x) : ∃ L, RStow W v L ∧ ∀ i, i < L.length → (txtStow (L.getD i default)).size ≤ maxLen := by
  simp only [List.cons.injEq, and_true] at ho hty
  obtain ⟨o0, o1, p0, p1, p2, p3, p4, p5, q0, q1, q2⟩ := ho
  obtain ⟨u0, u1, r0, r1, r2, r3, r4, r5, s0, s1, s2⟩ := hty
  rcases open_slice ht h with ⟨hcs, _⟩ | ⟨a, len, cap, m, n, D, Pl, hcs, _, hl, hm, hmm, _, hx⟩
  · simp only [List.cons.injEq, and_true] at hcs
    subst hcs
    exact ⟨[], recsIn_nil, fun i hi => by simp at hi⟩
  simp only [List.cons.injEq, and_true] at hcs
  subst hcs
  simp only [if_true] at hmm
  subst hmm
  have each : ∀ i, i < len → ∃ q : StowT, (∀ j, j < 9 → W.cell? (a.add (i * 9 + j)) = some (eStow q j)) ∧ (txtStow q).size ≤ maxLen := by
    intro i hin
    obtain ⟨cs', h1, h2⟩ := hx i (by omega)
    rw [ce] at h1
    obtain ⟨_, hlen, hcell⟩ := World.cells?_some h1
    obtain ⟨xs, k, hk, hxy, _, hxl, hf⟩ := DataW.trod_struct he h2
    match xs, hxl, cs', hlen with
    | [y0, y1], _, [v0, v1, v2, v3, v4, v5, v6, v7, v8], _ =>
      have g0 := hf 0 f0 rfl
      have g1 := hf 1 f1 rfl
      simp [o0, o1, u0, u1, cB, cS] at g0 g1
      obtain ⟨xb, kb, hkb, _, _, hxb, hfb⟩ := DataW.trod_struct hB g0
      obtain ⟨xc, kc, hkc, _, _, hxc, hfc⟩ := DataW.trod_struct hS g1
      match xb, hxb, xc, hxc with
      | [_, _, _, _, _, _], _, [_, _, _], _ =>
        have m0 := hfb 0 a0 rfl
        have m1 := hfb 1 a1 rfl
        have m2 := hfb 2 a2 rfl
        have m3 := hfb 3 a3 rfl
        have m4 := hfb 4 a4 rfl
        have m5 := hfb 5 a5 rfl
        have m6 := hfc 0 b0 rfl
        have m7 := hfc 1 b1 rfl
        have m8 := hfc 2 b2 rfl
        simp [p0, p1, p2, p3, p4, p5, q0, q1, q2, r0, r1, r2, r3, r4, r5, s0, s1, s2, Try.cellBoolM, Try.cellIntM, Try.cellStrM] at m0 m1 m2 m3 m4 m5 m6 m7 m8
        obtain ⟨z0, e0, _, sz⟩ := DataW.trod_string Try.underlying9 m0
        obtain ⟨z1, e1, _, _⟩ := DataW.trod_int Try.underlying3 m1
        obtain ⟨z2, e2, _, _⟩ := DataW.trod_int Try.underlying3 m2
        obtain ⟨z3, e3, _⟩ := DataW.trod_bool Try.underlying4 m3
        obtain ⟨z4, e4, _, _⟩ := DataW.trod_int Try.underlying3 m4
        obtain ⟨z5, e5, _, _⟩ := DataW.trod_int Try.underlying3 m5
        obtain ⟨z6, e6, _, _⟩ := DataW.trod_int Try.underlying3 m6
        obtain ⟨z7, e7, _, _⟩ := DataW.trod_int Try.underlying3 m7
        obtain ⟨z8, e8, _, _⟩ := DataW.trod_int Try.underlying3 m8
        simp only [List.cons.injEq, and_true] at e0 e1 e2 e3 e4 e5 e6 e7 e8
        have d0 := hcell 0 (by omega)
        rw [add_add] at d0
        subst e0
        have d1 := hcell 1 (by omega)
        rw [add_add] at d1
        subst e1
        have d2 := hcell 2 (by omega)
        rw [add_add] at d2
        subst e2
        have d3 := hcell 3 (by omega)
        rw [add_add] at d3
        subst e3
        have d4 := hcell 4 (by omega)
        rw [add_add] at d4
        subst e4
        have d5 := hcell 5 (by omega)
        rw [add_add] at d5
        subst e5
        have d6 := hcell 6 (by omega)
        rw [add_add] at d6
        subst e6
        have d7 := hcell 7 (by omega)
        rw [add_add] at d7
        subst e7
        have d8 := hcell 8 (by omega)
        rw [add_add] at d8
        subst e8
        refine ⟨(z0, z1, z2, z3, z4, z5, z6, z7, z8), fun j hj => ?_, by simpa [txtStow] using sz⟩
        match j, hj with
        | 0, _ => simpa [eStow] using d0
        | 1, _ => simpa [eStow] using d1
        | 2, _ => simpa [eStow] using d2
        | 3, _ => simpa [eStow] using d3
        | 4, _ => simpa [eStow] using d4
        | 5, _ => simpa [eStow] using d5
        | 6, _ => simpa [eStow] using d6
        | 7, _ => simpa [eStow] using d7
        | 8, _ => simpa [eStow] using d8
  obtain ⟨q, hq⟩ := choose_lt each
  refine ⟨(List.range len).map q, ⟨some a, _, by simp, by simpa using hl, hm, fun i hi => ?_⟩, fun i hi => ?_⟩
  · simp only [List.length_map, List.length_range] at hi
    obtain ⟨b, o, sp⟩ := a
    have hs : sp = none := by simpa [Addr.add] using World.cell?_spot ((hq 0 (by omega)).1 0 (by omega))
    subst hs
    refine ⟨b, o, rfl, fun j hj => ?_⟩
    rw [← add_plain, (hq i hi).1 j hj]
    simp [List.getD, hi]
  · simp only [List.length_map, List.length_range] at hi
    have e : ((List.range len).map q).getD i default = q i := by simp [List.getD, hi]
    rw [e]
    exact (hq i hi).2

set_option maxRecDepth 100000 in
theorem open_StowS {H : Type} {enc : TypeId × Value → H} {W : World} {base : Nat} {v0 : Value} {d0 : DataW H} {p0 : List MemPlace} (hv : Value.okWide Try.prog W .any base 57 v0)
    (h0 : DataW.Trod enc Try.prog W 0 (fun _ => true) true 57 v0 d0 p0) : ∃ L, RStow W v0 L ∧ ∀ i, i < L.length → (txtStow (L.getD i default)).size ≤ maxLen := by
  obtain ⟨a0, len0, cap0, rfl⟩ := okWide_slice Try.underlying57 hv
  obtain ⟨fuel, hf⟩ := h0
  exact recsStow_open Try.underlying57 Try.underlying118 (by kernel_rfl) Try.underlying115 (by kernel_rfl) Try.underlying116 (by kernel_rfl) rfl rfl hf

end Go.Proofs.Ytdkfleodgdpckaa

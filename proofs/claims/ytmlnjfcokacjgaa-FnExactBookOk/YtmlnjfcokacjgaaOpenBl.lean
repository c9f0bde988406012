/- How what came in is opened. Written by wip/mkopen2.py. No statement about the program stands here. -/
import Derived.Test.YtmlnjfcokacjgaaBlX
import Derived.ProofKit
import Derived.OpenShut
import Derived.ShutString
import Derived.ChangeOld
import Derived.Below
import Derived.Deep.Matrix
import Derived.Lib.SmallJoins
namespace Go.Proofs.Ytmlnjfcokacjgaa
open Go.ChangeShapes Go.WideShapes Go.ChangeAt Go.RowKit Go.Deep

theorem Try.ownM : ownKnob Try.prog.godebug = none := by kernel_rfl
theorem Try.laidOutM : laidOutB Try.prog = true := by kernel_rfl
theorem Try.cellIntM : Try.prog.cellsOf 3 = 1 := by kernel_rfl
theorem Try.cellStrM : Try.prog.cellsOf 9 = 1 := by kernel_rfl
theorem Try.cellBoolM : Try.prog.cellsOf 4 = 1 := by kernel_rfl
theorem choose_lt {α : Type} [Inhabited α] {n : Nat} {p : Nat → α → Prop} (h : ∀ i, i < n → ∃ q, p i q) : ∃ f : Nat → α, ∀ i, i < n → p i (f i) :=
  ⟨fun i => if hi : i < n then Classical.choose (h i hi) else default, fun i hi => by simp only [dif_pos hi]; exact Classical.choose_spec (h i hi)⟩
set_option maxRecDepth 100000 in
theorem open_str {H : Type} {enc : TypeId × Value → H} {W : World} {base : Nat} {v0 : Value} {d0 : DataW H} {p0 : List MemPlace} (hv : Value.okWide Try.prog W .any base 9 v0)
    (h0 : DataW.Trod enc Try.prog W 0 (fun _ => true) true 9 v0 d0 p0) : ∃ s, v0 = .string s ∧ s.size ≤ maxLen := by
  obtain ⟨s0, rfl⟩ := okWide_string Try.underlying9 hv
  obtain ⟨fuel, hf⟩ := h0
  obtain ⟨s, e, _, sz⟩ := DataW.trod_string Try.underlying9 hf
  have e' : [Value.string s0] = [Value.string s] := e
  simp only [List.cons.injEq, and_true] at e'
  exact ⟨s, e', sz⟩

set_option maxRecDepth 100000 in
theorem flatBillOp_open {H : Type} {enc : TypeId × Value → H} {W : World} {base : Nat} {v : Value} {d : DataW H} {p : List MemPlace} {f0 f1 f2 f3 f4 f5 : Field} (hs : Try.prog.underlying 52 = some (.struct #[f0, f1, f2, f3, f4, f5]))
    (ho : [f0.offset, f1.offset, f2.offset, f3.offset, f4.offset, f5.offset] = [0, 1, 2, 3, 4, 5]) (hy : [f0.type, f1.type, f2.type, f3.type, f4.type, f5.type] = [3, 3, 9, 9, 3, 3]) (hC : Try.prog.cellsOf 52 = 6)
    (hv : Value.okWide Try.prog W .any base 52 v) (h : DataW.Trod enc Try.prog W 0 (fun _ => true) true 52 v d p) : ∃ (x0 : Int) (x1 : Int) (x2 : ByteArray) (x3 : ByteArray) (x4 : Int) (x5 : Int), v = vBillOp x0 x1 x2 x3 x4 x5 ∧ x2.size ≤ maxLen ∧ x3.size ≤ maxLen := by
  simp only [List.cons.injEq, and_true] at ho hy
  obtain ⟨o0, o1, o2, o3, o4, o5⟩ := ho
  obtain ⟨u0, u1, u2, u3, u4, u5⟩ := hy
  obtain ⟨⟨l⟩, rfl, hsz⟩ := okWide_struct hs hv
  rw [hC] at hsz
  obtain ⟨fuel, hf⟩ := h
  obtain ⟨xs, n, _, _, _, hlen, hx⟩ := DataW.trod_struct hs hf
  match l, hsz, xs, hlen with
  | [v0, v1, v2, v3, v4, v5], _, [y0, y1, y2, y3, y4, y5], _ =>
    have g0 := hx 0 f0 rfl
    have g1 := hx 1 f1 rfl
    have g2 := hx 2 f2 rfl
    have g3 := hx 3 f3 rfl
    have g4 := hx 4 f4 rfl
    have g5 := hx 5 f5 rfl
    simp [Value.cells, o0, o1, o2, o3, o4, o5, u0, u1, u2, u3, u4, u5, Try.cellIntM, Try.cellStrM] at g0 g1 g2 g3 g4 g5
    obtain ⟨z0, e0, _, _⟩ := DataW.trod_int Try.underlying3 g0
    obtain ⟨z1, e1, _, _⟩ := DataW.trod_int Try.underlying3 g1
    obtain ⟨z2, e2, _, s2⟩ := DataW.trod_string Try.underlying9 g2
    obtain ⟨z3, e3, _, s3⟩ := DataW.trod_string Try.underlying9 g3
    obtain ⟨z4, e4, _, _⟩ := DataW.trod_int Try.underlying3 g4
    obtain ⟨z5, e5, _, _⟩ := DataW.trod_int Try.underlying3 g5
    simp only [List.cons.injEq, and_true] at e0 e1 e2 e3 e4 e5
    subst e0 e1 e2 e3 e4 e5
    exact ⟨z0, z1, z2, z3, z4, z5, rfl, s2, s3⟩

set_option maxRecDepth 100000 in
theorem open_BillOp1 {H : Type} {enc : TypeId × Value → H} {W : World} {base : Nat} {v0 : Value} {d0 : DataW H} {p0 : List MemPlace} (hv : Value.okWide Try.prog W .any base 52 v0)
    (h0 : DataW.Trod enc Try.prog W 0 (fun _ => true) true 52 v0 d0 p0) : ∃ (x0 : Int) (x1 : Int) (x2 : ByteArray) (x3 : ByteArray) (x4 : Int) (x5 : Int), v0 = vBillOp x0 x1 x2 x3 x4 x5 ∧ x2.size ≤ maxLen ∧ x3.size ≤ maxLen :=
  flatBillOp_open Try.underlying52 rfl rfl (by kernel_rfl) hv h0

set_option maxRecDepth 100000 in
theorem recsBillOp_open {H : Type} {enc : TypeId × Value → H} {W : World} {v : Value} {fuel : Nat} {x : DataW H × List MemPlace} {f0 f1 f2 f3 f4 f5 : Field} (ht : Try.prog.underlying 57 = some (.slice 52)) (he : Try.prog.underlying 52 = some (.struct #[f0, f1, f2, f3, f4, f5])) (ce : Try.prog.cellsOf 52 = 6)
    (ho : [f0.offset, f1.offset, f2.offset, f3.offset, f4.offset, f5.offset] = [0, 1, 2, 3, 4, 5]) (hty : [f0.type, f1.type, f2.type, f3.type, f4.type, f5.type] = [3, 3, 9, 9, 3, 3])
    (h : DataW.trod enc Try.prog W 0 (fun _ => true) true fuel 57 [v] = some x) : ∃ L, RBillOp W v L ∧ ∀ i, i < L.length → txtBillOp (L.getD i default) maxLen := by
  simp only [List.cons.injEq, and_true] at ho hty
  obtain ⟨o0, o1, o2, o3, o4, o5⟩ := ho
  obtain ⟨u0, u1, u2, u3, u4, u5⟩ := hty
  rcases open_slice ht h with ⟨hcs, _⟩ | ⟨a, len, cap, m, n, D, Pl, hcs, _, hl, hm, hmm, _, hx⟩
  · simp only [List.cons.injEq, and_true] at hcs
    subst hcs
    exact ⟨[], recsIn_nil, fun i hi => by simp at hi⟩
  simp only [List.cons.injEq, and_true] at hcs
  subst hcs
  simp only [if_true] at hmm
  subst hmm
  have each : ∀ i, i < len → ∃ q : BillOpT, (∀ j, j < 6 → W.cell? (a.add (i * 6 + j)) = some (eBillOp q j)) ∧ txtBillOp q maxLen := by
    intro i hin
    obtain ⟨cs', h1, h2⟩ := hx i (by omega)
    rw [ce] at h1
    obtain ⟨_, hlen, hcell⟩ := World.cells?_some h1
    obtain ⟨xs, k, hk, hxy, _, hxl, hf⟩ := DataW.trod_struct he h2
    match xs, hxl, cs', hlen with
    | [y0, y1, y2, y3, y4, y5], _, [v0, v1, v2, v3, v4, v5], _ =>
      have g0 := hf 0 f0 rfl
      have g1 := hf 1 f1 rfl
      have g2 := hf 2 f2 rfl
      have g3 := hf 3 f3 rfl
      have g4 := hf 4 f4 rfl
      have g5 := hf 5 f5 rfl
      simp [o0, o1, o2, o3, o4, o5, u0, u1, u2, u3, u4, u5, Try.cellIntM, Try.cellStrM] at g0 g1 g2 g3 g4 g5
      obtain ⟨z0, e0, _, _⟩ := DataW.trod_int Try.underlying3 g0
      obtain ⟨z1, e1, _, _⟩ := DataW.trod_int Try.underlying3 g1
      obtain ⟨z2, e2, _, sz2⟩ := DataW.trod_string Try.underlying9 g2
      obtain ⟨z3, e3, _, sz3⟩ := DataW.trod_string Try.underlying9 g3
      obtain ⟨z4, e4, _, _⟩ := DataW.trod_int Try.underlying3 g4
      obtain ⟨z5, e5, _, _⟩ := DataW.trod_int Try.underlying3 g5
      simp only [List.cons.injEq, and_true] at e0 e1 e2 e3 e4 e5
      have d0 := hcell 0 (by omega)
      rw [add_add] at d0
      subst e0
      have d1 := hcell 1 (by omega)
      rw [add_add] at d1
      subst e1
      have d2 := hcell 2 (by omega)
      rw [add_add] at d2
      subst e2
      have d3 := hcell 3 (by omega)
      rw [add_add] at d3
      subst e3
      have d4 := hcell 4 (by omega)
      rw [add_add] at d4
      subst e4
      have d5 := hcell 5 (by omega)
      rw [add_add] at d5
      subst e5
      refine ⟨(z0, z1, z2, z3, z4, z5), fun j hj => ?_, ⟨sz2, sz3⟩⟩
      match j, hj with
      | 0, _ => simpa [eBillOp] using d0
      | 1, _ => simpa [eBillOp] using d1
      | 2, _ => simpa [eBillOp] using d2
      | 3, _ => simpa [eBillOp] using d3
      | 4, _ => simpa [eBillOp] using d4
      | 5, _ => simpa [eBillOp] using d5
  obtain ⟨q, hq⟩ := choose_lt each
  refine ⟨(List.range len).map q, ⟨some a, _, by simp, by simpa using hl, hm, fun i hi => ?_⟩, fun i hi => ?_⟩
  · simp only [List.length_map, List.length_range] at hi
    obtain ⟨b, o, sp⟩ := a
    have hs : sp = none := by simpa [Addr.add] using World.cell?_spot ((hq 0 (by omega)).1 0 (by omega))
    subst hs
    refine ⟨b, o, rfl, fun j hj => ?_⟩
    rw [← add_plain, (hq i hi).1 j hj]
    simp [List.getD, hi]
  · simp only [List.length_map, List.length_range] at hi
    have e : ((List.range len).map q).getD i default = q i := by simp [List.getD, hi]
    rw [e]
    exact (hq i hi).2

set_option maxRecDepth 100000 in
theorem open_BillOpS {H : Type} {enc : TypeId × Value → H} {W : World} {base : Nat} {v0 : Value} {d0 : DataW H} {p0 : List MemPlace} (hv : Value.okWide Try.prog W .any base 57 v0)
    (h0 : DataW.Trod enc Try.prog W 0 (fun _ => true) true 57 v0 d0 p0) : ∃ L, RBillOp W v0 L ∧ ∀ i, i < L.length → txtBillOp (L.getD i default) maxLen := by
  obtain ⟨a0, len0, cap0, rfl⟩ := okWide_slice Try.underlying57 hv
  obtain ⟨fuel, hf⟩ := h0
  exact recsBillOp_open Try.underlying57 Try.underlying52 (by kernel_rfl) rfl rfl hf

theorem intsS_open {H : Type} {enc : TypeId × Value → H} {W : World} {v : Value} {fuel : Nat} {x : DataW H × List MemPlace} {P : Program} {t ti : TypeId} (hi : P.underlying ti = some (.int .i64)) (ci : P.cellsOf ti = 1)
    (ht : P.underlying t = some (.slice ti)) (h : DataW.trod enc P W 0 (fun _ => true) true fuel t [v] = some x) : ∃ L, IntsIn W v L ∧ ∀ i, i < L.length → -9223372036854775808 ≤ L.getD i 0 ∧ L.getD i 0 ≤ 9223372036854775807 := by
  rcases open_ints ht hi ci h with ⟨hcs, _⟩ | ⟨a, len, cap, zs, hcs, _, hl, hm, hz, _, hcell, hwf⟩
  · simp only [List.cons.injEq, and_true] at hcs
    subst hcs
    exact ⟨[], ⟨none, 0, rfl, Nat.le_refl _, Nat.zero_le _, fun i hi => by simp at hi⟩, fun i hi => by simp at hi⟩
  · simp only [List.cons.injEq, and_true] at hcs
    subst hcs
    simp only [if_true] at hz
    have hl' : (zs.take len).length = len := by rw [List.length_take]; omega
    have hg : ∀ i, i < len → (zs.take len).getD i 0 = zs.getD i 0 := fun i hi => by simp [List.getD, hi]
    refine ⟨zs.take len, ⟨some a, cap, by rw [hl'], by rw [hl']; exact hl, hm, fun i hi => ?_⟩, fun i hi => ?_⟩
    · rw [hl'] at hi
      obtain ⟨b, o, sp⟩ := a
      have hs : sp = none := by simpa [Addr.add] using World.cell?_spot (hcell 0 (by omega))
      subst hs
      refine ⟨b, o, rfl, ?_⟩
      rw [← add_plain, hcell i (by omega), hg i hi]
    · rw [hl'] at hi
      rw [hg i hi]
      have hm' : zs.getD i 0 ∈ zs := by rw [getD_lt (show i < zs.length by omega)]; exact List.getElem_mem _
      have := hwf _ hm'
      clear hg hwf hcell hm'
      generalize zs.getD i 0 = y at *
      simp [Lit.wf, IntKind.min, IntKind.max, IntKind.bits, IntKind.signed] at this
      omega


set_option maxRecDepth 100000 in
theorem strs_open {H : Type} {enc : TypeId × Value → H} {W : World} {v : Value} {fuel : Nat} {x : DataW H × List MemPlace} (h : DataW.trod enc Try.prog W 0 (fun _ => true) true fuel 38 [v] = some x) : ∃ L, SIn W v L ∧ ∀ i, i < L.length → (L.getD i default).size ≤ maxLen := by
  rcases open_slice Try.underlying38 h with ⟨hcs, _⟩ | ⟨a, len, cap, m, n, D, Pl, hcs, _, hl, hm, hmm, _, hx⟩
  · simp only [List.cons.injEq, and_true] at hcs
    subst hcs
    exact ⟨[], cIn_nil, fun i hi => by simp at hi⟩
  simp only [List.cons.injEq, and_true] at hcs
  subst hcs
  simp only [if_true] at hmm
  subst hmm
  have each : ∀ i, i < len → ∃ q : ByteArray, W.cell? (a.add i) = some (.string q) ∧ q.size ≤ maxLen := by
    intro i hin
    obtain ⟨cs', h1, h2⟩ := hx i (by omega)
    rw [Try.cellStrM] at h1
    obtain ⟨_, hlen, hcell⟩ := World.cells?_some h1
    match cs', hlen with
    | [v0], _ =>
      obtain ⟨z, e, _, sz⟩ := DataW.trod_string Try.underlying9 h2
      simp only [List.cons.injEq, and_true] at e
      have d := hcell 0 (by omega)
      rw [add_add] at d
      subst e
      exact ⟨z, by simpa using d, sz⟩
  obtain ⟨q, hq⟩ := choose_lt each
  have eq : ∀ i, i < len → ((List.range len).map q).getD i default = q i := fun i hi => by simp [List.getD, hi]
  refine ⟨(List.range len).map q, ⟨some a, _, by simp, by simpa using hl, hm, fun i hi => ?_⟩, fun i hi => ?_⟩
  · simp only [List.length_map, List.length_range] at hi
    obtain ⟨b, o, sp⟩ := a
    have hs : sp = none := by simpa [Addr.add] using World.cell?_spot (hq 0 (by omega)).1
    subst hs
    rw [eq i hi]
    have c := (hq i hi).1
    rw [add_plain] at c
    exact ⟨b, o, rfl, c⟩
  · simp only [List.length_map, List.length_range] at hi
    rw [eq i hi]
    exact (hq i hi).2

set_option maxRecDepth 100000 in
theorem bills_open {H : Type} {enc : TypeId × Value → H} {W : World} {v : Value} {fuel : Nat} {x : DataW H × List MemPlace} (h : DataW.trod enc Try.prog W 0 (fun _ => true) true fuel 45 [v] = some x) : ∃ L, BlsIn W v L ∧ ∀ i, i < L.length → TxB (L.getD i default) := by
  have ce : Try.prog.cellsOf 113 = 5 := by kernel_rfl
  have cn : Try.prog.cellsOf 38 = 1 := by kernel_rfl
  rcases open_slice Try.underlying45 h with ⟨hcs, _⟩ | ⟨a, len, cap, m, n, D, Pl, hcs, _, hl, hm, hmm, _, hx⟩
  · simp only [List.cons.injEq, and_true] at hcs
    subst hcs
    exact ⟨[], blsIn_nil, fun i hi => by simp at hi⟩
  simp only [List.cons.injEq, and_true] at hcs
  subst hcs
  simp only [if_true] at hmm
  subst hmm
  have each : ∀ i, i < len → ∃ q : BlT, (W.cell? (a.add (i * 5)) = some (.int .i64 q.1) ∧ W.cell? (a.add (i * 5 + 1)) = some (.string q.2.1) ∧ W.cell? (a.add (i * 5 + 2)) = some (.string q.2.2.1) ∧ W.cell? (a.add (i * 5 + 3)) = some (.int .i64 q.2.2.2.1) ∧ ∃ na nc, W.cell? (a.add (i * 5 + 4)) = some (.slice na q.2.2.2.2.length nc) ∧ SIn W (.slice na q.2.2.2.2.length nc) q.2.2.2.2) ∧ TxB q := by
    intro i hin
    obtain ⟨cs', h1, h2⟩ := hx i (by omega)
    rw [ce] at h1
    obtain ⟨_, hlen, hcell⟩ := World.cells?_some h1
    obtain ⟨xs, k, hk, hxy, _, hxl, hf⟩ := DataW.trod_struct Try.underlying113 h2
    match xs, hxl, cs', hlen with
    | [y0, y1, y2, y3, y4], _, [v0, v1, v2, v3, v4], _ =>
      have g0 := hf 0 _ rfl
      have g1 := hf 1 _ rfl
      have g2 := hf 2 _ rfl
      have g3 := hf 3 _ rfl
      have g4 := hf 4 _ rfl
      simp [Try.cellIntM, Try.cellStrM, cn] at g0 g1 g2 g3 g4
      obtain ⟨z0, e0, _, _⟩ := DataW.trod_int Try.underlying3 g0
      obtain ⟨z1, e1, _, s1⟩ := DataW.trod_string Try.underlying9 g1
      obtain ⟨z2, e2, _, s2⟩ := DataW.trod_string Try.underlying9 g2
      obtain ⟨z3, e3, _, _⟩ := DataW.trod_int Try.underlying3 g3
      obtain ⟨M, hM, hT⟩ := strs_open g4
      simp only [List.cons.injEq, and_true] at e0 e1 e2 e3
      have d0 := hcell 0 (by omega)
      have d1 := hcell 1 (by omega)
      have d2 := hcell 2 (by omega)
      have d3 := hcell 3 (by omega)
      have d4 := hcell 4 (by omega)
      rw [add_add] at d0 d1 d2 d3 d4
      subst e0 e1 e2 e3
      obtain ⟨na, nc, eN, _⟩ := _root_.id hM
      subst eN
      exact ⟨(_, _, _, _, M), ⟨by simpa using d0, by simpa using d1, by simpa using d2, by simpa using d3, na, nc, by simpa using d4, hM⟩, s1, s2, hT⟩
  obtain ⟨q, hq⟩ := choose_lt each
  have eq : ∀ i, i < len → ((List.range len).map q).getD i default = q i := fun i hi => by simp [List.getD, hi]
  refine ⟨(List.range len).map q, ⟨some a, _, by simp, by simpa using hl, hm, fun i hi => ?_⟩, fun i hi => ?_⟩
  · simp only [List.length_map, List.length_range] at hi
    obtain ⟨b, o, sp⟩ := a
    have hs : sp = none := by simpa [Addr.add] using World.cell?_spot (hq 0 (by omega)).1.1
    subst hs
    rw [eq i hi]
    obtain ⟨⟨c0, c1, c2, c3, na, nc, c4, hU⟩, _⟩ := hq i hi
    rw [add_plain] at c0 c1 c2 c3 c4
    exact ⟨b, o, na, nc, rfl, c0, by rw [Nat.add_assoc]; exact c1, by rw [Nat.add_assoc]; exact c2, by rw [Nat.add_assoc]; exact c3, by rw [Nat.add_assoc]; exact c4, hU⟩
  · simp only [List.length_map, List.length_range] at hi
    rw [eq i hi]
    exact (hq i hi).2

theorem two_open {H : Type} {enc : TypeId × Value → H} {W : World} {base : Nat} {P : Program} {t : TypeId} {f0 f1 : Field} {v : Value} {d : DataW H} {p : List MemPlace} (hs : P.underlying t = some (.struct #[f0, f1]))
    (ho : [f0.offset, f1.offset] = [0, 1]) (hc : [P.cellsOf f0.type, P.cellsOf f1.type] = [1, 1]) (hC : P.cellsOf t = 2)
    (hv : Value.okWide P W .any base t v) (h : DataW.Trod enc P W 0 (fun _ => true) true t v d p) :
    ∃ (v0 v1 : Value) (y0 y1 : DataW H × List MemPlace) (n : Nat), v = .agg #[v0, v1] ∧ DataW.trod enc P W 0 (fun _ => true) true n f0.type [v0] = some y0 ∧ DataW.trod enc P W 0 (fun _ => true) true n f1.type [v1] = some y1 := by
  simp only [List.cons.injEq, and_true] at ho hc
  obtain ⟨o0, o1⟩ := ho
  obtain ⟨c0, c1⟩ := hc
  obtain ⟨⟨l⟩, rfl, hsz⟩ := okWide_struct hs hv
  rw [hC] at hsz
  obtain ⟨fuel, hf⟩ := h
  obtain ⟨xs, n, _, _, _, hlen, hx⟩ := DataW.trod_struct hs hf
  match l, hsz, xs, hlen with
  | [v0, v1], _, [y0, y1], _ =>
    have g0 := hx 0 f0 rfl
    have g1 := hx 1 f1 rfl
    simp [Value.cells, o0, o1, c0, c1] at g0 g1
    exact ⟨v0, v1, y0, y1, n, rfl, g0, g1⟩

set_option maxRecDepth 100000 in
theorem open_book {H : Type} {enc : TypeId × Value → H} {W : World} {base : Nat} {v0 : Value} {d0 : DataW H} {p0 : List MemPlace} (hv : Value.okWide Try.prog W .any base 47 v0)
    (h0 : DataW.Trod enc Try.prog W 0 (fun _ => true) true 47 v0 d0 p0) : ∃ bv fv b, v0 = vBook bv fv ∧ BkIn W bv fv b ∧ ∀ x ∈ b.1, TxB x := by
  obtain ⟨c0, c1, y0, y1, n, rfl, t0, t1⟩ := two_open Try.underlying47 (by kernel_rfl) (by kernel_rfl) (by kernel_rfl) hv h0
  obtain ⟨L, hL, hT⟩ := bills_open t0
  obtain ⟨F, hF, -⟩ := intsS_open Try.underlying3 Try.cellIntM Try.underlying25 t1
  exact ⟨c0, c1, (L, F), rfl, ⟨hL, hF⟩, fun x hx => by
    obtain ⟨i, hi, rfl⟩ := List.mem_iff_getElem.1 hx
    have := hT i hi
    rwa [getD_lt hi] at this⟩

end Go.Proofs.Ytmlnjfcokacjgaa

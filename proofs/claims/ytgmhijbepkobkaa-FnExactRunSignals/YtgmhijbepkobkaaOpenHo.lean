/- How what came in is opened. Written by wip/mkopen2.py. No statement about the program stands here. -/
import Derived.Test.YtgmhijbepkobkaaRSway
import Derived.Test.YtgmhijbepkobkaaRHoist
import Derived.Test.YtgmhijbepkobkaaRSignal
import Derived.Test.YtgmhijbepkobkaaHoM
import Derived.Test.YtgmhijbepkobkaaWalkA
import Derived.ProofKit
import Derived.OpenShut
import Derived.ShutString
import Derived.ChangeOld
import Derived.Below
import Derived.Deep.Matrix
import Derived.Lib.SmallJoins
namespace Go.Proofs.Ytgmhijbepkobkaa
open Go.ChangeShapes Go.WideShapes Go.ChangeAt Go.RowKit Go.Deep

theorem Try.ownM : ownKnob Try.prog.godebug = none := by kernel_rfl
theorem Try.laidOutM : laidOutB Try.prog = true := by kernel_rfl
theorem Try.cellIntM : Try.prog.cellsOf 3 = 1 := by kernel_rfl
theorem choose_lt {α : Type} [Inhabited α] {n : Nat} {p : Nat → α → Prop} (h : ∀ i, i < n → ∃ q, p i q) : ∃ f : Nat → α, ∀ i, i < n → p i (f i) :=
  ⟨fun i => if hi : i < n then Classical.choose (h i hi) else default, fun i hi => by simp only [dif_pos hi]; exact Classical.choose_spec (h i hi)⟩
/-- A struct Sway, opened. -/
theorem flatSway_open {H : Type} {enc : TypeId × Value → H} {W : World} {base : Nat} {v : Value} {d : DataW H} {p : List MemPlace} {f0 f1 f2 : Field} (hs : Try.prog.underlying 49 = some (.struct #[f0, f1, f2]))
    (ho : [f0.offset, f1.offset, f2.offset] = [0, 1, 2]) (hy : [f0.type, f1.type, f2.type] = [3, 3, 3]) (hC : Try.prog.cellsOf 49 = 3)
    (hv : Value.okWide Try.prog W .any base 49 v) (h : DataW.Trod enc Try.prog W 0 (fun _ => true) true 49 v d p) : ∃ (x0 : Int) (x1 : Int) (x2 : Int), v = vSway x0 x1 x2 := by
  simp only [List.cons.injEq, and_true] at ho hy
  obtain ⟨o0, o1, o2⟩ := ho
  obtain ⟨u0, u1, u2⟩ := hy
  obtain ⟨⟨l⟩, rfl, hsz⟩ := okWide_struct hs hv
  rw [hC] at hsz
  obtain ⟨fuel, hf⟩ := h
  obtain ⟨xs, n, _, _, _, hlen, hx⟩ := DataW.trod_struct hs hf
  match l, hsz, xs, hlen with
  | [v0, v1, v2], _, [y0, y1, y2], _ =>
    have g0 := hx 0 f0 rfl
    have g1 := hx 1 f1 rfl
    have g2 := hx 2 f2 rfl
    simp [Value.cells, o0, o1, o2, u0, u1, u2, Try.cellIntM] at g0 g1 g2
    obtain ⟨z0, e0, _, _⟩ := DataW.trod_int Try.underlying3 g0
    obtain ⟨z1, e1, _, _⟩ := DataW.trod_int Try.underlying3 g1
    obtain ⟨z2, e2, _, _⟩ := DataW.trod_int Try.underlying3 g2
    simp only [List.cons.injEq, and_true] at e0 e1 e2
    subst e0 e1 e2
    exact ⟨z0, z1, z2, rfl⟩

set_option maxRecDepth 100000 in
theorem open_Sway1 {H : Type} {enc : TypeId × Value → H} {W : World} {base : Nat} {v0 : Value} {d0 : DataW H} {p0 : List MemPlace} (hv : Value.okWide Try.prog W .any base 49 v0)
    (h0 : DataW.Trod enc Try.prog W 0 (fun _ => true) true 49 v0 d0 p0) : ∃ (x0 : Int) (x1 : Int) (x2 : Int), v0 = vSway x0 x1 x2 :=
  flatSway_open Try.underlying49 rfl rfl (by kernel_rfl) hv h0

/-- A struct Hoist, opened. -/
theorem flatHoist_open {H : Type} {enc : TypeId × Value → H} {W : World} {base : Nat} {v : Value} {d : DataW H} {p : List MemPlace} {f0 f1 f2 f3 f4 f5 f6 : Field} (hs : Try.prog.underlying 59 = some (.struct #[f0, f1, f2, f3, f4, f5, f6]))
    (ho : [f0.offset, f1.offset, f2.offset, f3.offset, f4.offset, f5.offset, f6.offset] = [0, 1, 2, 3, 4, 5, 6]) (hy : [f0.type, f1.type, f2.type, f3.type, f4.type, f5.type, f6.type] = [3, 3, 3, 3, 3, 3, 3]) (hC : Try.prog.cellsOf 59 = 7)
    (hv : Value.okWide Try.prog W .any base 59 v) (h : DataW.Trod enc Try.prog W 0 (fun _ => true) true 59 v d p) : ∃ (x0 : Int) (x1 : Int) (x2 : Int) (x3 : Int) (x4 : Int) (x5 : Int) (x6 : Int), v = vHoist x0 x1 x2 x3 x4 x5 x6 := by
  simp only [List.cons.injEq, and_true] at ho hy
  obtain ⟨o0, o1, o2, o3, o4, o5, o6⟩ := ho
  obtain ⟨u0, u1, u2, u3, u4, u5, u6⟩ := hy
  obtain ⟨⟨l⟩, rfl, hsz⟩ := okWide_struct hs hv
  rw [hC] at hsz
  obtain ⟨fuel, hf⟩ := h
  obtain ⟨xs, n, _, _, _, hlen, hx⟩ := DataW.trod_struct hs hf
  match l, hsz, xs, hlen with
  | [v0, v1, v2, v3, v4, v5, v6], _, [y0, y1, y2, y3, y4, y5, y6], _ =>
    have g0 := hx 0 f0 rfl
    have g1 := hx 1 f1 rfl
    have g2 := hx 2 f2 rfl
    have g3 := hx 3 f3 rfl
    have g4 := hx 4 f4 rfl
    have g5 := hx 5 f5 rfl
    have g6 := hx 6 f6 rfl
    simp [Value.cells, o0, o1, o2, o3, o4, o5, o6, u0, u1, u2, u3, u4, u5, u6, Try.cellIntM] at g0 g1 g2 g3 g4 g5 g6
    obtain ⟨z0, e0, _, _⟩ := DataW.trod_int Try.underlying3 g0
    obtain ⟨z1, e1, _, _⟩ := DataW.trod_int Try.underlying3 g1
    obtain ⟨z2, e2, _, _⟩ := DataW.trod_int Try.underlying3 g2
    obtain ⟨z3, e3, _, _⟩ := DataW.trod_int Try.underlying3 g3
    obtain ⟨z4, e4, _, _⟩ := DataW.trod_int Try.underlying3 g4
    obtain ⟨z5, e5, _, _⟩ := DataW.trod_int Try.underlying3 g5
    obtain ⟨z6, e6, _, _⟩ := DataW.trod_int Try.underlying3 g6
    simp only [List.cons.injEq, and_true] at e0 e1 e2 e3 e4 e5 e6
    subst e0 e1 e2 e3 e4 e5 e6
    exact ⟨z0, z1, z2, z3, z4, z5, z6, rfl⟩

set_option maxRecDepth 100000 in
theorem open_Hoist1 {H : Type} {enc : TypeId × Value → H} {W : World} {base : Nat} {v0 : Value} {d0 : DataW H} {p0 : List MemPlace} (hv : Value.okWide Try.prog W .any base 59 v0)
    (h0 : DataW.Trod enc Try.prog W 0 (fun _ => true) true 59 v0 d0 p0) : ∃ (x0 : Int) (x1 : Int) (x2 : Int) (x3 : Int) (x4 : Int) (x5 : Int) (x6 : Int), v0 = vHoist x0 x1 x2 x3 x4 x5 x6 :=
  flatHoist_open Try.underlying59 rfl rfl (by kernel_rfl) hv h0

/-- A struct Signal, opened. -/
theorem flatSignal_open {H : Type} {enc : TypeId × Value → H} {W : World} {base : Nat} {v : Value} {d : DataW H} {p : List MemPlace} {f0 f1 : Field} (hs : Try.prog.underlying 62 = some (.struct #[f0, f1]))
    (ho : [f0.offset, f1.offset] = [0, 1]) (hy : [f0.type, f1.type] = [3, 3]) (hC : Try.prog.cellsOf 62 = 2)
    (hv : Value.okWide Try.prog W .any base 62 v) (h : DataW.Trod enc Try.prog W 0 (fun _ => true) true 62 v d p) : ∃ (x0 : Int) (x1 : Int), v = vSignal x0 x1 := by
  simp only [List.cons.injEq, and_true] at ho hy
  obtain ⟨o0, o1⟩ := ho
  obtain ⟨u0, u1⟩ := hy
  obtain ⟨⟨l⟩, rfl, hsz⟩ := okWide_struct hs hv
  rw [hC] at hsz
  obtain ⟨fuel, hf⟩ := h
  obtain ⟨xs, n, _, _, _, hlen, hx⟩ := DataW.trod_struct hs hf
  match l, hsz, xs, hlen with
  | [v0, v1], _, [y0, y1], _ =>
    have g0 := hx 0 f0 rfl
    have g1 := hx 1 f1 rfl
    simp [Value.cells, o0, o1, u0, u1, Try.cellIntM] at g0 g1
    obtain ⟨z0, e0, _, _⟩ := DataW.trod_int Try.underlying3 g0
    obtain ⟨z1, e1, _, _⟩ := DataW.trod_int Try.underlying3 g1
    simp only [List.cons.injEq, and_true] at e0 e1
    subst e0 e1
    exact ⟨z0, z1, rfl⟩

set_option maxRecDepth 100000 in
theorem open_Signal1 {H : Type} {enc : TypeId × Value → H} {W : World} {base : Nat} {v0 : Value} {d0 : DataW H} {p0 : List MemPlace} (hv : Value.okWide Try.prog W .any base 62 v0)
    (h0 : DataW.Trod enc Try.prog W 0 (fun _ => true) true 62 v0 d0 p0) : ∃ (x0 : Int) (x1 : Int), v0 = vSignal x0 x1 :=
  flatSignal_open Try.underlying62 rfl rfl (by kernel_rfl) hv h0

theorem recsSignal_open {H : Type} {enc : TypeId × Value → H} {W : World} {v : Value} {fuel : Nat} {x : DataW H × List MemPlace} {f0 f1 : Field} (ht : Try.prog.underlying 66 = some (.slice 62)) (he : Try.prog.underlying 62 = some (.struct #[f0, f1])) (ce : Try.prog.cellsOf 62 = 2)
    (ho : [f0.offset, f1.offset] = [0, 1]) (hty : [f0.type, f1.type] = [3, 3])
    (h : DataW.trod enc Try.prog W 0 (fun _ => true) true fuel 66 [v] = some x) : ∃ L, RSignal W v L := by
  simp only [List.cons.injEq, and_true] at ho hty
  obtain ⟨o0, o1⟩ := ho
  obtain ⟨u0, u1⟩ := hty
  rcases open_slice ht h with ⟨hcs, _⟩ | ⟨a, len, cap, m, n, D, Pl, hcs, _, hl, hm, hmm, _, hx⟩
  · simp only [List.cons.injEq, and_true] at hcs
    subst hcs
    exact ⟨[], recsIn_nil⟩
  simp only [List.cons.injEq, and_true] at hcs
  subst hcs
  simp only [if_true] at hmm
  subst hmm
  have each : ∀ i, i < len → ∃ q : SignalT, (∀ j, j < 2 → W.cell? (a.add (i * 2 + j)) = some (eSignal q j)) ∧ True := by
    intro i hin
    obtain ⟨cs', h1, h2⟩ := hx i (by omega)
    rw [ce] at h1
    obtain ⟨_, hlen, hcell⟩ := World.cells?_some h1
    obtain ⟨xs, k, hk, hxy, _, hxl, hf⟩ := DataW.trod_struct he h2
    match xs, hxl, cs', hlen with
    | [y0, y1], _, [v0, v1], _ =>
      have g0 := hf 0 f0 rfl
      have g1 := hf 1 f1 rfl
      simp [o0, o1, u0, u1, Try.cellIntM] at g0 g1
      obtain ⟨z0, e0, _, _⟩ := DataW.trod_int Try.underlying3 g0
      obtain ⟨z1, e1, _, _⟩ := DataW.trod_int Try.underlying3 g1
      simp only [List.cons.injEq, and_true] at e0 e1
      have d0 := hcell 0 (by omega)
      rw [add_add] at d0
      subst e0
      have d1 := hcell 1 (by omega)
      rw [add_add] at d1
      subst e1
      refine ⟨(z0, z1), fun j hj => ?_, trivial⟩
      match j, hj with
      | 0, _ => simpa [eSignal] using d0
      | 1, _ => simpa [eSignal] using d1
  obtain ⟨q, hq⟩ := choose_lt each
  refine ⟨(List.range len).map q, ⟨some a, _, by simp, by simpa using hl, hm, fun i hi => ?_⟩⟩
  · simp only [List.length_map, List.length_range] at hi
    obtain ⟨b, o, sp⟩ := a
    have hs : sp = none := by simpa [Addr.add] using World.cell?_spot ((hq 0 (by omega)).1 0 (by omega))
    subst hs
    refine ⟨b, o, rfl, fun j hj => ?_⟩
    rw [← add_plain, (hq i hi).1 j hj]
    simp [List.getD, hi]

set_option maxRecDepth 100000 in
theorem open_SignalS {H : Type} {enc : TypeId × Value → H} {W : World} {base : Nat} {v0 : Value} {d0 : DataW H} {p0 : List MemPlace} (hv : Value.okWide Try.prog W .any base 66 v0)
    (h0 : DataW.Trod enc Try.prog W 0 (fun _ => true) true 66 v0 d0 p0) : ∃ L, RSignal W v0 L := by
  obtain ⟨a0, len0, cap0, rfl⟩ := okWide_slice Try.underlying66 hv
  obtain ⟨fuel, hf⟩ := h0
  exact recsSignal_open Try.underlying66 Try.underlying62 (by kernel_rfl) rfl rfl hf

theorem intsS_open {H : Type} {enc : TypeId × Value → H} {W : World} {v : Value} {fuel : Nat} {x : DataW H × List MemPlace} {P : Program} {t ti : TypeId} (hi : P.underlying ti = some (.int .i64)) (ci : P.cellsOf ti = 1)
    (ht : P.underlying t = some (.slice ti)) (h : DataW.trod enc P W 0 (fun _ => true) true fuel t [v] = some x) : ∃ L, IntsIn W v L ∧ ∀ i, i < L.length → -9223372036854775808 ≤ L.getD i 0 ∧ L.getD i 0 ≤ 9223372036854775807 := by
  rcases open_ints ht hi ci h with ⟨hcs, _⟩ | ⟨a, len, cap, zs, hcs, _, hl, hm, hz, _, hcell, hwf⟩
  · simp only [List.cons.injEq, and_true] at hcs
    subst hcs
    exact ⟨[], ⟨none, 0, rfl, Nat.le_refl _, Nat.zero_le _, fun i hi => by simp at hi⟩, fun i hi => by simp at hi⟩
  · simp only [List.cons.injEq, and_true] at hcs
    subst hcs
    simp only [if_true] at hz
    have hl' : (zs.take len).length = len := by rw [List.length_take]; omega
    have hg : ∀ i, i < len → (zs.take len).getD i 0 = zs.getD i 0 := fun i hi => by simp [List.getD, hi]
    refine ⟨zs.take len, ⟨some a, cap, by rw [hl'], by rw [hl']; exact hl, hm, fun i hi => ?_⟩, fun i hi => ?_⟩
    · rw [hl'] at hi
      obtain ⟨b, o, sp⟩ := a
      have hs : sp = none := by simpa [Addr.add] using World.cell?_spot (hcell 0 (by omega))
      subst hs
      refine ⟨b, o, rfl, ?_⟩
      rw [← add_plain, hcell i (by omega), hg i hi]
    · rw [hl'] at hi
      rw [hg i hi]
      have hm' : zs.getD i 0 ∈ zs := by rw [getD_lt (show i < zs.length by omega)]; exact List.getElem_mem _
      have := hwf _ hm'
      clear hg hwf hcell hm'
      generalize zs.getD i 0 = y at *
      simp [Lit.wf, IntKind.min, IntKind.max, IntKind.bits, IntKind.signed] at this
      omega

set_option maxRecDepth 100000 in
theorem open_intL {H : Type} {enc : TypeId × Value → H} {W : World} {base : Nat} {v0 : Value} {d0 : DataW H} {p0 : List MemPlace} (hv : Value.okWide Try.prog W .any base 25 v0)
    (h0 : DataW.Trod enc Try.prog W 0 (fun _ => true) true 25 v0 d0 p0) : ∃ L, IntsIn W v0 L := by
  obtain ⟨a0, len0, cap0, rfl⟩ := okWide_slice Try.underlying25 hv
  obtain ⟨fuel, hf⟩ := h0
  obtain ⟨L, hL, -⟩ := intsS_open Try.underlying3 Try.cellIntM Try.underlying25 hf
  exact ⟨L, hL⟩


end Go.Proofs.Ytgmhijbepkobkaa

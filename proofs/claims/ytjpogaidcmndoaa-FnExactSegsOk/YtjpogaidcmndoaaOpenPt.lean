/- How what came in is opened. Written by wip/mkopen2.py. No statement about the program stands here. -/
import Derived.Test.YtjpogaidcmndoaaRPost
import Derived.Test.YtjpogaidcmndoaaPaA
import Derived.Test.YtjpogaidcmndoaaWalkA
import Derived.ProofKit
import Derived.OpenShut
import Derived.ShutString
import Derived.ChangeOld
import Derived.Below
import Derived.Deep.Matrix
import Derived.Lib.SmallJoins
namespace Go.Proofs.Ytjpogaidcmndoaa
open Go.ChangeShapes Go.WideShapes Go.ChangeAt Go.RowKit Go.Deep

theorem Try.ownM : ownKnob Try.prog.godebug = none := by kernel_rfl
theorem Try.laidOutM : laidOutB Try.prog = true := by kernel_rfl
theorem Try.cellIntM : Try.prog.cellsOf 3 = 1 := by kernel_rfl
theorem Try.cellStrM : Try.prog.cellsOf 9 = 1 := by kernel_rfl
theorem Try.cellBoolM : Try.prog.cellsOf 4 = 1 := by kernel_rfl
theorem choose_lt {α : Type} [Inhabited α] {n : Nat} {p : Nat → α → Prop} (h : ∀ i, i < n → ∃ q, p i q) : ∃ f : Nat → α, ∀ i, i < n → p i (f i) :=
  ⟨fun i => if hi : i < n then Classical.choose (h i hi) else default, fun i hi => by simp only [dif_pos hi]; exact Classical.choose_spec (h i hi)⟩
set_option maxRecDepth 100000 in
theorem open_str {H : Type} {enc : TypeId × Value → H} {W : World} {base : Nat} {v0 : Value} {d0 : DataW H} {p0 : List MemPlace} (hv : Value.okWide Try.prog W .any base 9 v0)
    (h0 : DataW.Trod enc Try.prog W 0 (fun _ => true) true 9 v0 d0 p0) : ∃ s, v0 = .string s ∧ s.size ≤ maxLen := by
  obtain ⟨s0, rfl⟩ := okWide_string Try.underlying9 hv
  obtain ⟨fuel, hf⟩ := h0
  obtain ⟨s, e, _, sz⟩ := DataW.trod_string Try.underlying9 hf
  have e' : [Value.string s0] = [Value.string s] := e
  simp only [List.cons.injEq, and_true] at e'
  exact ⟨s, e', sz⟩

set_option maxRecDepth 100000 in
theorem strs_open {H : Type} {enc : TypeId × Value → H} {W : World} {v : Value} {fuel : Nat} {x : DataW H × List MemPlace} (h : DataW.trod enc Try.prog W 0 (fun _ => true) true fuel 34 [v] = some x) : ∃ L, SIn W v L ∧ ∀ i, i < L.length → (L.getD i default).size ≤ maxLen := by
  rcases open_slice Try.underlying34 h with ⟨hcs, _⟩ | ⟨a, len, cap, m, n, D, Pl, hcs, _, hl, hm, hmm, _, hx⟩
  · simp only [List.cons.injEq, and_true] at hcs
    subst hcs
    exact ⟨[], cIn_nil, fun i hi => by simp at hi⟩
  simp only [List.cons.injEq, and_true] at hcs
  subst hcs
  simp only [if_true] at hmm
  subst hmm
  have each : ∀ i, i < len → ∃ q : ByteArray, W.cell? (a.add i) = some (.string q) ∧ q.size ≤ maxLen := by
    intro i hin
    obtain ⟨cs', h1, h2⟩ := hx i (by omega)
    rw [Try.cellStrM] at h1
    obtain ⟨_, hlen, hcell⟩ := World.cells?_some h1
    match cs', hlen with
    | [v0], _ =>
      obtain ⟨z, e, _, sz⟩ := DataW.trod_string Try.underlying9 h2
      simp only [List.cons.injEq, and_true] at e
      have d := hcell 0 (by omega)
      rw [add_add] at d
      subst e
      exact ⟨z, by simpa using d, sz⟩
  obtain ⟨q, hq⟩ := choose_lt each
  have eq : ∀ i, i < len → ((List.range len).map q).getD i default = q i := fun i hi => by simp [List.getD, hi]
  refine ⟨(List.range len).map q, ⟨some a, _, by simp, by simpa using hl, hm, fun i hi => ?_⟩, fun i hi => ?_⟩
  · simp only [List.length_map, List.length_range] at hi
    obtain ⟨b, o, sp⟩ := a
    have hs : sp = none := by simpa [Addr.add] using World.cell?_spot (hq 0 (by omega)).1
    subst hs
    rw [eq i hi]
    have c := (hq i hi).1
    rw [add_plain] at c
    exact ⟨b, o, rfl, c⟩
  · simp only [List.length_map, List.length_range] at hi
    rw [eq i hi]
    exact (hq i hi).2

theorem three_open {H : Type} {enc : TypeId × Value → H} {W : World} {base : Nat} {P : Program} {t : TypeId} {f0 f1 f2 : Field} {v : Value} {d : DataW H} {p : List MemPlace} (hs : P.underlying t = some (.struct #[f0, f1, f2]))
    (ho : [f0.offset, f1.offset, f2.offset] = [0, 1, 2]) (hc : [P.cellsOf f0.type, P.cellsOf f1.type, P.cellsOf f2.type] = [1, 1, 1]) (hC : P.cellsOf t = 3)
    (hv : Value.okWide P W .any base t v) (h : DataW.Trod enc P W 0 (fun _ => true) true t v d p) :
    ∃ (v0 v1 v2 : Value) (y0 y1 y2 : DataW H × List MemPlace) (n : Nat), v = .agg #[v0, v1, v2] ∧
      DataW.trod enc P W 0 (fun _ => true) true n f0.type [v0] = some y0 ∧ DataW.trod enc P W 0 (fun _ => true) true n f1.type [v1] = some y1 ∧ DataW.trod enc P W 0 (fun _ => true) true n f2.type [v2] = some y2 := by
  simp only [List.cons.injEq, and_true] at ho hc
  obtain ⟨o0, o1, o2⟩ := ho
  obtain ⟨c0, c1, c2⟩ := hc
  obtain ⟨⟨l⟩, rfl, hsz⟩ := okWide_struct hs hv
  rw [hC] at hsz
  obtain ⟨fuel, hf⟩ := h
  obtain ⟨xs, n, _, _, _, hlen, hx⟩ := DataW.trod_struct hs hf
  match l, hsz, xs, hlen with
  | [v0, v1, v2], _, [y0, y1, y2], _ =>
    have g0 := hx 0 f0 rfl
    have g1 := hx 1 f1 rfl
    have g2 := hx 2 f2 rfl
    simp [Value.cells, o0, o1, o2, c0, c1, c2] at g0 g1 g2
    exact ⟨v0, v1, v2, y0, y1, y2, n, rfl, g0, g1, g2⟩

set_option maxRecDepth 100000 in
theorem open_party {H : Type} {enc : TypeId × Value → H} {W : World} {base : Nat} {v0 : Value} {d0 : DataW H} {p0 : List MemPlace} (hv : Value.okWide Try.prog W .any base 44 v0)
    (h0 : DataW.Trod enc Try.prog W 0 (fun _ => true) true 44 v0 d0 p0) :
    ∃ (sv gv : Value) (S : List ByteArray) (tk : Int) (G : List ByteArray), v0 = vParty sv tk gv ∧ PtIn W sv gv S G ∧ (∀ i, i < S.length → (S.getD i default).size ≤ maxLen) ∧ (∀ i, i < G.length → (G.getD i default).size ≤ maxLen) := by
  obtain ⟨c0, c1, c2, y0, y1, y2, n, rfl, t0, t1, t2⟩ := three_open Try.underlying44 (by kernel_rfl) (by kernel_rfl) (by kernel_rfl) hv h0
  obtain ⟨S, hS, zS⟩ := strs_open t0
  obtain ⟨G, hG, zG⟩ := strs_open t2
  obtain ⟨tk, e2, _, _⟩ := DataW.trod_int Try.underlying3 t1
  simp only [List.cons.injEq, and_true] at e2
  subst e2
  exact ⟨c0, c2, S, tk, G, rfl, ⟨hS, hG⟩, zS, zG⟩

end Go.Proofs.Ytjpogaidcmndoaa

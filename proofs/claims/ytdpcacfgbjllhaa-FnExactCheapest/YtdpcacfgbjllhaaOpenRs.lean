/- How slices of flat structs of whole numbers and texts that came in are opened. Written by wip/mkopenm.py. -/
import Derived.Test.YtdpcacfgbjllhaaRClosed
import Derived.ProofKit
import Derived.OpenShut
import Derived.ShutString
import Derived.ChangeOld
import Derived.Below
import Derived.Deep.Matrix
import Derived.Lib.SmallJoins
namespace Go.Proofs.Ytdpcacfgbjllhaa
open Go.ChangeShapes Go.WideShapes Go.ChangeAt Go.RowKit Go.Deep

theorem Try.ownM : ownKnob Try.prog.godebug = none := by kernel_rfl
theorem Try.laidOutM : laidOutB Try.prog = true := by kernel_rfl
theorem Try.cellIntM : Try.prog.cellsOf 3 = 1 := by kernel_rfl
theorem Try.cellStrM : Try.prog.cellsOf 9 = 1 := by kernel_rfl

theorem recClosed_open {H : Type} {enc : TypeId × Value → H} {W : World} {v : Value} {fuel : Nat} {x : DataW H × List MemPlace} {P : Program} {t e ti ts : TypeId} {f0 f1 f2 f3 f4 f5 : Field} (hi : P.underlying ti = some (.int .i64)) (_hs : P.underlying ts = some .string) (ci : P.cellsOf ti = 1) (_cst : P.cellsOf ts = 1)
    (ht : P.underlying t = some (.slice e)) (he : P.underlying e = some (.struct #[f0, f1, f2, f3, f4, f5])) (ce : P.cellsOf e = 6)
    (ho : [f0.offset, f1.offset, f2.offset, f3.offset, f4.offset, f5.offset] = [0, 1, 2, 3, 4, 5]) (hty : [f0.type, f1.type, f2.type, f3.type, f4.type, f5.type] = [ti, ti, ti, ti, ti, ti])
    (h : DataW.trod enc P W 0 (fun _ => true) true fuel t [v] = some x) : ∃ L, RClosed W v L ∧ ∀ i, i < L.length → True := by
  simp only [List.cons.injEq, and_true] at ho hty
  obtain ⟨o0, o1, o2, o3, o4, o5⟩ := ho
  obtain ⟨u0, u1, u2, u3, u4, u5⟩ := hty
  rcases open_slice ht h with ⟨hcs, _⟩ | ⟨a, len, cap, m, n, D, Pl, hcs, _, hl, hm, hmm, _, hx⟩
  · simp only [List.cons.injEq, and_true] at hcs
    subst hcs
    exact ⟨[], recsIn_nil, fun i hi => by simp at hi⟩
  simp only [List.cons.injEq, and_true] at hcs
  subst hcs
  simp only [if_true] at hmm
  subst hmm
  have each : ∀ i, i < len → ∃ q : ClosedT, (∀ j, j < 6 → W.cell? (a.add (i * 6 + j)) = some (eClosed q j)) ∧ True := by
    intro i hin
    obtain ⟨cs', h1, h2⟩ := hx i (by omega)
    rw [ce] at h1
    obtain ⟨_, hlen, hcell⟩ := World.cells?_some h1
    obtain ⟨xs, k, hk, hxy, _, hxl, hf⟩ := DataW.trod_struct he h2
    match xs, hxl, cs', hlen with
    | [y0, y1, y2, y3, y4, y5], _, [v0, v1, v2, v3, v4, v5], _ =>
      have g0 := hf 0 f0 rfl
      have g1 := hf 1 f1 rfl
      have g2 := hf 2 f2 rfl
      have g3 := hf 3 f3 rfl
      have g4 := hf 4 f4 rfl
      have g5 := hf 5 f5 rfl
      simp [o0, o1, o2, o3, o4, o5, u0, u1, u2, u3, u4, u5, ci] at g0 g1 g2 g3 g4 g5
      obtain ⟨z0, e0, _, _⟩ := DataW.trod_int hi g0
      obtain ⟨z1, e1, _, _⟩ := DataW.trod_int hi g1
      obtain ⟨z2, e2, _, _⟩ := DataW.trod_int hi g2
      obtain ⟨z3, e3, _, _⟩ := DataW.trod_int hi g3
      obtain ⟨z4, e4, _, _⟩ := DataW.trod_int hi g4
      obtain ⟨z5, e5, _, _⟩ := DataW.trod_int hi g5
      simp only [List.cons.injEq, and_true] at e0 e1 e2 e3 e4 e5
      have d0 := hcell 0 (by omega)
      rw [add_add] at d0
      subst e0
      have d1 := hcell 1 (by omega)
      rw [add_add] at d1
      subst e1
      have d2 := hcell 2 (by omega)
      rw [add_add] at d2
      subst e2
      have d3 := hcell 3 (by omega)
      rw [add_add] at d3
      subst e3
      have d4 := hcell 4 (by omega)
      rw [add_add] at d4
      subst e4
      have d5 := hcell 5 (by omega)
      rw [add_add] at d5
      subst e5
      refine ⟨(z0, z1, z2, z3, z4, z5), fun j hj => ?_, trivial⟩
      match j, hj with
      | 0, _ => simpa [eClosed] using d0
      | 1, _ => simpa [eClosed] using d1
      | 2, _ => simpa [eClosed] using d2
      | 3, _ => simpa [eClosed] using d3
      | 4, _ => simpa [eClosed] using d4
      | 5, _ => simpa [eClosed] using d5
  obtain ⟨q, hq⟩ := choose_lt each
  refine ⟨(List.range len).map q, ⟨some a, _, by simp, by simpa using hl, hm, fun i hi => ?_⟩, fun i _ => ?_⟩
  · simp only [List.length_map, List.length_range] at hi
    obtain ⟨b, o, sp⟩ := a
    have hs : sp = none := by simpa [Addr.add] using World.cell?_spot ((hq 0 (by omega)).1 0 (by omega))
    subst hs
    refine ⟨b, o, rfl, fun j hj => ?_⟩
    rw [← add_plain, (hq i hi).1 j hj]
    simp [List.getD, hi]
  · trivial

end Go.Proofs.Ytdpcacfgbjllhaa

/- How a list of radios that came in is opened. No statement about the program stands here. -/
import Derived.Test.YtkjikjeecjendaaOpenK
import Derived.Test.YtkjikjeecjendaaRdA
namespace Go.Proofs.Ytkjikjeecjendaa
open Go.ChangeShapes Go.WideShapes Go.ChangeAt Go.RowKit Go.Deep

set_option maxRecDepth 100000 in
theorem rads_open {H : Type} {enc : TypeId × Value → H} {W : World} {v : Value} {fuel : Nat} {x : DataW H × List MemPlace} (h : DataW.trod enc Try.prog W 0 (fun _ => true) true fuel 55 [v] = some x) : ∃ L, RadsIn W v L := by
  have ce : Try.prog.cellsOf 90 = 3 := by kernel_rfl
  have cn : Try.prog.cellsOf 34 = 1 := by kernel_rfl
  rcases open_slice Try.underlying55 h with ⟨hcs, _⟩ | ⟨a, len, cap, m, n, D, Pl, hcs, _, hl, hm, hmm, _, hx⟩
  · simp only [List.cons.injEq, and_true] at hcs
    subst hcs
    exact ⟨[], radsIn_nil⟩
  simp only [List.cons.injEq, and_true] at hcs
  subst hcs
  simp only [if_true] at hmm
  subst hmm
  have each : ∀ i, i < len → ∃ q : Rad, W.cell? (a.add (i * 3)) = some (.int .i64 q.1) ∧ W.cell? (a.add (i * 3 + 1)) = some (.int .i64 q.2.1) ∧ ∃ na nc, W.cell? (a.add (i * 3 + 2)) = some (.slice na q.2.2.length nc) ∧ IntsIn W (.slice na q.2.2.length nc) q.2.2 := by
    intro i hin
    obtain ⟨cs', h1, h2⟩ := hx i (by omega)
    rw [ce] at h1
    obtain ⟨_, hlen, hcell⟩ := World.cells?_some h1
    obtain ⟨xs, k, hk, hxy, _, hxl, hf⟩ := DataW.trod_struct Try.underlying90 h2
    match xs, hxl, cs', hlen with
    | [y0, y1, y2], _, [v0, v1, v2], _ =>
      have g0 := hf 0 _ rfl
      have g1 := hf 1 _ rfl
      have g2 := hf 2 _ rfl
      simp [Try.cellIntM, cn] at g0 g1 g2
      obtain ⟨id, e0, _, _⟩ := DataW.trod_int Try.underlying3 g0
      obtain ⟨sl, e1, _, _⟩ := DataW.trod_int Try.underlying3 g1
      obtain ⟨M, hM, _⟩ := intsS_open Try.underlying3 Try.cellIntM Try.underlying34 g2
      simp only [List.cons.injEq, and_true] at e0 e1
      have d0 := hcell 0 (by omega)
      have d1 := hcell 1 (by omega)
      have d2 := hcell 2 (by omega)
      rw [add_add] at d0 d1 d2
      subst e0 e1
      obtain ⟨na, nc, eN, _⟩ := _root_.id hM
      subst eN
      exact ⟨(_, _, M), by simpa using d0, by simpa using d1, na, nc, by simpa using d2, hM⟩
  obtain ⟨q, hq⟩ := choose_lt each
  have eq : ∀ i, i < len → ((List.range len).map q).getD i default = q i := fun i hi => by simp [List.getD, hi]
  refine ⟨(List.range len).map q, ⟨some a, _, by simp, by simpa using hl, hm, fun i hi => ?_⟩⟩
  simp only [List.length_map, List.length_range] at hi
  obtain ⟨b, o, sp⟩ := a
  have hs : sp = none := by simpa [Addr.add] using World.cell?_spot (hq 0 (by omega)).1
  subst hs
  rw [eq i hi]
  obtain ⟨c0, c1, na, nc, c2, hU⟩ := hq i hi
  rw [add_plain] at c0 c1 c2
  exact ⟨b, o, na, nc, rfl, c0, by rw [Nat.add_assoc]; exact c1, by rw [Nat.add_assoc]; exact c2, hU⟩

set_option maxRecDepth 100000 in
theorem open_radios {H : Type} {enc : TypeId × Value → H} {W : World} {base : Nat} {v0 : Value} {d0 : DataW H} {p0 : List MemPlace} (hv : Value.okWide Try.prog W .any base 55 v0)
    (h0 : DataW.Trod enc Try.prog W 0 (fun _ => true) true 55 v0 d0 p0) : ∃ L, RadsIn W v0 L := by
  obtain ⟨a, len, cap, rfl⟩ := okWide_slice Try.underlying55 hv
  obtain ⟨fuel, hf⟩ := h0
  exact rads_open hf

end Go.Proofs.Ytkjikjeecjendaa

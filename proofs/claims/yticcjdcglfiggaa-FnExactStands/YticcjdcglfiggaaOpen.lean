/- How a hull that came in is opened: its two numbers, and the lists of numbers that its third field holds. -/
import Derived.Test.YticcjdcglfiggaaWalkA
import Derived.ProofKit
import Derived.OpenShut
import Derived.ShutString
import Derived.ChangeOld
import Derived.Below
import Derived.Deep.Matrix
import Derived.Lib.SmallJoins
namespace Go.Proofs.Yticcjdcglfiggaa
open Go.ChangeShapes Go.WideShapes Go.ChangeAt Go.RowKit Go.Deep

theorem Try.own : ownKnob Try.prog.godebug = none := by kernel_rfl
theorem Try.laidOut : laidOutB Try.prog = true := by kernel_rfl
theorem Try.cells3 : Try.prog.cellsOf 3 = 1 := by kernel_rfl
theorem Try.cells31 : Try.prog.cellsOf 31 = 1 := by kernel_rfl
theorem Try.cells48 : Try.prog.cellsOf 48 = 3 := by kernel_rfl

theorem rows_open {H : Type} {enc : TypeId × Value → H} {W : World} {v : Value} {fuel : Nat} {x : DataW H × List MemPlace}
    (h : DataW.trod enc Try.prog W 0 (fun _ => true) true fuel 24 [v] = some x) : ∃ R, RowsIn W v R := by
  rcases open_int_rows Try.underlying24 Try.underlying31 Try.underlying3 Try.cells31 Try.cells3 h with ⟨hcs, _⟩ | ⟨a, len, cap, A, L, C, Z, hcs, _, hl, hm, _, hrows⟩
  · simp only [List.cons.injEq, and_true] at hcs
    subst hcs
    exact ⟨[], none, 0, rfl, Nat.le_refl _, Nat.zero_le _, fun r hr => by simp at hr⟩
  · simp only [List.cons.injEq, and_true] at hcs
    subst hcs
    refine ⟨(List.range len).map fun r => (Z r).take (L r), some a, cap, by simp, by simpa using hl, hm, fun r hr => ?_⟩
    simp only [List.length_map, List.length_range] at hr
    obtain ⟨hc, h1, h2, h3, _, h5, h6⟩ := hrows r (by omega)
    obtain ⟨b, o, sp⟩ := a
    have hs : sp = none := by simpa [Addr.add] using World.cell?_spot (hrows 0 (by omega)).1
    subst hs
    have eR : ((List.range len).map fun r => (Z r).take (L r)).getD r [] = (Z r).take (L r) := by simp [List.getD, hr]
    have eL : ((Z r).take (L r)).length = L r := by rw [List.length_take]; omega
    refine ⟨b, o, _, rfl, by rw [← add_plain]; exact hc, ?_⟩
    rw [eR]
    refine ⟨A r, C r, by rw [eL], by rw [eL]; exact h1, h2, fun i hi => ?_⟩
    rw [eL] at hi
    cases hA : A r with
    | none => have := h5 hA; omega
    | some a' =>
      obtain ⟨_, hcell⟩ := h6 a' hA
      obtain ⟨b', o', sp'⟩ := a'
      have hs' : sp' = none := by simpa [Addr.add] using World.cell?_spot (hcell 0 (by omega))
      subst hs'
      refine ⟨b', o', rfl, ?_⟩
      rw [← add_plain, hcell i (by omega)]
      simp [List.getD, hi]

set_option maxRecDepth 100000 in
theorem open_hull {H : Type} {enc : TypeId × Value → H} {W : World} {base : Nat} {v0 : Value} {d0 : DataW H} {p0 : List MemPlace} (hv : Value.okWide Try.prog W .any base 48 v0)
    (h0 : DataW.Trod enc Try.prog W 0 (fun _ => true) true 48 v0 d0 p0) : ∃ step rise v R, v0 = hullV step rise v ∧ RowsIn W v R := by
  obtain ⟨c0, c1, c2, y0, y1, y2, n, rfl, _, _, t0, t1, t2⟩ := Joins.open_agg3 Try.underlying48 (by kernel_rfl) Try.cells48 hv h0
  obtain ⟨a, e0, _, _⟩ := DataW.trod_int Try.underlying3 t0
  obtain ⟨b, e1, _, _⟩ := DataW.trod_int Try.underlying3 t1
  obtain ⟨R, hR⟩ := rows_open t2
  simp only [List.cons.injEq, and_true] at e0 e1
  subst e0 e1
  exact ⟨a, b, c2, R, rfl, hR⟩

end Go.Proofs.Yticcjdcglfiggaa

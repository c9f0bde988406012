/- How a ship that came in is opened: its six numbers. No statement about the program stands here. -/
import Derived.Test.YtmgcpllkielpkaaOpenRh
namespace Go.Proofs.Ytmgcpllkielpkaa
open Go.ChangeShapes Go.WideShapes Go.ChangeAt Go.RowKit Go.Deep

/-- A struct of six ints, opened. -/
theorem six_open {H : Type} {enc : TypeId × Value → H} {W : World} {base : Nat} {P : Program} {t ti : TypeId} {f0 f1 f2 f3 f4 f5 : Field} {v : Value} {d : DataW H} {p : List MemPlace} (hi : P.underlying ti = some (.int .i64)) (hs : P.underlying t = some (.struct #[f0, f1, f2, f3, f4, f5]))
    (ho : [f0.offset, f1.offset, f2.offset, f3.offset, f4.offset, f5.offset] = [0, 1, 2, 3, 4, 5]) (hy : [f0.type, f1.type, f2.type, f3.type, f4.type, f5.type] = [ti, ti, ti, ti, ti, ti]) (hc : P.cellsOf ti = 1) (hC : P.cellsOf t = 6)
    (hv : Value.okWide P W .any base t v) (h : DataW.Trod enc P W 0 (fun _ => true) true t v d p) : ∃ x0 x1 x2 x3 x4 x5 : Int, v = .agg #[.int .i64 x0, .int .i64 x1, .int .i64 x2, .int .i64 x3, .int .i64 x4, .int .i64 x5] := by
  simp only [List.cons.injEq, and_true] at ho hy
  obtain ⟨o0, o1, o2, o3, o4, o5⟩ := ho
  obtain ⟨u0, u1, u2, u3, u4, u5⟩ := hy
  obtain ⟨⟨l⟩, rfl, hsz⟩ := okWide_struct hs hv
  rw [hC] at hsz
  obtain ⟨fuel, hf⟩ := h
  obtain ⟨xs, n, _, _, _, hlen, hx⟩ := DataW.trod_struct hs hf
  match l, hsz, xs, hlen with
  | [v0, v1, v2, v3, v4, v5], _, [y0, y1, y2, y3, y4, y5], _ =>
    have g0 := hx 0 f0 rfl
    have g1 := hx 1 f1 rfl
    have g2 := hx 2 f2 rfl
    have g3 := hx 3 f3 rfl
    have g4 := hx 4 f4 rfl
    have g5 := hx 5 f5 rfl
    simp [Value.cells, o0, o1, o2, o3, o4, o5, u0, u1, u2, u3, u4, u5, hc] at g0 g1 g2 g3 g4 g5
    obtain ⟨z0, e0, _, _⟩ := DataW.trod_int hi g0
    obtain ⟨z1, e1, _, _⟩ := DataW.trod_int hi g1
    obtain ⟨z2, e2, _, _⟩ := DataW.trod_int hi g2
    obtain ⟨z3, e3, _, _⟩ := DataW.trod_int hi g3
    obtain ⟨z4, e4, _, _⟩ := DataW.trod_int hi g4
    obtain ⟨z5, e5, _, _⟩ := DataW.trod_int hi g5
    simp only [List.cons.injEq, and_true] at e0 e1 e2 e3 e4 e5
    subst e0 e1 e2 e3 e4 e5
    exact ⟨z0, z1, z2, z3, z4, z5, rfl⟩

set_option maxRecDepth 100000 in
theorem open_ship {H : Type} {enc : TypeId × Value → H} {W : World} {base : Nat} {v0 : Value} {d0 : DataW H} {p0 : List MemPlace} (hv : Value.okWide Try.prog W .any base 42 v0)
    (h0 : DataW.Trod enc Try.prog W 0 (fun _ => true) true 42 v0 d0 p0) : ∃ x0 x1 x2 x3 x4 x5 : Int, v0 = vShip x0 x1 x2 x3 x4 x5 :=
  six_open (ti := 3) Try.underlying3 Try.underlying42 rfl rfl (by kernel_rfl) (by kernel_rfl) hv h0

end Go.Proofs.Ytmgcpllkielpkaa

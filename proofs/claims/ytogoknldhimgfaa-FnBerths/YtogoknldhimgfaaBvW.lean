/- Words for the walks of a stable sort; cmp.Compare; the order by minutes. After AvW. -/
import Derived.Test.YtogoknldhimgfaaAvM
import Derived.Test.YtogoknldhimgfaaRCall
import Derived.Test.YtogoknldhimgfaaKept
import Derived.Test.YtogoknldhimgfaaExactKit
import Derived.Test.YtogoknldhimgfaaWalkF
import Derived.BigQuiet
import Derived.Deep.RegionWith
namespace Go.Proofs.Ytogoknldhimgfaa
open Go.RowKit

theorem ints_setA (M : List Int) (p : Nat) (v : Int) : (ints M).set p (.int .i64 v) = ints (M.set p v) := by
  unfold ints
  rw [List.map_set]
theorem ints_atA {M : List Int} {p : Nat} (h : p < M.length) : (ints M)[p]? = some (.int .i64 (ix M p)) := by
  unfold ints ix
  rw [List.getElem?_map, List.getElem?_eq_getElem h, getD_lt h]
  rfl
/-- A row of numbers, its places i and j having changed. -/
theorem own_swp {w : World} {g i j : Nat} {D : List Int} (h : OwnV w g (ints D)) (hi : i < D.length) (hj : j < D.length) : OwnV ((w.setCell ⟨g, i, none⟩ (.int .i64 (ix D j))).setCell ⟨g, j, none⟩ (.int .i64 (ix D i))) g (ints (swp D i j)) := by
  unfold swp
  rw [← ints_setA, ← ints_setA]
  exact (h.set i _ (by rw [ints_length]; exact hi)).set j _ (by rw [List.length_set, ints_length]; exact hj)
theorem kept_swp {w W : World} {g i j : Nat} {x y : Value} (h : Kept (fun b => b = g) w W) : Kept (fun b => b = g) w ((W.setCell ⟨g, i, none⟩ x).setCell ⟨g, j, none⟩ y) :=
  Kept.setCell (T := fun b => b = g) (Kept.setCell (T := fun b => b = g) h (p := ⟨g, i, none⟩) rfl _) (p := ⟨g, j, none⟩) rfl _
theorem kept_drew {w W : World} {g : Nat} (h : Kept (fun b => b = g) w W) : Kept (fun b => b = g) w W.drew := h.trans (kept_of_below (Below.refl _ _).drew)
def cmpI (x y : Int) : Int := if x < y then -1 else if y < x then 1 else 0
set_option maxHeartbeats 800000 in
theorem cmpInt_any (x y : Int) (w : World) : Calls Try.prog 84 #[.int .i64 x, .int .i64 y] w fun e w' => e = .returned (.int .i64 (cmpI x y)) ∧ w = w' := by
  have HN : Hid (∀ z W, Calls Try.prog 90 #[.int .i64 z] W fun e w' => e = .returned (.bool false) ∧ W = w') := fun z W => by
    go_enter Try.func90, Try.ntmps90
    go_wp2
    go_ret
    exact ⟨ret_bool (by simp), rfl⟩
  by_cases h1 : x < y
  · rw [cmpI, if_pos h1]
    go_enter Try.func84, Try.ntmps84
    go_wp2_with (go_at_call 90; refine (unhide HN _ _).mono ?_; rintro e w' ⟨rfl, rfl⟩)
    go_ret
    exact ⟨rfl, rfl⟩
  · rw [cmpI, if_neg h1]
    by_cases h2 : y < x
    · rw [if_pos h2]
      go_enter Try.func84, Try.ntmps84
      go_wp2_with (go_at_call 90; refine (unhide HN _ _).mono ?_; rintro e w' ⟨rfl, rfl⟩)
      go_ret
      exact ⟨rfl, rfl⟩
    · rw [if_neg h2]
      go_enter Try.func84, Try.ntmps84
      go_wp2_with (go_at_call 90; refine (unhide HN _ _).mono ?_; rintro e w' ⟨rfl, rfl⟩)
      go_ret
      exact ⟨rfl, rfl⟩

theorem cmpI_neg {x y : Int} : cmpI x y < 0 ↔ x < y := by unfold cmpI; split; omega; split <;> omega
/-- Records in a row that came in, whose block is not g. -/
structure Keys (W : World) (g gb gr cb : Nat) (r : List Int) : Prop where
  ex : ∃ (ao : Option Addr) (L : List CallT), OwnV W gb [.slice ao r.length cb] ∧ RCall W (.slice ao r.length cb) L ∧ r = L.map (fun c => - c.2.2.1) ∧ (0 < r.length → ∀ b o, ao = some ⟨b, o, none⟩ → b ≠ g ∧ b < W.heap.size) ∧ gr = gr
  n1 : gb ≠ g
theorem RecsIn.keptG {α : Type} [Inhabited α] {n : Nat} {enc : α → Nat → Value} {W V : World} {ao : Option Addr} {m cap : Nat} {L : List α} {P : Nat → Prop} (h : RecsIn n enc W (.slice ao m cap) L) (hk : Kept P W V) (hg : 0 < L.length → ∀ b o, ao = some ⟨b, o, none⟩ → ¬ P b ∧ b < W.heap.size) : RecsIn n enc V (.slice ao m cap) L := by
  obtain ⟨ao', cap', e, h1, h2, h3⟩ := h
  simp only [Value.slice.injEq] at e
  obtain ⟨rfl, rfl, rfl⟩ := e
  refine ⟨_, _, rfl, h1, h2, fun i hi => ?_⟩
  obtain ⟨b, o, e, hx⟩ := h3 i hi
  obtain ⟨g1, g2⟩ := hg (by omega) b o e
  refine ⟨b, o, e, fun j hj => ?_⟩
  rw [← hx j hj]
  exact World.cell?_of_block (hk.block b g2 g1)
theorem Keys.kept {W V : World} {g gb gr cb : Nat} {r : List Int} (h : Keys W g gb gr cb r) (hk : Kept (fun b => b = g) W V) : Keys V g gb gr cb r := by
  obtain ⟨⟨ao, L, h1, h2, h3, h4, h5⟩, n1⟩ := h
  have hl : r.length = L.length := by rw [h3, List.length_map]
  exact ⟨⟨ao, L, h1.kept hk n1, h2.keptG hk (fun h0 b o e => h4 (by omega) b o e), h3, fun h0 b o e => ⟨(h4 h0 b o e).1, Nat.lt_of_lt_of_le (h4 h0 b o e).2 hk.size⟩, h5⟩, n1⟩
theorem Keys.step {W V : World} {g gb gr cb : Nat} {r : List Int} (h : Keys W g gb gr cb r) (hb : Below W.heap.size W V) : Keys V g gb gr cb r := by
  obtain ⟨⟨ao, L, h1, h2, h3, h4, h5⟩, n1⟩ := h
  have hl : r.length = L.length := by rw [h3, List.length_map]
  exact ⟨⟨ao, L, h1.step hb, h2.keptG (kept_of_below (T := fun _ => False) hb) (fun h0 b o e => ⟨fun h => h, (h4 (by omega) b o e).2⟩), h3, fun h0 b o e => ⟨(h4 h0 b o e).1, Nat.lt_of_lt_of_le (h4 h0 b o e).2 hb.size⟩, h5⟩, n1⟩
abbrev cmpF (gb : Nat) : Value := .func (.func 83) #[] #[.pointer (some ⟨gb, 0, none⟩)]
theorem cmpI_negs (x y : Int) : cmpI (-x) (-y) = cmpI y x := by unfold cmpI; repeat' split <;> first | rfl | omega

set_option maxRecDepth 10000 in
set_option maxHeartbeats 2000000 in
theorem cmpF_any (g gb gr cb : Nat) (r : List Int) (x y : Int) (w : World) (h : Keys w g gb gr cb r) (hx0 : 0 ≤ x) (hx1 : x < r.length) (hy0 : 0 ≤ y) (hy1 : y < r.length) :
    Calls Try.prog 83 #[.int .i64 x, .int .i64 y, .pointer (some ⟨gb, 0, none⟩)] w fun e w' => e = .returned (.int .i64 (cmpI (ky r y) (ky r x))) ∧ Below w.heap.size w w' := by
  obtain ⟨xn, rfl⟩ : ∃ n : Nat, x = n := ⟨x.toNat, by omega⟩
  obtain ⟨yn, rfl⟩ : ∃ n : Nat, y = n := ⟨y.toNat, by omega⟩
  obtain ⟨⟨ao, L, hbx, hR, hr, -, -⟩, -⟩ := h
  have hl : r.length = L.length := by rw [hr, List.length_map]
  have b0 := hbx.cell (i := 0) rfl
  obtain ⟨ao', cap', e, hcap, hcm, hc⟩ := hR
  simp only [Value.slice.injEq] at e
  obtain ⟨rfl, -, rfl⟩ := e
  obtain ⟨b, o, x0, x1, x2, x3, x4, rfl, -, -, c2, -, -, EX⟩ := recCallAt hc (k := xn) (by omega)
  obtain ⟨b', o', y0, y1, y2, y3, y4, e', -, -, d2, -, -, EY⟩ := recCallAt hc (k := yn) (by omega)
  simp only [Option.some.injEq, Addr.mk.injEq, and_true] at e'
  obtain ⟨rfl, rfl⟩ := e'
  unfold maxLen at hcm
  have kk : ∀ (p : Nat) (q0 q1 q2 q3 q4 : Int), p < L.length → L.getD p default = (q0, q1, q2, q3, q4) → ky r (p : Int) = - q2 := fun p q0 q1 q2 q3 q4 hp he => by
    unfold ky
    rw [hr, Int.toNat_natCast, List.getD_eq_getElem?_getD, List.getElem?_map, List.getElem?_eq_getElem hp]
    rw [List.getD_eq_getElem?_getD, List.getElem?_eq_getElem hp] at he
    simp only [Option.getD_some] at he
    simp [he]
  rw [kk xn x0 x1 x2 x3 x4 (by omega) (unhide EX), kk yn y0 y1 y2 y3 y4 (by omega) (unhide EY), cmpI_negs]
  have Q1 : Hid (∀ V, Calls Try.prog 84 #[.int .i64 x2, .int .i64 y2] V fun e w' => e = .returned (.int .i64 (cmpI x2 y2)) ∧ w' = V) := fun V => (cmpInt_any _ _ V).mono fun e w' ⟨h1, h2⟩ => ⟨h1, h2.symm⟩
  have hxl : xn < L.length := by omega
  have hyl : yn < L.length := by omega
  rw [hl] at b0
  have hxi : (xn : Int) < (L.length : Int) := by omega
  have hyi : (yn : Int) < (L.length : Int) := by omega
  clear hbx hc kk hl EX EY hr hx1 hy1
  generalize cmpI x2 y2 = z at *
  generalize L.length = n at *
  go_enter Try.func83, Try.ntmps83
  go_wp2_with fail
  refine wp_region_quiet_lit (by kernel_rfl) (by kernel_rfl) ?_
  repeat (go_big_quiet_step (fail))
  go_big_quiet_want
  go_big_quiet_op
  go_big_quiet_call (exact Calls.quiet_of_same (unhide Q1 _))
  repeat (go_big_quiet_step (fail))
  refine wpQuiet_nil ?_
  intro _ hw'
  obtain ⟨nq, hw''⟩ := hw'
  subst hw''
  go_wp2
  go_ret
  exact ⟨rfl, below_drewN (Below.refl _ _) _⟩

end Go.Proofs.Ytogoknldhimgfaa

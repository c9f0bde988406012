/- Words for the walks of a stable sort; cmp.Compare; the order by rests. Written by wip/mkly.py. -/
import Derived.Test.YticminoejikdfaaAvM
import Derived.Test.YticminoejikdfaaKept
import Derived.Test.YticminoejikdfaaExactKit
import Derived.Test.YticminoejikdfaaWalkF
import Derived.BigQuiet
import Derived.Deep.RegionWith
namespace Go.Proofs.Yticminoejikdfaa
open Go.RowKit

theorem ints_setA (M : List Int) (p : Nat) (v : Int) : (ints M).set p (.int .i64 v) = ints (M.set p v) := by
  unfold ints
  rw [List.map_set]
theorem ints_atA {M : List Int} {p : Nat} (h : p < M.length) : (ints M)[p]? = some (.int .i64 (ix M p)) := by
  unfold ints ix
  rw [List.getElem?_map, List.getElem?_eq_getElem h, getD_lt h]
  rfl
/-- A row of numbers, its places i and j having changed. -/
theorem own_swp {w : World} {g i j : Nat} {D : List Int} (h : OwnV w g (ints D)) (hi : i < D.length) (hj : j < D.length) : OwnV ((w.setCell ⟨g, i, none⟩ (.int .i64 (ix D j))).setCell ⟨g, j, none⟩ (.int .i64 (ix D i))) g (ints (swp D i j)) := by
  unfold swp
  rw [← ints_setA, ← ints_setA]
  exact (h.set i _ (by rw [ints_length]; exact hi)).set j _ (by rw [List.length_set, ints_length]; exact hj)
theorem kept_swp {w W : World} {g i j : Nat} {x y : Value} (h : Kept (fun b => b = g) w W) : Kept (fun b => b = g) w ((W.setCell ⟨g, i, none⟩ x).setCell ⟨g, j, none⟩ y) :=
  Kept.setCell (T := fun b => b = g) (Kept.setCell (T := fun b => b = g) h (p := ⟨g, i, none⟩) rfl _) (p := ⟨g, j, none⟩) rfl _
theorem kept_drew {w W : World} {g : Nat} (h : Kept (fun b => b = g) w W) : Kept (fun b => b = g) w W.drew := h.trans (kept_of_below (Below.refl _ _).drew)
def cmpI (x y : Int) : Int := if x < y then -1 else if y < x then 1 else 0
set_option maxHeartbeats 800000 in
theorem cmpInt_any (x y : Int) (w : World) : Calls Try.prog 62 #[.int .i64 x, .int .i64 y] w fun e w' => e = .returned (.int .i64 (cmpI x y)) ∧ w = w' := by
  have HN : Hid (∀ z W, Calls Try.prog 66 #[.int .i64 z] W fun e w' => e = .returned (.bool false) ∧ W = w') := fun z W => by
    go_enter Try.func66, Try.ntmps66
    go_wp2
    go_ret
    exact ⟨ret_bool (by simp), rfl⟩
  by_cases h1 : x < y
  · rw [cmpI, if_pos h1]
    go_enter Try.func62, Try.ntmps62
    go_wp2_with (go_at_call 66; refine (unhide HN _ _).mono ?_; rintro e w' ⟨rfl, rfl⟩)
    go_ret
    exact ⟨rfl, rfl⟩
  · rw [cmpI, if_neg h1]
    by_cases h2 : y < x
    · rw [if_pos h2]
      go_enter Try.func62, Try.ntmps62
      go_wp2_with (go_at_call 66; refine (unhide HN _ _).mono ?_; rintro e w' ⟨rfl, rfl⟩)
      go_ret
      exact ⟨rfl, rfl⟩
    · rw [if_neg h2]
      go_enter Try.func62, Try.ntmps62
      go_wp2_with (go_at_call 66; refine (unhide HN _ _).mono ?_; rintro e w' ⟨rfl, rfl⟩)
      go_ret
      exact ⟨rfl, rfl⟩

theorem cmpI_neg {x y : Int} : cmpI x y < 0 ↔ x < y := by unfold cmpI; split; omega; split <;> omega
/-- The rests, in a box of their own, beside the row g. -/
structure Keys (W : World) (g gb gr cb : Nat) (r : List Int) : Prop where
  box : OwnV W gb [.slice (some ⟨gr, 0, none⟩) r.length cb]
  key : OwnV W gr (ints r)
  cap : r.length ≤ cb
  capm : cb ≤ 1048576
  n1 : gb ≠ g
  n2 : gr ≠ g
theorem Keys.step {W V : World} {g gb gr cb : Nat} {r : List Int} (h : Keys W g gb gr cb r) (hb : Below W.heap.size W V) : Keys V g gb gr cb r := ⟨h.box.step hb, h.key.step hb, h.cap, h.capm, h.n1, h.n2⟩
theorem Keys.kept {W V : World} {g gb gr cb : Nat} {r : List Int} (h : Keys W g gb gr cb r) (hk : Kept (fun b => b = g) W V) : Keys V g gb gr cb r := ⟨h.box.kept hk h.n1, h.key.kept hk h.n2, h.cap, h.capm, h.n1, h.n2⟩
abbrev cmpF (gb : Nat) : Value := .func (.func 61) #[] #[.pointer (some ⟨gb, 0, none⟩)]

set_option maxRecDepth 10000 in
set_option maxHeartbeats 2000000 in
theorem cmpF_any (g gb gr cb : Nat) (r : List Int) (x y : Int) (w : World) (h : Keys w g gb gr cb r) (hx0 : 0 ≤ x) (hx1 : x < r.length) (hy0 : 0 ≤ y) (hy1 : y < r.length) :
    Calls Try.prog 61 #[.int .i64 x, .int .i64 y, .pointer (some ⟨gb, 0, none⟩)] w fun e w' => e = .returned (.int .i64 (cmpI (ky r y) (ky r x))) ∧ Below w.heap.size w w' := by
  obtain ⟨xn, rfl⟩ : ∃ n : Nat, x = n := ⟨x.toNat, by omega⟩
  obtain ⟨yn, rfl⟩ : ∃ n : Nat, y = n := ⟨y.toNat, by omega⟩
  have b0 := h.box.cell (i := 0) rfl
  have kx := h.key.cell (ints_atA (M := r) (p := xn) (by omega))
  have ky' := h.key.cell (ints_atA (M := r) (p := yn) (by omega))
  have hcap := h.cap
  have hcm := h.capm
  have ex : ky r (xn : Int) = ix r xn := by unfold ky ix; rw [Int.toNat_natCast]
  have ey : ky r (yn : Int) = ix r yn := by unfold ky ix; rw [Int.toNat_natCast]
  rw [ex, ey]
  have Q1 : Hid (∀ V, Calls Try.prog 62 #[.int .i64 (ix r yn), .int .i64 (ix r xn)] V fun e w' => e = .returned (.int .i64 (cmpI (ix r yn) (ix r xn))) ∧ w' = V) := fun V => (cmpInt_any _ _ V).mono fun e w' ⟨h1, h2⟩ => ⟨h1, h2.symm⟩
  clear h ex ey
  generalize ix r xn = vx at *
  generalize ix r yn = vy at *
  generalize cmpI vy vx = z at *
  go_enter Try.func61, Try.ntmps61
  go_wp2_with fail
  refine wp_region_quiet_lit (by kernel_rfl) (by kernel_rfl) ?_
  repeat (go_big_quiet_step (fail))
  go_big_quiet_want
  go_big_quiet_op
  go_big_quiet_call (exact Calls.quiet_of_same (unhide Q1 _))
  repeat (go_big_quiet_step (fail))
  refine wpQuiet_nil ?_
  intro _ hw'
  obtain ⟨nq, hw''⟩ := hw'
  subst hw''
  go_wp2
  go_ret
  exact ⟨rfl, below_drewN (Below.refl _ _) _⟩

end Go.Proofs.Yticminoejikdfaa

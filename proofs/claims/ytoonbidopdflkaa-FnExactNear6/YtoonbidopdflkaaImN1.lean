/- Worlds that have only grown and only drawn on; contracts of the program's gap, of the library's cmp.Compare and cmp.Or at int, and of the two function values within Near6. -/
import Derived.Test.YtoonbidopdflkaaChE
import Derived.Sort.Grow
import Derived.Deep.RegionHeld3
namespace Go.Proofs.Ytoonbidopdflkaa
open Go.RowKit

structure Bd (W w' : World) : Prop where
  below : Below W.heap.size W w'
  drawn : W.drawn ≤ w'.drawn
theorem Bd.refl (W : World) : Bd W W := ⟨Below.refl _ _, Nat.le_refl _⟩
theorem Bd.trans {A B C : World} (h : Bd A B) (k : Bd B C) : Bd A C := ⟨Below.step h.below k.below, Nat.le_trans h.drawn k.drawn⟩
theorem Bd.alloc {A B : World} (h : Bd A B) (o : Obj) : Bd A (B.alloc o) := h.trans ⟨Below.alloc1 _ _, Nat.le_refl _⟩
theorem Bd.drewN {A B : World} (h : Bd A B) (n : Nat) : Bd A (B.drewN n) := h.trans ⟨below_drewN (Below.refl _ _) n, Nat.le_add_right _ _⟩
theorem Bd.grow {W w' : World} (h : Bd W w') : ∃ q os', w' = Go.Sort.grow (W.drewN q) os' := by
  obtain ⟨hb, hd⟩ := h
  refine ⟨w'.drawn - W.drawn, w'.heap.extract W.heap.size w'.heap.size, ?_⟩
  have e : w'.heap = W.heap ++ w'.heap.extract W.heap.size w'.heap.size := by
    apply Array.ext_getElem?
    intro i
    by_cases hi : i < W.heap.size
    · rw [Array.getElem?_append_left hi, hb.block i hi]
    · rw [Array.getElem?_append_right (by omega), Array.getElem?_extract]
      have hs := hb.size
      by_cases h2 : i < w'.heap.size
      · rw [if_pos (by omega)]; congr 1; omega
      · rw [if_neg (by omega)]
        exact Array.getElem?_eq_none (by omega)
  obtain ⟨heap', tape', drawn', os', out'⟩ := w'
  obtain ⟨h1, h2, h3, h4, h5⟩ := hb
  simp only at h1 h2 h3 h4 h5 hd e ⊢
  unfold Go.Sort.grow World.drewN
  simp only [World.mk.injEq]
  exact ⟨e, h2, by omega, h1, h3⟩

/-- A world in which nothing of W has turned and nothing is drawn anew. -/
structure Gd (W : World) where
  val : World
  ok : Bd W val
theorem wp_region_gd {P : Program} {id : Nat} {Q : Exit → Act → World → Prop} {a : Act} {w : World} {l : List Oper} (hm : P.follows .mixedOrders = true) (hB : Region.lexB .any l.toArray = true)
    (h : wpQuiet P l.toArray (fun w' => ∃ x : Gd w, w' = x.val) (fun a' => ∀ w', (∃ x : Gd w, w' = x.val) → Q .normal a' w') l a) : (Code.region id l.toArray true).wp P Q a w :=
  wp_region_quiet (C := fun w' => ∃ x : Gd w, w' = x.val) hm hB ⟨⟨w.drew, (Bd.refl w).drewN 1⟩, rfl⟩ (by simpa using h)
theorem calls_gd {P : Program} {f : FuncId} {args : Array Value} {w : World} {x : Gd w} {v : Value} (h : Calls P f args x.val fun e w' => e = .returned v ∧ Bd x.val w') :
    Calls P f args x.val fun e w'' => e = .returned v ∧ ∃ y : Gd w, w'' = y.val :=
  h.mono fun _ w' ⟨he, hb⟩ => ⟨he, ⟨w', x.ok.trans hb⟩, rfl⟩
theorem gd_some (w : World) : Nonempty (Gd w) := ⟨⟨w, Bd.refl _⟩⟩
theorem gd_cell {w : World} {a : Addr} {v : Value} (h : w.cell? a = some v) (x : Gd w) : x.val.cell? a = some v := (x.ok.below.cell (lt_of_cell h)).trans h

theorem gap6_any (a b r : Int) (w : World) (h1 : -1000000000 ≤ a) (h2 : a ≤ 1000000000) (h3 : -1000000000 ≤ b) (h4 : b ≤ 1000000000) (hr : r = ((a - b).natAbs : Int)) :
    Calls Try.prog 67 #[.int .i64 a, .int .i64 b] w fun e w' => e = .returned (.int .i64 r) ∧ w' = w := by
  subst hr
  by_cases h : a ≤ b
  · go_enter Try.func67, Try.ntmps67
    go_wp2
    all_goals
      go_ret
      exact ⟨congrArg (fun z => Ending.returned (.int .i64 z)) (by omega), rfl⟩
  · go_enter Try.func67, Try.ntmps67
    go_wp2
    all_goals
      go_ret
      exact ⟨congrArg (fun z => Ending.returned (.int .i64 z)) (by omega), rfl⟩

def cmpI (x y : Int) : Int := if x < y then -1 else if y < x then 1 else 0
set_option maxHeartbeats 800000 in
theorem cmpInt_any (x y : Int) (w : World) : Calls Try.prog 72 #[.int .i64 x, .int .i64 y] w fun e w' => e = .returned (.int .i64 (cmpI x y)) ∧ w = w' := by
  have HN : Hid (∀ z W, Calls Try.prog 102 #[.int .i64 z] W fun e w' => e = .returned (.bool false) ∧ W = w') := fun z W => by
    go_enter Try.func102, Try.ntmps102
    go_wp2
    go_ret
    exact ⟨ret_bool (by simp), rfl⟩
  by_cases h1 : x < y
  · rw [cmpI, if_pos h1]
    go_enter Try.func72, Try.ntmps72
    go_wp2_with (go_at_call 102; refine (unhide HN _ _).mono ?_; rintro e w' ⟨rfl, rfl⟩)
    go_ret
    exact ⟨rfl, rfl⟩
  · rw [cmpI, if_neg h1]
    by_cases h2 : y < x
    · rw [if_pos h2]
      go_enter Try.func72, Try.ntmps72
      go_wp2_with (go_at_call 102; refine (unhide HN _ _).mono ?_; rintro e w' ⟨rfl, rfl⟩)
      go_ret
      exact ⟨rfl, rfl⟩
    · rw [if_neg h2]
      go_enter Try.func72, Try.ntmps72
      go_wp2_with (go_at_call 102; refine (unhide HN _ _).mono ?_; rintro e w' ⟨rfl, rfl⟩)
      go_ret
      exact ⟨rfl, rfl⟩

set_option maxRecDepth 10000 in
set_option maxHeartbeats 1600000 in
theorem away_any (x0 x1 x2 x3 : Int) (x4 : ByteArray) (x y : Int) (px py : Nat) (w : World) (h2 : 0 ≤ x2 ∧ x2 ≤ 11) (h3 : 0 ≤ x3 ∧ x3 ≤ 11) (hx : 0 ≤ x ∧ x ≤ 11) (hy : 0 ≤ y ∧ y ≤ 11) (hpx : w.cell? ⟨px, 0, none⟩ = some (.int .i64 x)) (hpy : w.cell? ⟨py, 0, none⟩ = some (.int .i64 y)) :
    Calls Try.prog 66 #[vFeature x0 x1 x2 x3 x4, .pointer (some ⟨px, 0, none⟩), .pointer (some ⟨py, 0, none⟩)] w fun e w' => e = .returned (.int .i64 (nrAt (x0, x1, x2, x3, x4) x y)) ∧ Bd w w' := by
  obtain ⟨p, ep⟩ : ∃ p, p = ((x2 - x).natAbs : Int) := ⟨_, rfl⟩
  obtain ⟨q, eq⟩ : ∃ q, q = ((x3 - y).natAbs : Int) := ⟨_, rfl⟩
  have HQ1 := hide fun V => gap6_any x2 x p V (by omega) (by omega) (by omega) (by omega) ep
  have HQ2 := hide fun V => gap6_any x3 y q V (by omega) (by omega) (by omega) (by omega) eq
  have ER : Hid (nrAt (x0, x1, x2, x3, x4) x y = p + q) := by show _ = _; unfold nrAt; dsimp only; rw [← ep, ← eq]
  have w4 : IntKind.i64.wrap (p + q) = p + q := by rw [IntKind.wrap_i64]; omega
  have HB := hide ((Bd.refl w).alloc (.cells #[.int .i64 x0, .int .i64 x1, .int .i64 x2, .int .i64 x3, .string x4] 95))
  have HBx := hide (ownV_alloc w #[.int .i64 x0, .int .i64 x1, .int .i64 x2, .int .i64 x3, .string x4] 95)
  clear ep eq
  rw [unhide ER]
  clear ER
  unfold vFeature
  go_enter Try.func66, Try.ntmps66
  go_wp2_with fail
  obtain ⟨V0, e0⟩ : ∃ z, z = w.alloc (.cells #[.int .i64 x0, .int .i64 x1, .int .i64 x2, .int .i64 x3, .string x4] 95) := ⟨_, rfl⟩
  rw [← e0] at HB HBx ⊢
  clear e0
  have c2 := (unhide HBx).cell (i := 2) rfl
  have c3 := (unhide HBx).cell (i := 3) rfl
  have d1 := wcell3 hpx (unhide HB).below
  have d2 := wcell3 hpy (unhide HB).below
  clear hpx hpy
  have S1 := hide fun x' : Gd V0 => (unhide HQ1 x'.val).mono fun e w' ⟨he, hw⟩ => (⟨he, hw ▸ Bd.refl _⟩ : e = Ending.returned (.int .i64 p) ∧ Bd x'.val w')
  have S2 := hide fun x' : Gd V0 => (unhide HQ2 x'.val).mono fun e w' ⟨he, hw⟩ => (⟨he, hw ▸ Bd.refl _⟩ : e = Ending.returned (.int .i64 q) ∧ Bd x'.val w')
  have e2 := fun x' : Gd V0 => gd_cell c2 x'
  have e3 := fun x' : Gd V0 => gd_cell c3 x'
  have f1 := fun x' : Gd V0 => gd_cell d1 x'
  have f2 := fun x' : Gd V0 => gd_cell d2 x'
  have gsome := gd_some V0
  clear c2 c3 d1 d2 HQ1 HQ2
  refine wp_region_gd (by kernel_rfl) (by kernel_rfl) ?_
  repeat (go_big_quiet_step (fail))
  go_big_quiet_want
  go_big_quiet_op
  go_big_quiet_call (exact calls_gd (unhide S1 _))
  repeat (go_big_quiet_step (fail))
  go_big_quiet_want
  go_big_quiet_op
  go_big_quiet_call (exact calls_gd (unhide S2 _))
  repeat (go_big_quiet_step (fail))
  refine wpQuiet_nil ?_
  intro w1 hw1
  obtain ⟨z', hz⟩ := hw1
  have hb1 : Bd V0 w1 := hz ▸ z'.ok
  clear hz gsome
  go_wp2
  go_ret
  exact ⟨rfl, (unhide HB).trans hb1⟩

def orI (a b : Int) : Int := if a = 0 then b else a
set_option maxRecDepth 10000 in
set_option maxHeartbeats 1600000 in
theorem orInt_any (a b : Int) (g : Nat) (w : World) (h : OwnV w g [.int .i64 a, .int .i64 b]) :
    Calls Try.prog 71 #[.slice (some ⟨g, 0, none⟩) 2 2] w fun e w' => e = .returned (.int .i64 (orI a b)) ∧ Bd w w' := by
  have c0 := h.cell (i := 0) rfl
  have c1 := h.cell (i := 1) rfl
  clear h
  unfold orI
  by_cases ha : a = 0
  · rw [if_pos ha]
    subst ha
    by_cases hb : b = 0
    · subst hb
      go_enter Try.func71, Try.ntmps71
      go_wp2
      refine wp_loop_rounds 3 ?_
      rw [rounds_succ]
      go_wp2
      rw [rounds_succ]
      go_wp2
      rw [rounds_succ]
      go_wp2
      go_ret
      exact ⟨rfl, Bd.refl _⟩
    · have d1 : (b != 0) = true := by simp; exact hb
      have d2 : (b == 0) = false := by simp; exact hb
      go_enter Try.func71, Try.ntmps71
      go_wp2
      refine wp_loop_rounds 2 ?_
      rw [rounds_succ]
      go_wp2
      rw [rounds_succ]
      go_wp2
      go_ret
      exact ⟨rfl, Bd.refl _⟩
  · rw [if_neg ha]
    have d1 : (a != 0) = true := by simp; exact ha
    have d2 : (a == 0) = false := by simp; exact ha
    go_enter Try.func71, Try.ntmps71
    go_wp2
    refine wp_loop_rounds 1 ?_
    rw [rounds_succ]
    go_wp2
    go_ret
    exact ⟨rfl, Bd.refl _⟩

end Go.Proofs.Ytoonbidopdflkaa

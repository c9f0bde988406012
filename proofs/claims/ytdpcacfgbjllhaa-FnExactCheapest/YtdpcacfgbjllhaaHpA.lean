/- Contracts of cmp.Compare and cmp.Or at int and of the heap's Less. -/
import Derived.Test.YtdpcacfgbjllhaaImSe1
import Derived.Test.YtdpcacfgbjllhaaHpM
import Derived.Test.YtdpcacfgbjllhaaRecs
import Derived.Sort.Grow
import Derived.Deep.RegionHeld3
namespace Go.Proofs.Ytdpcacfgbjllhaa
open Go.RowKit

structure Bd (W w' : World) : Prop where
  below : Below W.heap.size W w'
  drawn : W.drawn ≤ w'.drawn
theorem Bd.refl (W : World) : Bd W W := ⟨Below.refl _ _, Nat.le_refl _⟩
theorem Bd.trans {A B C : World} (h : Bd A B) (k : Bd B C) : Bd A C := ⟨Below.step h.below k.below, Nat.le_trans h.drawn k.drawn⟩
theorem Bd.alloc {A B : World} (h : Bd A B) (o : Obj) : Bd A (B.alloc o) := h.trans ⟨Below.alloc1 _ _, Nat.le_refl _⟩
theorem Bd.drewN {A B : World} (h : Bd A B) (n : Nat) : Bd A (B.drewN n) := h.trans ⟨below_drewN (Below.refl _ _) n, Nat.le_add_right _ _⟩
theorem Bd.grow {W w' : World} (h : Bd W w') : ∃ q os', w' = Go.Sort.grow (W.drewN q) os' := by
  obtain ⟨hb, hd⟩ := h
  refine ⟨w'.drawn - W.drawn, w'.heap.extract W.heap.size w'.heap.size, ?_⟩
  have e : w'.heap = W.heap ++ w'.heap.extract W.heap.size w'.heap.size := by
    apply Array.ext_getElem?
    intro i
    by_cases hi : i < W.heap.size
    · rw [Array.getElem?_append_left hi, hb.block i hi]
    · rw [Array.getElem?_append_right (by omega), Array.getElem?_extract]
      have hs := hb.size
      by_cases h2 : i < w'.heap.size
      · rw [if_pos (by omega)]; congr 1; omega
      · rw [if_neg (by omega)]
        exact Array.getElem?_eq_none (by omega)
  obtain ⟨heap', tape', drawn', os', out'⟩ := w'
  obtain ⟨h1, h2, h3, h4, h5⟩ := hb
  simp only at h1 h2 h3 h4 h5 hd e ⊢
  unfold Go.Sort.grow World.drewN
  simp only [World.mk.injEq]
  exact ⟨e, h2, by omega, h1, h3⟩

/-- A world in which nothing of W has turned and nothing is drawn anew. -/
structure Gd (W : World) where
  val : World
  ok : Bd W val
theorem wp_region_gd {P : Program} {id : Nat} {Q : Exit → Act → World → Prop} {a : Act} {w : World} {l : List Oper} (hm : P.follows .mixedOrders = true) (hB : Region.lexB .any l.toArray = true)
    (h : wpQuiet P l.toArray (fun w' => ∃ x : Gd w, w' = x.val) (fun a' => ∀ w', (∃ x : Gd w, w' = x.val) → Q .normal a' w') l a) : (Code.region id l.toArray true).wp P Q a w :=
  wp_region_quiet (C := fun w' => ∃ x : Gd w, w' = x.val) hm hB ⟨⟨w.drew, (Bd.refl w).drewN 1⟩, rfl⟩ (by simpa using h)
theorem calls_gd {P : Program} {f : FuncId} {args : Array Value} {w : World} {x : Gd w} {v : Value} (h : Calls P f args x.val fun e w' => e = .returned v ∧ Bd x.val w') :
    Calls P f args x.val fun e w'' => e = .returned v ∧ ∃ y : Gd w, w'' = y.val :=
  h.mono fun _ w' ⟨he, hb⟩ => ⟨he, ⟨w', x.ok.trans hb⟩, rfl⟩
theorem gd_some (w : World) : Nonempty (Gd w) := ⟨⟨w, Bd.refl _⟩⟩
theorem gd_cell {w : World} {a : Addr} {v : Value} (h : w.cell? a = some v) (x : Gd w) : x.val.cell? a = some v := (x.ok.below.cell (lt_of_cell h)).trans h

def cmpI (x y : Int) : Int := if x < y then -1 else if y < x then 1 else 0
set_option maxHeartbeats 800000 in
theorem cmpInt_any (x y : Int) (w : World) : Calls Try.prog 90 #[.int .i64 x, .int .i64 y] w fun e w' => e = .returned (.int .i64 (cmpI x y)) ∧ w = w' := by
  have HN : Hid (∀ z W, Calls Try.prog 91 #[.int .i64 z] W fun e w' => e = .returned (.bool false) ∧ W = w') := fun z W => by
    go_enter Try.func91, Try.ntmps91
    go_wp2
    go_ret
    exact ⟨ret_bool (by simp), rfl⟩
  by_cases h1 : x < y
  · rw [cmpI, if_pos h1]
    go_enter Try.func90, Try.ntmps90
    go_wp2_with (go_at_call 91; refine (unhide HN _ _).mono ?_; rintro e w' ⟨rfl, rfl⟩)
    go_ret
    exact ⟨rfl, rfl⟩
  · rw [cmpI, if_neg h1]
    by_cases h2 : y < x
    · rw [if_pos h2]
      go_enter Try.func90, Try.ntmps90
      go_wp2_with (go_at_call 91; refine (unhide HN _ _).mono ?_; rintro e w' ⟨rfl, rfl⟩)
      go_ret
      exact ⟨rfl, rfl⟩
    · rw [if_neg h2]
      go_enter Try.func90, Try.ntmps90
      go_wp2_with (go_at_call 91; refine (unhide HN _ _).mono ?_; rintro e w' ⟨rfl, rfl⟩)
      go_ret
      exact ⟨rfl, rfl⟩

def orI (a b : Int) : Int := if a = 0 then b else a
set_option maxRecDepth 10000 in
set_option maxHeartbeats 1600000 in
theorem orInt_any (a b : Int) (g : Nat) (w : World) (h : OwnV w g [.int .i64 a, .int .i64 b]) :
    Calls Try.prog 89 #[.slice (some ⟨g, 0, none⟩) 2 2] w fun e w' => e = .returned (.int .i64 (orI a b)) ∧ Bd w w' := by
  have c0 := h.cell (i := 0) rfl
  have c1 := h.cell (i := 1) rfl
  clear h
  unfold orI
  by_cases ha : a = 0
  · rw [if_pos ha]
    subst ha
    by_cases hb : b = 0
    · subst hb
      go_enter Try.func89, Try.ntmps89
      go_wp2
      refine wp_loop_rounds 3 ?_
      rw [rounds_succ]
      go_wp2
      rw [rounds_succ]
      go_wp2
      rw [rounds_succ]
      go_wp2
      go_ret
      exact ⟨rfl, Bd.refl _⟩
    · have d1 : (b != 0) = true := by simp; exact hb
      have d2 : (b == 0) = false := by simp; exact hb
      go_enter Try.func89, Try.ntmps89
      go_wp2
      refine wp_loop_rounds 2 ?_
      rw [rounds_succ]
      go_wp2
      rw [rounds_succ]
      go_wp2
      go_ret
      exact ⟨rfl, Bd.refl _⟩
  · rw [if_neg ha]
    have d1 : (a != 0) = true := by simp; exact ha
    have d2 : (a == 0) = false := by simp; exact ha
    go_enter Try.func89, Try.ntmps89
    go_wp2
    refine wp_loop_rounds 1 ?_
    rw [rounds_succ]
    go_wp2
    go_ret
    exact ⟨rfl, Bd.refl _⟩

instance (a b : Rc) : Decidable (rlt a b) := by unfold rlt; infer_instance
theorem cmp_rlt (a b c d : Int) : decide (orI (cmpI a b) (cmpI c d) < 0) = decide (rlt (a, c) (b, d)) := by
  rw [Bool.eq_iff_iff]
  simp only [decide_eq_true_eq]
  unfold orI cmpI rlt
  dsimp only
  by_cases h1 : a < b
  · simp [h1]
  · by_cases h2 : b < a
    · simp [h1, h2, show ¬ a = b by omega]
    · have e : a = b := by omega
      subst e
      by_cases h3 : c < d
      · simp [h3]
      · by_cases h4 : d < c
        · simp [h3, h4]
        · simp [h3, h4]
theorem bd_drew7 (W : World) : Bd W W.drew := (Bd.refl W).drewN 1

set_option maxRecDepth 10000 in
set_option maxHeartbeats 4000000 in
theorem less_any (v : Value) (L : List I2) (i j : Nat) (w : World) (h : R2 w v L) (hi : i < L.length) (hj : j < L.length) :
    Calls Try.prog 85 #[v, .int .i64 (i : Int), .int .i64 (j : Int)] w fun e w' => e = .returned (.bool (decide (rlt (L.getD i (0, 0)) (L.getD j (0, 0))))) ∧ Bd w w' := by
  obtain ⟨ao, cap, rfl, hl, hm, hc⟩ := h
  unfold maxLen at hm
  obtain ⟨b, o, x, y, rfl, a0, a1, EX⟩ := rec2At hc hi
  obtain ⟨b', o', x', y', e', b0, b1, EY⟩ := rec2At hc hj
  simp only [Option.some.injEq, Addr.mk.injEq, and_true] at e'
  obtain ⟨rfl, rfl⟩ := e'
  have eX : L.getD i (0, 0) = (x, y) := unhide EX
  have eY : L.getD j (0, 0) = (x', y') := unhide EY
  rw [eX, eY, ← cmp_rlt]
  have HC1 := hide fun V => cmpInt_any x x' V
  have HC2 := hide fun V => cmpInt_any y y' V
  obtain ⟨c1, ec1⟩ : ∃ n, n = cmpI x x' := ⟨_, rfl⟩
  obtain ⟨c2, ec2⟩ : ∃ n, n = cmpI y y' := ⟨_, rfl⟩
  rw [← ec1] at HC1 ⊢
  rw [← ec2] at HC2 ⊢
  have HO := hide fun V g h => orInt_any c1 c2 g V h
  obtain ⟨r, er⟩ : ∃ n, n = orI c1 c2 := ⟨_, rfl⟩
  rw [← er] at HO ⊢
  have hiI : (i : Int) < L.length := by omega
  have hjI : (j : Int) < L.length := by omega
  have HA0 := hide a0
  have HA1 := hide a1
  have HB0 := hide b0
  have HB1 := hide b1
  have HBD := hide (Bd.refl w)
  clear ec1 ec2 er hc EX EY eX eY
  go_enter Try.func85, Try.ntmps85
  go_wp2_with fail
  go_region_held3 (fun w' => w'.cell? ⟨b, o + i * 2, none⟩ = some (.int .i64 x) ∧ w'.cell? ⟨b, o + i * 2 + 1, none⟩ = some (.int .i64 y) ∧ w'.cell? ⟨b, o + j * 2, none⟩ = some (.int .i64 x') ∧ w'.cell? ⟨b, o + j * 2 + 1, none⟩ = some (.int .i64 y')) (go_keep) (first
    | (go_at_call 90; first | (refine (unhide HC1 _).mono ?_; rintro e w' ⟨rfl, h9⟩; have h8 := h9.symm; subst h8; clear h9 HC1) | (refine (unhide HC2 _).mono ?_; rintro e w' ⟨rfl, h9⟩; have h8 := h9.symm; subst h8; clear h9))
    | (go_at_call 89; (first | refine (unhide HO _ _ (OwnV.drew (ownV_alloc w #[.int .i64 c1, .int .i64 c2] 3))).mono ?_ | refine (unhide HO _ _ (ownV_alloc _ #[.int .i64 c1, .int .i64 c2] 3)).mono ?_); rintro e wz ⟨rfl, hb⟩; (first | (have HBD' := hide (((Bd.refl w).alloc _).trans ((bd_drew7 _).trans hb))) | (have HBD' := hide (((bd_drew7 w).alloc _).trans hb))); replace HBD := HBD'; clear HBD' hb; have f0 := ((unhide HBD).below.cell (lt_of_cell (unhide HA0))).trans (unhide HA0); have f1 := ((unhide HBD).below.cell (lt_of_cell (unhide HA1))).trans (unhide HA1); have f2 := ((unhide HBD).below.cell (lt_of_cell (unhide HB0))).trans (unhide HB0); have f3 := ((unhide HBD).below.cell (lt_of_cell (unhide HB1))).trans (unhide HB1)))
  go_wp2
  go_ret
  exact ⟨rfl, unhide HBD⟩

end Go.Proofs.Ytdpcacfgbjllhaa

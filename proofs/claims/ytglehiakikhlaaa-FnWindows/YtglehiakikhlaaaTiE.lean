/- The program's windows: a box of three cells, the windows told in a row of its own; contracts of begin and close. -/
import Derived.Test.YtglehiakikhlaaaTdE
import Derived.Test.YtglehiakikhlaaaOwM
import Derived.Defers
import Derived.Deep.AppendLies
import Derived.Deep.RegionLaw
namespace Go.Proofs.Ytglehiakikhlaaa
open Go.RowKit

/-- The box in block B: the windows told, the first minute of the open one, whether one is open. -/
structure WBox (B : Nat) (A : World) (v : Value) (L : List I2) (f : Int) (o : Bool) : Prop where
  box : OwnV A B [v, .int .i64 f, .bool o]
  row : A.ownsRow (B + 1) 32 2 v L.length (recCells 2 e2 L)

theorem WBox.draw {B : Nat} {A : World} {v : Value} {L : List I2} {f : Int} {o : Bool} (h : WBox B A v L f o) (n : Nat) : WBox B (A.drewN n) v L f o := ⟨h.box, h.row⟩
theorem ownsRow_set {A : World} {B : Nat} {e : TypeId} {m : Nat} {v : Value} {n : Nat} {xs : List Value} (h : A.ownsRow (B + 1) e m v n xs) (i : Nat) (u : Value) : (A.setCell ⟨B, i, none⟩ u).ownsRow (B + 1) e m v n xs := by
  obtain ⟨h1, h2⟩ := h
  refine ⟨h1, ?_⟩
  rcases h2 with h2 | ⟨g, cap, cur, hv, hg, hh, r⟩
  · exact Or.inl h2
  · refine Or.inr ⟨g, cap, cur, hv, hg, ?_, r⟩
    have hne : ¬ B = g := by omega
    simp [World.setCell, Array.getElem?_modify, hne, hh]
theorem WBox.setFrom {B : Nat} {A : World} {v : Value} {L : List I2} {f : Int} {o : Bool} (h : WBox B A v L f o) (x : Int) : WBox B (A.setCell ⟨B, 1, none⟩ (.int .i64 x)) v L x o :=
  ⟨by have := h.box.set 1 (.int .i64 x) (by simp); simpa using this, ownsRow_set h.row _ _⟩
theorem WBox.setOpen {B : Nat} {A : World} {v : Value} {L : List I2} {f : Int} {o : Bool} (h : WBox B A v L f o) (x : Bool) : WBox B (A.setCell ⟨B, 2, none⟩ (.bool x)) v L f x :=
  ⟨by have := h.box.set 2 (.bool x) (by simp); simpa using this, ownsRow_set h.row _ _⟩

set_option maxHeartbeats 800000 in
theorem begin_any (B : Nat) (A : World) (v : Value) (L : List I2) (f : Int) (o : Bool) (m : Int) (h : WBox B A v L f o) :
    Calls Try.prog 69 #[.pointer (some ⟨B, 0, none⟩), .int .i64 m] A fun e A' => e = .returned (.tuple #[]) ∧ WBox B A' v L (if o = true then f else m) true ∧ Below B A A' := by
  have c0 := h.box.cell (i := 0) rfl
  have c1 := h.box.cell (i := 1) rfl
  have c2 := h.box.cell (i := 2) rfl
  have cf := h.box.frozen
  have HB := hide h
  clear h
  cases o with
  | true =>
    go_enter Try.func69, Try.ntmps69
    go_wp2
    go_end0
    exact ⟨rfl, unhide HB, Below.refl _ _⟩
  | false =>
    go_enter Try.func69, Try.ntmps69
    go_wp2
    go_end0
    exact ⟨rfl, ((unhide HB).setFrom m).setOpen true, ((Below.refl B A).setCell (p := ⟨B, 1, none⟩) (Nat.le_refl B) _).setCell (p := ⟨B, 2, none⟩) (Nat.le_refl B) _⟩

theorem told_next {B : Nat} {A : World} {v : Value} {L : List I2} {f : Int} {m : Int} (h : WBox B A v L f true) {wa : World} {g4 cap4 : Nat} (hb : Below (B + 1) A wa)
    (ho : wa.ownsRow (B + 1) 32 2 (.slice (some ⟨g4, 0, none⟩) (L.length + 1) cap4) (L.length + 1) (recCells 2 e2 L ++ [.int .i64 f, .int .i64 (m - 1)])) :
    wa.cell? ⟨B, 0, none⟩ = some v ∧ wa.cell? ⟨B, 2, none⟩ = some (.bool true) ∧ (∀ i, wa.frozen? ⟨B, i, none⟩ = false) ∧
      WBox B ((wa.setCell ⟨B, 0, none⟩ (.slice (some ⟨g4, 0, none⟩) (L.length + 1) cap4)).setCell ⟨B, 2, none⟩ (.bool false)) (.slice (some ⟨g4, 0, none⟩) (L.length + 1) cap4) (L ++ [(f, m - 1)]) f false ∧
      Below B A ((wa.setCell ⟨B, 0, none⟩ (.slice (some ⟨g4, 0, none⟩) (L.length + 1) cap4)).setCell ⟨B, 2, none⟩ (.bool false)) := by
  have hx := h.box.below hb (Nat.lt_succ_self B)
  have hW : WBox B (wa.setCell ⟨B, 0, none⟩ (.slice (some ⟨g4, 0, none⟩) (L.length + 1) cap4)) (.slice (some ⟨g4, 0, none⟩) (L.length + 1) cap4) (L ++ [(f, m - 1)]) f true := by
    refine ⟨by have := hx.set 0 (.slice (some ⟨g4, 0, none⟩) (L.length + 1) cap4) (by simp); simpa using this, ownsRow_set ?_ _ _⟩
    rw [recI2_snoc, List.length_append]
    exact ho
  have hb' : Below B A wa := ⟨hb.os, hb.tape, hb.output, hb.size, fun k hk => hb.block k (by omega)⟩
  exact ⟨hx.cell (i := 0) rfl, hx.cell (i := 2) rfl, hx.frozen, hW.setOpen false, (hb'.setCell (p := ⟨B, 0, none⟩) (Nat.le_refl B) _).setCell (p := ⟨B, 2, none⟩) (Nat.le_refl B) _⟩

set_option maxRecDepth 10000 in
set_option maxHeartbeats 1600000 in
theorem close_any (B : Nat) (A : World) (v : Value) (L : List I2) (f : Int) (o : Bool) (m : Int) (h : WBox B A v L f o) (hL : L.length ≤ 1500) (hm0 : 0 ≤ m) (hm1 : m ≤ 1500) :
    Calls Try.prog 68 #[.pointer (some ⟨B, 0, none⟩), .int .i64 m] A fun e A' => e = .returned (.tuple #[]) ∧ (∃ v', WBox B A' v' (if o = true then L ++ [(f, m - 1)] else L) f false) ∧ Below B A A' := by
  have c0 := h.box.cell (i := 0) rfl
  have c1 := h.box.cell (i := 1) rfl
  have c2 := h.box.cell (i := 2) rfl
  have cf := h.box.frozen
  have HB := hide h
  have hlt := h.box.lt
  clear h
  cases o with
  | false =>
    go_enter Try.func68, Try.ntmps68
    go_wp2
    go_end0
    exact ⟨rfl, ⟨v, unhide HB⟩, Below.refl _ _⟩
  | true =>
    have q : IntKind.i64.wrap (m - 1) = m - 1 := by rw [IntKind.wrap_i64]; omega
    obtain ⟨i0, hi, hz0, hz1, hz2⟩ := info_parts Try.infoWindow
    have NEXT := hide fun wa g4 cap4 hb ho => told_next (unhide HB) (m := m) (wa := wa) (g4 := g4) (cap4 := cap4) hb ho
    have HR1 := hide (ownsRow_below (unhide HB).row (Below.alloc1 A (.cells #[.int .i64 f, .int .i64 (m - 1)] 32)))
    have HRL := hide (fun g hg => ((unhide HB).row.lt g hg).1)
    have cA : ∀ ob, (A.alloc ob).cell? ⟨B, 0, none⟩ = some v := fun ob => ((Below.alloc1 A ob).cell hlt).trans c0
    have cB : ∀ ob, (A.alloc ob).cell? ⟨B, 1, none⟩ = some (.int .i64 f) := fun ob => ((Below.alloc1 A ob).cell hlt).trans c1
    go_enter Try.func68, Try.ntmps68
    go_wp2_with fail
    go_region_law (refine step_append_lies _ (by rfl) (.tmp 12) (.tmp 20) 28 (by rfl) (B + 1) 32 i0 _ 2 16 Try.underlying28 hi hz0 hz1 hz2 rfl (by decide) v L.length (recCells 2 e2 L) (by rfl) (unhide HR1).drew ⟨A.heap.size, 0, none⟩ 1 1 [.int .i64 f, .int .i64 (m - 1)] (by rfl) (by rfl) (cell_two_new A _ _ _) (by simp [Value.oneCell']) (by omega) (by unfold maxLen; omega) (by omega) (by simp; omega) (A.heap.size + 1) (by simp) ?_; intro g4 cap4 wa hown hgrow hat hlt4; obtain ⟨q1, q0, q2, q3, q4⟩ := unhide NEXT wa g4 cap4 ((((Below.refl (B + 1) A).alloc (by omega) _).drew).grown hgrow (by simp; omega) (unhide HRL)) hown; have HQ3 := hide q3; have HQ4 := hide q4; clear q3 q4 hown hgrow hat)
    all_goals
      have d2 := (World.cell?_setCell_other wa ⟨B, 0, none⟩ ⟨B, 2, none⟩ (.slice (some ⟨g4, 0, none⟩) (L.length + 1) cap4) (by simp)).trans q0
      have d3 : (wa.setCell ⟨B, 0, none⟩ (.slice (some ⟨g4, 0, none⟩) (L.length + 1) cap4)).frozen? ⟨B, 2, none⟩ = false := by rw [World.frozen?_setCell]; exact q2 2
      obtain ⟨A5, e5⟩ : ∃ x, x = wa.setCell ⟨B, 0, none⟩ (.slice (some ⟨g4, 0, none⟩) (L.length + 1) cap4) := ⟨_, rfl⟩
      rw [← e5] at HQ3 HQ4 d2 d3 ⊢
      clear e5 q0 q1 q2 c0 c1 c2 cf cA cB NEXT HR1 HRL
      go_wp2
      go_end0
      exact ⟨rfl, ⟨_, unhide HQ3⟩, unhide HQ4⟩

set_option maxRecDepth 10000 in
set_option maxHeartbeats 1600000 in
theorem close_deferred (B : Nat) (A : World) (v : Value) (L : List I2) (f : Int) (o : Bool) (m : Int) (u : FrameMode) (h : WBox B A v L f o) (hL : L.length ≤ 1500) (hm0 : 0 ≤ m) (hm1 : m ≤ 1500) :
    CallsD Try.prog 68 #[.pointer (some ⟨B, 0, none⟩), .int .i64 m] u A fun e u' A' => u' = u ∧ (e = .returned (.tuple #[]) ∧ (∃ v', WBox B A' v' (if o = true then L ++ [(f, m - 1)] else L) f false) ∧ Below B A A') := by
  have c0 := h.box.cell (i := 0) rfl
  have c1 := h.box.cell (i := 1) rfl
  have c2 := h.box.cell (i := 2) rfl
  have cf := h.box.frozen
  have HB := hide h
  have hlt := h.box.lt
  clear h
  cases o with
  | false =>
    go_enter_d Try.func68, Try.ntmps68
    go_wp2
    go_end0
    exact ⟨rfl, ⟨v, unhide HB⟩, Below.refl _ _⟩
  | true =>
    have q : IntKind.i64.wrap (m - 1) = m - 1 := by rw [IntKind.wrap_i64]; omega
    obtain ⟨i0, hi, hz0, hz1, hz2⟩ := info_parts Try.infoWindow
    have NEXT := hide fun wa g4 cap4 hb ho => told_next (unhide HB) (m := m) (wa := wa) (g4 := g4) (cap4 := cap4) hb ho
    have HR1 := hide (ownsRow_below (unhide HB).row (Below.alloc1 A (.cells #[.int .i64 f, .int .i64 (m - 1)] 32)))
    have HRL := hide (fun g hg => ((unhide HB).row.lt g hg).1)
    have cA : ∀ ob, (A.alloc ob).cell? ⟨B, 0, none⟩ = some v := fun ob => ((Below.alloc1 A ob).cell hlt).trans c0
    have cB : ∀ ob, (A.alloc ob).cell? ⟨B, 1, none⟩ = some (.int .i64 f) := fun ob => ((Below.alloc1 A ob).cell hlt).trans c1
    go_enter_d Try.func68, Try.ntmps68
    go_wp2_with fail
    go_region_law (refine step_append_lies _ (by rfl) (.tmp 12) (.tmp 20) 28 (by rfl) (B + 1) 32 i0 _ 2 16 Try.underlying28 hi hz0 hz1 hz2 rfl (by decide) v L.length (recCells 2 e2 L) (by rfl) (unhide HR1).drew ⟨A.heap.size, 0, none⟩ 1 1 [.int .i64 f, .int .i64 (m - 1)] (by rfl) (by rfl) (cell_two_new A _ _ _) (by simp [Value.oneCell']) (by omega) (by unfold maxLen; omega) (by omega) (by simp; omega) (A.heap.size + 1) (by simp) ?_; intro g4 cap4 wa hown hgrow hat hlt4; obtain ⟨q1, q0, q2, q3, q4⟩ := unhide NEXT wa g4 cap4 ((((Below.refl (B + 1) A).alloc (by omega) _).drew).grown hgrow (by simp; omega) (unhide HRL)) hown; have HQ3 := hide q3; have HQ4 := hide q4; clear q3 q4 hown hgrow hat)
    all_goals
      have d2 := (World.cell?_setCell_other wa ⟨B, 0, none⟩ ⟨B, 2, none⟩ (.slice (some ⟨g4, 0, none⟩) (L.length + 1) cap4) (by simp)).trans q0
      have d3 : (wa.setCell ⟨B, 0, none⟩ (.slice (some ⟨g4, 0, none⟩) (L.length + 1) cap4)).frozen? ⟨B, 2, none⟩ = false := by rw [World.frozen?_setCell]; exact q2 2
      obtain ⟨A5, e5⟩ : ∃ x, x = wa.setCell ⟨B, 0, none⟩ (.slice (some ⟨g4, 0, none⟩) (L.length + 1) cap4) := ⟨_, rfl⟩
      rw [← e5] at HQ3 HQ4 d2 d3 ⊢
      clear e5 q0 q1 q2 c0 c1 c2 cf cA cB NEXT HR1 HRL
      go_wp2
      go_end0
      exact ⟨rfl, ⟨_, unhide HQ3⟩, unhide HQ4⟩

end Go.Proofs.Ytglehiakikhlaaa

/- Customs: purses: words; contracts of pay, bind, release, told (sync.Mutex, its unlock deferred). Written by wip/mkcsd.py. -/
import Derived.Test.YtojlkdmlelgcbaaCsL
import Derived.Test.YtojlkdmlelgcbaaRecG
import Derived.Test.YtojlkdmlelgcbaaHsB
import Derived.WalkKit
import Derived.Deep.DeepCutAuto
namespace Go.Proofs.Ytojlkdmlelgcbaa
open Go.RowKit Go.MuLone

/-- A purse in memory: its mutex (free), and what its owner has. -/
def ePur (t : TraderT) : Nat → Value
  | 0 => .int .i32 0
  | 1 => .int .u32 0
  | 2 => .int .i64 t.1
  | 3 => .int .i64 t.2.1
  | _ => .int .i64 t.2.2
theorem Try.infoPurse : (Try.prog.info? 123).map (fun i => (i.zero, i.size, i.bytes)) = some (some (.agg #[.int .i32 0, .int .u32 0, .int .i64 0, .int .i64 0, .int .i64 0]), 5, 32) := by kernel_rfl
/-- The cells of a purse. -/
theorem purAt {w : World} {g i : Nat} {P : List TraderT} {mo bo bd : Int} (h : OwnV w g (recCells 5 ePur P)) (hi : i < P.length) (hp : P.getD i default = (mo, bo, bd)) :
    w.cell? ⟨g, i * 5, none⟩ = some (.int .i32 0) ∧ w.cell? ⟨g, i * 5 + 1, none⟩ = some (.int .u32 0) ∧ w.cell? ⟨g, i * 5 + 2, none⟩ = some (.int .i64 mo) ∧ w.cell? ⟨g, i * 5 + 3, none⟩ = some (.int .i64 bo) ∧ w.cell? ⟨g, i * 5 + 4, none⟩ = some (.int .i64 bd) := by
  have c := fun j (hj : j < 5) => h.cell (recCells_get (enc := ePur) hi hj)
  rw [hp] at c
  exact ⟨c 0 (by omega), c 1 (by omega), c 2 (by omega), c 3 (by omega), c 4 (by omega)⟩
theorem pur_same {i : Nat} {P : List TraderT} (hi : i < P.length) : ((recCells 5 ePur P).set (i * 5) (.int .i32 1)).set (i * 5) (.int .i32 0) = recCells 5 ePur P := by
  have hl : i * 5 < (recCells 5 ePur P).length := by rw [recCells_length]; omega
  have h3 : (recCells 5 ePur P)[i * 5]? = some (.int .i32 0) := recCells_get (enc := ePur) hi (j := 0) (by omega)
  rw [List.set_set]
  apply List.ext_getElem?
  intro q
  by_cases hq : q = i * 5
  · subst hq
    rw [List.getElem?_set_self hl, h3]
  · rw [List.getElem?_set_ne (fun e => hq e.symm)]
/-- Locked and unlocked: as it was. -/
theorem pur_lock {w : World} {g i : Nat} {P : List TraderT} (h : OwnV w g (recCells 5 ePur P)) (hi : i < P.length) : OwnV ((w.setCell ⟨g, i * 5, none⟩ (.int .i32 1)).setCell ⟨g, i * 5, none⟩ (.int .i32 0)) g (recCells 5 ePur P) := by
  have hl : i * 5 < (recCells 5 ePur P).length := by rw [recCells_length]; omega
  have h2 := (h.set (i * 5) (.int .i32 1) hl).set (i * 5) (.int .i32 0) (by rw [List.length_set]; exact hl)
  have h3 : (recCells 5 ePur P)[i * 5]? = some (.int .i32 0) := recCells_get (enc := ePur) hi (j := 0) (by omega)
  rw [List.set_set] at h2
  have e : (recCells 5 ePur P).set (i * 5) (.int .i32 0) = recCells 5 ePur P := by
    apply List.ext_getElem?
    intro q
    by_cases hq : q = i * 5
    · subst hq
      rw [List.getElem?_set_self hl, h3]
    · rw [List.getElem?_set_ne (fun e => hq e.symm)]
  rwa [e] at h2
theorem pur_put {w : World} {g i j : Nat} {P : List TraderT} {u : Value} (h : OwnV w g (recCells 5 ePur P)) (hi : i < P.length) (hj : j < 5) (h0 : 0 < j) (y : TraderT) (hy : ∀ j', j' < 5 → j' ≠ j → ePur y j' = ePur (P.getD i default) j') (hu : ePur y j = u) :
    OwnV (((w.setCell ⟨g, i * 5, none⟩ (.int .i32 1)).setCell ⟨g, i * 5 + j, none⟩ u).setCell ⟨g, i * 5, none⟩ (.int .i32 0)) g (recCells 5 ePur (P.set i y)) := by
  have hl : i * 5 < (recCells 5 ePur P).length := by rw [recCells_length]; omega
  have hlj : i * 5 + j < (recCells 5 ePur P).length := by rw [recCells_length]; omega
  have h2 := ((h.set (i * 5) (.int .i32 1) hl).set (i * 5 + j) u (by rw [List.length_set]; exact hlj)).set (i * 5) (.int .i32 0) (by rw [List.length_set, List.length_set]; exact hl)
  have e : (((recCells 5 ePur P).set (i * 5) (.int .i32 1)).set (i * 5 + j) u).set (i * 5) (.int .i32 0) = recCells 5 ePur (P.set i y) := by
    rw [← recG_set P hj hi y hy, hu]
    apply List.ext_getElem?
    intro q
    by_cases hq : q = i * 5
    · subst hq
      have h3 : (recCells 5 ePur P)[i * 5]? = some (.int .i32 0) := recCells_get (enc := ePur) hi (j := 0) (by omega)
      rw [List.getElem?_set_self (by rw [List.length_set, List.length_set]; exact hl), List.getElem?_set_ne (by omega), h3]
    · rw [List.getElem?_set_ne (fun e => hq e.symm)]
      by_cases hq2 : q = i * 5 + j
      · subst hq2
        rw [List.getElem?_set_self (by rw [List.length_set]; exact hlj), List.getElem?_set_self hlj]
      · rw [List.getElem?_set_ne (fun e => hq2 e.symm), List.getElem?_set_ne (fun e => hq e.symm), List.getElem?_set_ne (fun e => hq2 e.symm)]
  rwa [e] at h2
theorem kept2 (w : World) (g i j : Nat) (u v : Value) : Kept (fun b => b = g) w ((w.setCell ⟨g, i, none⟩ u).setCell ⟨g, j, none⟩ v) := Kept.setCell (T := fun b => b = g) (Kept.setCell (T := fun b => b = g) (Kept.refl _ w) (p := ⟨g, i, none⟩) rfl u) (p := ⟨g, j, none⟩) rfl v
theorem keptDN {T : Nat → Prop} {a w : World} (h : Kept T a w) (n : Nat) : Kept T a (w.drewN n) := ⟨h.os, h.tape, h.output, h.size, h.block⟩
theorem kept2n (w : World) (g i j n : Nat) (u v : Value) : Kept (fun b => b = g) w (((w.setCell ⟨g, i, none⟩ u).drewN n).setCell ⟨g, j, none⟩ v) := Kept.setCell (T := fun b => b = g) (keptDN (Kept.setCell (T := fun b => b = g) (Kept.refl _ w) (p := ⟨g, i, none⟩) rfl u) n) (p := ⟨g, j, none⟩) rfl v
theorem kept3n (w : World) (g i j k n : Nat) (u v x : Value) : Kept (fun b => b = g) w ((((w.setCell ⟨g, i, none⟩ u).drewN n).setCell ⟨g, j, none⟩ v).setCell ⟨g, k, none⟩ x) := Kept.setCell (T := fun b => b = g) (kept2n w g i j n u v) (p := ⟨g, k, none⟩) rfl x
theorem kept3 (w : World) (g i j k : Nat) (u v x : Value) : Kept (fun b => b = g) w (((w.setCell ⟨g, i, none⟩ u).setCell ⟨g, j, none⟩ v).setCell ⟨g, k, none⟩ x) := Kept.setCell (T := fun b => b = g) (kept2 w g i j u v) (p := ⟨g, k, none⟩) rfl x

set_option maxHeartbeats 1600000 in
theorem pay_any (g i : Nat) (P : List TraderT) (mo bo bd du : Int) (w : World) (h : OwnV w g (recCells 5 ePur P)) (hi : i < P.length) (hp : P.getD i default = (mo, bo, bd)) (h1 : IntKind.i64.wrap (mo - du) = mo - du) :
    Calls Try.prog 90 #[.pointer (some ⟨g, i * 5, none⟩), .int .i64 du] w fun e w' => e = .returned (.bool (!decide (mo < du))) ∧ OwnV w' g (recCells 5 ePur (if mo < du then P else P.set i (mo - du, bo, bd))) ∧ Kept (fun b => b = g) w w' := by
  obtain ⟨c0, c1, c2, c3, c4⟩ := purAt h hi hp
  have f := h.frozen
  have k3 : ∀ u, (w.setCell ⟨g, i * 5, none⟩ u).cell? ⟨g, i * 5 + 2 + 1, none⟩ = some (.int .i64 bo) := fun u => (World.cell?_setCell_other _ ⟨g, i * 5, none⟩ ⟨g, i * 5 + 2 + 1, none⟩ _ (by simp)).trans c3
  have k4 : ∀ u, (w.setCell ⟨g, i * 5, none⟩ u).cell? ⟨g, i * 5 + 2 + 2, none⟩ = some (.int .i64 bd) := fun u => (World.cell?_setCell_other _ ⟨g, i * 5, none⟩ ⟨g, i * 5 + 2 + 2, none⟩ _ (by simp)).trans c4
  have HO := hide h
  have HP := hide hp
  clear h hp
  by_cases hc : mo < du
  · have dc : decide (mo < du) = true := by simpa using hc
    rw [if_pos hc, dc]
    go_enter_defers Try.func90, Try.ntmps90
    go_wp2_with (go_at_call 93; refine (lock_free Try.muLib ⟨g, i * 5, none⟩ _ c0 (f _)).mono ?_; rintro e w' ⟨rfl, rfl⟩)
    show Leaves _ _ _ _ _ _ _
    refine leaves_cons (f := 94) (args := #[.pointer (some ⟨g, i * 5, none⟩)]) (by simp) (by simp [go_sem]) ?_
    refine (unlock_deferred Try.muLib ⟨g, i * 5, none⟩ .returning _ ?_ ?_).mono ?_
    · exact World.cell?_setCell_same w ⟨g, i * 5, none⟩ (.int .i32 1) c0
    · simp [f]
    rintro e u' w'' ⟨rfl, rfl, rfl⟩
    exact ⟨_, results_tmp rfl _ _ _, rfl, pur_lock (unhide HO) hi, kept2 w g _ _ _ _⟩
  · have dc : decide (mo < du) = false := by simpa using hc
    rw [if_neg hc, dc]
    go_enter_defers Try.func90, Try.ntmps90
    go_wp2_with (go_at_call 93; refine (lock_free Try.muLib ⟨g, i * 5, none⟩ _ c0 (f _)).mono ?_; rintro e w' ⟨rfl, rfl⟩)
    show Leaves _ _ _ _ _ _ _
    refine leaves_cons (f := 94) (args := #[.pointer (some ⟨g, i * 5, none⟩)]) (by simp) (by simp [go_sem]) ?_
    refine (unlock_deferred Try.muLib ⟨g, i * 5, none⟩ .returning _ ?_ ?_).mono ?_
    · exact (World.cell?_setCell_other _ ⟨g, i * 5 + 2, none⟩ ⟨g, i * 5, none⟩ _ (by simp)).trans (World.cell?_setCell_same w ⟨g, i * 5, none⟩ (.int .i32 1) c0)
    · simp [f]
    rintro e u' w'' ⟨rfl, rfl, rfl⟩
    exact ⟨_, results_tmp rfl _ _ _, rfl, pur_put (unhide HO) hi (j := 2) (by omega) (by omega) ((mo - du, bo, bd)) (fun j' h1 h2 => by rw [unhide HP]; have h3 : j' = 0 ∨ j' = 1 ∨ j' = 2 ∨ j' = 3 ∨ j' = 4 := (by omega); rcases h3 with rfl | rfl | rfl | rfl | rfl <;> first | rfl | exact absurd rfl h2) rfl, kept3 w g _ _ _ _ _ _⟩

set_option maxHeartbeats 1600000 in
theorem bind_any (g i : Nat) (P : List TraderT) (mo bo bd du : Int) (w : World) (h : OwnV w g (recCells 5 ePur P)) (hi : i < P.length) (hp : P.getD i default = (mo, bo, bd)) (h1 : IntKind.i64.wrap (bd + du) = bd + du) (h2 : IntKind.i64.wrap (bo - bd) = bo - bd) :
    Calls Try.prog 91 #[.pointer (some ⟨g, i * 5, none⟩), .int .i64 du] w fun e w' => e = .returned (.bool (!decide (bo - bd < du))) ∧ OwnV w' g (recCells 5 ePur (if bo - bd < du then P else P.set i (mo, bo, bd + du))) ∧ Kept (fun b => b = g) w w' := by
  obtain ⟨c0, c1, c2, c3, c4⟩ := purAt h hi hp
  have f := h.frozen
  have k3 : ∀ u, (w.setCell ⟨g, i * 5, none⟩ u).cell? ⟨g, i * 5 + 2 + 1, none⟩ = some (.int .i64 bo) := fun u => (World.cell?_setCell_other _ ⟨g, i * 5, none⟩ ⟨g, i * 5 + 2 + 1, none⟩ _ (by simp)).trans c3
  have k4 : ∀ u, (w.setCell ⟨g, i * 5, none⟩ u).cell? ⟨g, i * 5 + 2 + 2, none⟩ = some (.int .i64 bd) := fun u => (World.cell?_setCell_other _ ⟨g, i * 5, none⟩ ⟨g, i * 5 + 2 + 2, none⟩ _ (by simp)).trans c4
  have HO := hide h
  have HP := hide hp
  clear h hp
  by_cases hc : bo - bd < du
  · have dc : decide (bo - bd < du) = true := by simpa using hc
    rw [if_pos hc, dc]
    go_enter_defers Try.func91, Try.ntmps91
    go_wp2_with (go_at_call 93; refine (lock_free Try.muLib ⟨g, i * 5, none⟩ _ c0 (f _)).mono ?_; rintro e w' ⟨rfl, rfl⟩)
    go_quiet (fail)
    go_wp2
    show Leaves _ _ _ _ _ _ _
    refine leaves_cons (f := 94) (args := #[.pointer (some ⟨g, i * 5, none⟩)]) (by simp) (by simp [go_sem]) ?_
    refine (unlock_deferred Try.muLib ⟨g, i * 5, none⟩ .returning _ ?_ ?_).mono ?_
    · exact World.cell?_setCell_same w ⟨g, i * 5, none⟩ (.int .i32 1) c0
    · simp [f]
    rintro e u' w'' ⟨rfl, rfl, rfl⟩
    exact ⟨_, results_tmp rfl _ _ _, rfl, pur_lock (unhide HO) hi, kept2n w g _ _ _ _ _⟩
  · have dc : decide (bo - bd < du) = false := by simpa using hc
    rw [if_neg hc, dc]
    go_enter_defers Try.func91, Try.ntmps91
    go_wp2_with (go_at_call 93; refine (lock_free Try.muLib ⟨g, i * 5, none⟩ _ c0 (f _)).mono ?_; rintro e w' ⟨rfl, rfl⟩)
    go_quiet (fail)
    go_wp2
    show Leaves _ _ _ _ _ _ _
    refine leaves_cons (f := 94) (args := #[.pointer (some ⟨g, i * 5, none⟩)]) (by simp) (by simp [go_sem]) ?_
    refine (unlock_deferred Try.muLib ⟨g, i * 5, none⟩ .returning _ ?_ ?_).mono ?_
    · exact (World.cell?_setCell_other _ ⟨g, i * 5 + 4, none⟩ ⟨g, i * 5, none⟩ _ (by simp)).trans (World.cell?_setCell_same w ⟨g, i * 5, none⟩ (.int .i32 1) c0)
    · simp [f]
    rintro e u' w'' ⟨rfl, rfl, rfl⟩
    exact ⟨_, results_tmp rfl _ _ _, rfl, pur_put (unhide HO) hi (j := 4) (by omega) (by omega) ((mo, bo, bd + du)) (fun j' h1 h2 => by rw [unhide HP]; have h3 : j' = 0 ∨ j' = 1 ∨ j' = 2 ∨ j' = 3 ∨ j' = 4 := (by omega); rcases h3 with rfl | rfl | rfl | rfl | rfl <;> first | rfl | exact absurd rfl h2) rfl, kept3n w g _ _ _ _ _ _ _⟩

set_option maxHeartbeats 1600000 in
theorem release_any (g i : Nat) (P : List TraderT) (mo bo bd du : Int) (w : World) (h : OwnV w g (recCells 5 ePur P)) (hi : i < P.length) (hp : P.getD i default = (mo, bo, bd)) (h1 : IntKind.i64.wrap (bd - du) = bd - du) :
    Calls Try.prog 92 #[.pointer (some ⟨g, i * 5, none⟩), .int .i64 du] w fun e w' => e = .returned (.tuple #[]) ∧ OwnV w' g (recCells 5 ePur (P.set i (mo, bo, bd - du))) ∧ Kept (fun b => b = g) w w' := by
  obtain ⟨c0, c1, c2, c3, c4⟩ := purAt h hi hp
  have f := h.frozen
  have k3 : ∀ u, (w.setCell ⟨g, i * 5, none⟩ u).cell? ⟨g, i * 5 + 2 + 1, none⟩ = some (.int .i64 bo) := fun u => (World.cell?_setCell_other _ ⟨g, i * 5, none⟩ ⟨g, i * 5 + 2 + 1, none⟩ _ (by simp)).trans c3
  have k4 : ∀ u, (w.setCell ⟨g, i * 5, none⟩ u).cell? ⟨g, i * 5 + 2 + 2, none⟩ = some (.int .i64 bd) := fun u => (World.cell?_setCell_other _ ⟨g, i * 5, none⟩ ⟨g, i * 5 + 2 + 2, none⟩ _ (by simp)).trans c4
  have HO := hide h
  have HP := hide hp
  clear h hp
  go_enter_defers Try.func92, Try.ntmps92
  go_wp2_with (go_at_call 93; refine (lock_free Try.muLib ⟨g, i * 5, none⟩ _ c0 (f _)).mono ?_; rintro e w' ⟨rfl, rfl⟩)
  show Leaves _ _ _ _ _ _ _
  refine leaves_cons (f := 94) (args := #[.pointer (some ⟨g, i * 5, none⟩)]) (by simp) (by simp [go_sem]) ?_
  refine (unlock_deferred Try.muLib ⟨g, i * 5, none⟩ .returning _ ?_ ?_).mono ?_
  · exact (World.cell?_setCell_other _ ⟨g, i * 5 + 4, none⟩ ⟨g, i * 5, none⟩ _ (by simp)).trans (World.cell?_setCell_same w ⟨g, i * 5, none⟩ (.int .i32 1) c0)
  · simp [f]
  rintro e u' w'' ⟨rfl, rfl, rfl⟩
  exact ⟨_, results_none rfl _ _ _, rfl, pur_put (unhide HO) hi (j := 4) (by omega) (by omega) ((mo, bo, bd - du)) (fun j' h1 h2 => by rw [unhide HP]; have h3 : j' = 0 ∨ j' = 1 ∨ j' = 2 ∨ j' = 3 ∨ j' = 4 := (by omega); rcases h3 with rfl | rfl | rfl | rfl | rfl <;> first | rfl | exact absurd rfl h2) rfl, kept3 w g _ _ _ _ _ _⟩

set_option maxHeartbeats 1600000 in
theorem purTold_any (g i : Nat) (P : List TraderT) (mo bo bd : Int) (w : World) (h : OwnV w g (recCells 5 ePur P)) (hi : i < P.length) (hp : P.getD i default = (mo, bo, bd)) :
    Calls Try.prog 79 #[.pointer (some ⟨g, i * 5, none⟩)] w fun e w' => e = .returned (vTrader mo bo bd) ∧ OwnV w' g (recCells 5 ePur P) ∧ Kept (fun b => b = g) w w' := by
  have A := Below.alloc1 w (.cells #[.int .i64 0, .int .i64 0, .int .i64 0] 37)
  have HR := hide (ownV_alloc w #[.int .i64 0, .int .i64 0, .int .i64 0] 37)
  have hg := h.lt
  have h9 := h.step A
  obtain ⟨W, eW⟩ : ∃ W, W = w.alloc (.cells #[.int .i64 0, .int .i64 0, .int .i64 0] 37) := ⟨_, rfl⟩
  rw [← eW] at A HR h9
  obtain ⟨c0, c1, c2, c3, c4⟩ := purAt h9 hi hp
  have f := h9.frozen
  have hne : ¬ g = w.heap.size := by omega
  have hne2 : ¬ w.heap.size = g := by omega
  have r0 := (unhide HR).cell (i := 0) rfl
  have r1 := (unhide HR).cell (i := 1) rfl
  have r2 := (unhide HR).cell (i := 2) rfl
  have rf := (unhide HR).frozen
  have HO := hide h9
  have HA := hide A
  clear h h9 A hp
  go_enter_defers Try.func79, Try.ntmps79
  go_upto_region 1 with (fail)
  rw [← eW]
  clear eW
  go_wp2_with (go_at_call 93; refine (lock_free Try.muLib ⟨g, i * 5, none⟩ _ c0 (f _)).mono ?_; rintro e w' ⟨rfl, rfl⟩)
  have hl : i * 5 < (recCells 5 ePur P).length := by rw [recCells_length]; omega
  have HX := hide (((((((unhide HO).set (i * 5) (.int .i32 1) hl).other (a := ⟨w.heap.size, 0, none⟩) hne (.int .i64 mo)).other (a := ⟨w.heap.size, 1, none⟩) hne (.int .i64 bo)).other (a := ⟨w.heap.size, 2, none⟩) hne (.int .i64 bd)).set (i * 5) (.int .i32 0) (by rw [List.length_set]; exact hl)))
  rw [pur_same hi] at HX
  have HY := hide ((((((unhide HR).other (a := ⟨g, i * 5, none⟩) hne2 (.int .i32 1)).set 0 (.int .i64 mo) (by simp)).set 1 (.int .i64 bo) (by simp)).set 2 (.int .i64 bd) (by simp)).other (a := ⟨g, i * 5, none⟩) hne2 (.int .i32 0))
  have HK : Hid (Kept (fun b => b = g) w (((((W.setCell ⟨g, i * 5, none⟩ (.int .i32 1)).setCell ⟨w.heap.size, 0, none⟩ (.int .i64 mo)).setCell ⟨w.heap.size, 1, none⟩ (.int .i64 bo)).setCell ⟨w.heap.size, 2, none⟩ (.int .i64 bd)).setCell ⟨g, i * 5, none⟩ (.int .i32 0))) :=
    ((((((kept_of_below (T := fun b => b = g ∨ b = w.heap.size) (unhide HA)).setCell (p := ⟨g, i * 5, none⟩) (Or.inl rfl) _).setCell (p := ⟨w.heap.size, 0, none⟩) (Or.inr rfl) _).setCell (p := ⟨w.heap.size, 1, none⟩) (Or.inr rfl) _).setCell (p := ⟨w.heap.size, 2, none⟩) (Or.inr rfl) _).setCell (p := ⟨g, i * 5, none⟩) (Or.inl rfl) _).mono (fun k hk e => by rcases e with e | e <;> omega)
  have q0 := (unhide HY).cell (i := 0) rfl
  have q1 := (unhide HY).cell (i := 1) rfl
  have q2 := (unhide HY).cell (i := 2) rfl
  show Leaves _ _ _ _ _ _ _
  refine leaves_cons (f := 94) (args := #[.pointer (some ⟨g, i * 5, none⟩)]) (by simp) (by simp [go_sem]) ?_
  refine (unlock_deferred Try.muLib ⟨g, i * 5, none⟩ .returning _ ?_ ?_).mono ?_
  · exact ((((((unhide HO).set (i * 5) (.int .i32 1) hl).other (a := ⟨w.heap.size, 0, none⟩) hne (.int .i64 mo)).other (a := ⟨w.heap.size, 1, none⟩) hne (.int .i64 bo)).other (a := ⟨w.heap.size, 2, none⟩) hne (.int .i64 bd))).cell (List.getElem?_set_self hl)
  · simp [f]
  rintro e u' w'' ⟨rfl, rfl, rfl⟩
  exact ⟨vTrader mo bo bd, by simp [results, Try.results79, go_sem, vTrader, q0, q1, q2], rfl, unhide HX, unhide HK⟩

end Go.Proofs.Ytojlkdmlelgcbaa

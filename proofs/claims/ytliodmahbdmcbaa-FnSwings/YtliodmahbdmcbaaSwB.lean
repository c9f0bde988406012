/- Swings as lists; contracts of isClosed and closeSwing. -/
import Derived.Test.YtliodmahbdmcbaaSwA
import Derived.Test.YtliodmahbdmcbaaRSw2
import Derived.Test.YtliodmahbdmcbaaExactKit
namespace Go.Proofs.Ytliodmahbdmcbaa
open Go.RowKit

/-- The n-th from the end. -/
def lst (xs : List Int) (n : Nat) : Int := xs.getD (xs.length - 1 - n) 0
def closedB (xs : List Int) : Bool := decide (3 ≤ xs.length) && decide ((lst xs 1 - lst xs 2).natAbs ≤ (lst xs 0 - lst xs 1).natAbs)
def swing (xs : List Int) : Sw := (((lst xs 1 - lst xs 2).natAbs : Int), decide (xs.length = 3))
def closeS (xs : List Int) : List Int := if xs.length = 3 then xs.tail else xs.take (xs.length - 3) ++ [lst xs 0]

def lvl (xs : List Int) : Prop := xs.length ≤ 300 ∧ ∀ x ∈ xs, -1000000000 ≤ x ∧ x ≤ 1000000000

theorem lst_bd {xs : List Int} (h : lvl xs) (n : Nat) (hn : n < xs.length) : -1000000000 ≤ lst xs n ∧ lst xs n ≤ 1000000000 :=
  h.2 _ (by unfold lst; rw [getD_lt (by omega)]; exact List.getElem_mem _)

theorem closeS_lvl {xs : List Int} (h : lvl xs) (h3 : 3 ≤ xs.length) : lvl (closeS xs) ∧ (closeS xs).length + 1 ≤ xs.length := by
  unfold closeS
  split
  · exact ⟨⟨by have := h.1; simp; omega, fun x hx => h.2 x (List.mem_of_mem_tail hx)⟩, by simp; omega⟩
  · refine ⟨⟨by have := h.1; simp; omega, fun x hx => ?_⟩, by simp; omega⟩
    rcases List.mem_append.1 hx with hx | hx
    · exact h.2 x (List.mem_of_mem_take hx)
    · simp only [List.mem_singleton] at hx
      subst hx
      exact lst_bd h 0 (by omega)

theorem last_l (B : Nat) (gb : Option Nat) (xs : List Int) (c : Int) (n : Nat) (w : World) (h : Stk w B gb xs) (hc : c = n) (hn : n < xs.length) (hl : xs.length ≤ 1000) :
    Calls Try.prog 72 #[.pointer (some ⟨B, 0, none⟩), .int .i64 c] w fun e w' => e = .returned (.int .i64 (lst xs n)) ∧ Below w.heap.size w w' := last_any B gb xs c n w h hc hn hl

theorem pop_l (B : Nat) (gb : Option Nat) (xs : List Int) (w : World) (h : Stk w B gb xs) (hn : 1 ≤ xs.length) (hl : xs.length ≤ 1000) :
    Calls Try.prog 73 #[.pointer (some ⟨B, 0, none⟩)] w fun e w' => e = .returned (.int .i64 (lst xs 0)) ∧ Stk w' B gb xs.dropLast ∧ Kept (fun k => k = B) w w' := pop_any B gb xs w h hn hl

set_option maxHeartbeats 800000 in
theorem isClosed_any (B : Nat) (gb : Option Nat) (xs : List Int) (w : World) (h : Stk w B gb xs) (hv : lvl xs) :
    Calls Try.prog 49 #[.pointer (some ⟨B, 0, none⟩)] w fun e w' => e = .returned (.bool (closedB xs)) ∧ Below w.heap.size w w' := by
  have HS := hide h
  have HV := hide hv
  have hl := hv.1
  by_cases h3 : 3 ≤ xs.length
  · have b0 := lst_bd hv 0 (by omega)
    have b1 := lst_bd hv 1 (by omega)
    have b2 := lst_bd hv 2 (by omega)
    have HF : Hid (closedB xs = decide ((lst xs 1 - lst xs 2).natAbs ≤ (lst xs 0 - lst xs 1).natAbs)) := by show _ = _; simp [closedB, h3]
    have h3i : (3 : Int) ≤ xs.length := by omega
    have d3 : decide ((xs.length : Int) < 3) = false := by simp; omega
    have d3' : decide (xs.length < 3) = false := by simp; omega
    clear h hv
    go_enter Try.func49, Try.ntmps49
    go_wp2_with fail
    refine (count_any B gb xs w (unhide HS)).mono ?_
    rintro e w' ⟨rfl, rfl⟩
    go_wp2_with fail
    refine (last_l B gb xs 0 0 w (unhide HS) rfl (by omega) (by omega)).mono ?_
    rintro e w1 ⟨rfl, hb⟩
    have HW := hide hb
    clear hb
    go_wp2_with fail
    refine (last_l B gb xs 1 1 w1 ((unhide HS).below (unhide HW)) rfl (by omega) (by omega)).mono ?_
    rintro e w2 ⟨rfl, hb⟩
    replace HW := hide (Below.step (unhide HW) hb)
    clear hb
    have G1 := hide (gap_any (lst xs 0) (lst xs 1) w2 b0.1 b0.2 b1.1 b1.2)
    go_wp2_with fail
    refine (unhide G1).mono ?_
    rintro e w' ⟨rfl, rfl⟩
    clear G1
    go_wp2_with fail
    refine (last_l B gb xs 1 1 w2 ((unhide HS).below (unhide HW)) rfl (by omega) (by omega)).mono ?_
    rintro e w3 ⟨rfl, hb⟩
    replace HW := hide (Below.step (unhide HW) hb)
    clear hb
    go_wp2_with fail
    refine (last_l B gb xs 2 2 w3 ((unhide HS).below (unhide HW)) rfl (by omega) (by omega)).mono ?_
    rintro e w4 ⟨rfl, hb⟩
    replace HW := hide (Below.step (unhide HW) hb)
    clear hb
    have G2 := hide (gap_any (lst xs 1) (lst xs 2) w4 b1.1 b1.2 b2.1 b2.2)
    go_wp2_with fail
    refine (unhide G2).mono ?_
    rintro e w' ⟨rfl, rfl⟩
    clear G2
    go_wp2
    go_ret
    exact ⟨ret_bool (by first | rw [unhide HF] | (rw [unhide HF, decide_eq_decide]; omega)), unhide HW⟩
  · have HF : Hid (closedB xs = false) := by show _ = _; simp [closedB, h3]
    have d3 : decide ((xs.length : Int) < 3) = true := by simp; omega
    have d3' : decide (xs.length < 3) = true := by simp; omega
    have h3i : (xs.length : Int) < 3 := by omega
    clear h hv
    go_enter Try.func49, Try.ntmps49
    go_wp2_with fail
    refine (count_any B gb xs w (unhide HS)).mono ?_
    rintro e w' ⟨rfl, rfl⟩
    go_wp2
    go_ret
    exact ⟨ret_bool (unhide HF).symm, Below.refl _ _⟩

theorem drop3 (xs : List Int) : xs.dropLast.dropLast.dropLast = xs.take (xs.length - 3) := by
  apply List.ext_getElem
  · simp; omega
  · intro i h1 h2
    simp

/-- A stack behind closeSwing. -/
structure Closed (w w' : World) (B : Nat) (gb gb' : Option Nat) (ys : List Int) : Prop where
  stk : Stk w' B gb' ys
  kept : Kept (fun k => k = B ∨ gb = some k) w w'
  own : gb' = gb ∨ ∃ g, gb' = some g ∧ w.heap.size ≤ g

theorem Stk.gb_lt {A : World} {B g : Nat} {xs : List Int} (h : Stk A B (some g) xs) : g < A.heap.size := by
  rcases h with ⟨e, _⟩ | ⟨g', o, cap, e, h0, hlt, _⟩
  · cases e
  · cases e; exact hlt

set_option maxHeartbeats 1600000 in
theorem closeSwing_any (B : Nat) (gb : Option Nat) (xs : List Int) (w : World) (h : Stk w B gb xs) (hv : lvl xs) (h3 : 3 ≤ xs.length) :
    Calls Try.prog 50 #[.pointer (some ⟨B, 0, none⟩)] w fun e w' => e = .returned (vSw (swing xs)) ∧ ∃ gb', Closed w w' B gb gb' (closeS xs) := by
  have hl := hv.1
  have b1 := lst_bd hv 1 (by omega)
  have b2 := lst_bd hv 2 (by omega)
  have hBlt := h.lt
  have AN := Below.alloc1 w (.cells #[.int .i64 0, .bool false] 38)
  have HO := hide (ownV_alloc w #[.int .i64 0, .bool false] 38)
  have HS := hide (h.below AN)
  have HW := hide AN
  have ESW : Hid (swing xs = (((lst xs 1 - lst xs 2).natAbs : Int), decide (xs.length = 3))) := hide rfl
  have HGB : Hid (∀ g, gb = some g → g < w.heap.size) := fun g e => by subst e; exact h.gb_lt
  clear h AN hv
  go_enter Try.func50, Try.ntmps50
  go_wp2_with fail
  refine (last_l B gb xs 1 1 _ (unhide HS) rfl (by omega) (by omega)).mono ?_
  rintro e w1 ⟨rfl, hb⟩
  replace HS := hide ((unhide HS).below hb)
  replace HW := hide (Below.step (unhide HW) hb)
  replace HO := hide (OwnV.step (unhide HO) hb)
  clear hb
  go_wp2_with fail
  refine (last_l B gb xs 2 2 _ (unhide HS) rfl (by omega) (by omega)).mono ?_
  rintro e w2 ⟨rfl, hb⟩
  replace HS := hide ((unhide HS).below hb)
  replace HW := hide (Below.step (unhide HW) hb)
  replace HO := hide (OwnV.step (unhide HO) hb)
  clear hb
  go_wp2_with fail
  refine (gap_any (lst xs 1) (lst xs 2) w2 b1.1 b1.2 b2.1 b2.2).mono ?_
  rintro e w' ⟨rfl, rfl⟩
  go_wp2_with fail
  refine (count_any B gb xs w2 (unhide HS)).mono ?_
  rintro e w' ⟨rfl, rfl⟩
  generalize ((lst xs 1 - lst xs 2).natAbs : Int) = y at *
  have hz2 : w.heap.size < w2.heap.size := (unhide HO).lt
  have FIN : Hid (∀ (gb' : Option Nat) (w3 : World) (b : Bool), Stk w3 B gb' (closeS xs) → Kept (fun k => k = B ∨ gb = some k) w w3 → (gb' = gb ∨ ∃ g, gb' = some g ∧ w2.heap.size < g) → Closed w ((w3.setCell ⟨w.heap.size, 0, none⟩ (.int .i64 y)).setCell ⟨w.heap.size, 1, none⟩ (.bool b)) B gb gb' (closeS xs)) := by
    intro gb' w3 b h1 h2 h3'
    have hBne : B ≠ w.heap.size := by omega
    refine ⟨h1.same ((Below.heap_setCell _ _ _ _ hBne).trans (Below.heap_setCell _ _ _ _ hBne)) (fun g e => ?_), ?_, ?_⟩
    · have hg : g ≠ w.heap.size := by
        rcases h3' with h | ⟨g', h, h'⟩
        · have := unhide HGB g (by rw [← h]; exact e); omega
        · rw [h] at e; cases e; omega
      exact (Below.heap_setCell _ _ _ _ hg).trans (Below.heap_setCell _ _ _ _ hg)
    · have h4 : Kept (fun k => (k = B ∨ gb = some k) ∨ k = w.heap.size) w w3 := h2.mono (fun k _ e => Or.inl e)
      exact ((h4.setCell (p := ⟨w.heap.size, 0, none⟩) (Or.inr rfl) (.int .i64 y)).setCell (p := ⟨w.heap.size, 1, none⟩) (Or.inr rfl) (.bool b)).mono (fun k hk e => by rcases e with e | e; (· exact e); (· omega))
    · rcases h3' with h | ⟨g', h, h'⟩
      · exact Or.inl h
      · exact Or.inr ⟨g', h, by omega⟩
  by_cases he : xs.length = 3
  · have EC : Hid (closeS xs = xs.tail) := by show _ = _; rw [closeS, if_pos he]
    have e1 : ((xs.length : Int) == 3) = true := by rw [beq_iff_eq]; omega
    have ES : Hid (swing xs = (y, true)) := by show _ = _; rw [unhide ESW, decide_eq_true he]
    have he2 : 2 ≤ xs.length := by omega
    clear he ESW
    have AN := Below.alloc1 w2 (.cells #[.int .i64 y, .bool true] 38)
    have HP := hide (ownV_alloc w2 #[.int .i64 y, .bool true] 38)
    replace HS := hide ((unhide HS).below AN)
    replace HW := hide (Below.step (unhide HW) AN)
    replace HO := hide (OwnV.step (unhide HO) AN)
    clear AN
    go_wp2_with fail
    refine (dropFirst_any B gb xs _ (unhide HS) he2).mono ?_
    rintro e w3 ⟨rfl, hst, hk⟩
    replace HO := hide (OwnV.kept (unhide HO) hk (fun e => by omega))
    replace HP := hide (OwnV.kept (unhide HP) hk (fun e => by omega))
    have c0 := OwnV.cell (unhide HO) (i := 0) rfl
    have c1 := OwnV.cell (unhide HO) (i := 1) rfl
    have f0 := (unhide HO).frozen
    have d0 := OwnV.cell (unhide HP) (i := 0) rfl
    have d1 := OwnV.cell (unhide HP) (i := 1) rfl
    have hst' : Stk w3 B gb (closeS xs) := by rw [unhide EC]; exact hst
    have HC := hide (unhide FIN gb w3 true hst' (((kept_of_below (T := fun k => k = B) (unhide HW)).trans hk).mono (fun k _ e => Or.inl e)) (Or.inl rfl))
    clear hst hst' hk HS FIN
    go_wp2
    refine bodyPost_ret (v := vSw (y, true)) (by simp [results, Try.results50, go_sem, c0, c1, vSw]) rfl ⟨by rw [unhide ES], gb, unhide HC⟩
  · have EC : Hid (closeS xs = xs.take (xs.length - 3) ++ [lst xs 0]) := by show _ = _; rw [closeS, if_neg he]
    have e1 : ((xs.length : Int) == 3) = false := by rw [beq_eq_false_iff_ne]; omega
    have ES : Hid (swing xs = (y, false)) := by show _ = _; rw [unhide ESW, decide_eq_false he]
    have ED := hide (drop3 xs)
    clear he ESW
    have AN := Below.alloc1 w2 (.cells #[.int .i64 y, .bool false] 38)
    have HP := hide (ownV_alloc w2 #[.int .i64 y, .bool false] 38)
    replace HS := hide ((unhide HS).below AN)
    replace HW := hide (kept_of_below (T := fun k => k = B ∨ gb = some k) (Below.step (unhide HW) AN))
    replace HO := hide (OwnV.step (unhide HO) AN)
    clear AN
    go_wp2_with fail
    refine (pop_l B gb xs _ (unhide HS) (by omega) (by omega)).mono ?_
    rintro e w3 ⟨rfl, hst, hk⟩
    have HS3 := hide hst
    replace HO := hide (OwnV.kept (unhide HO) hk (fun e => by omega))
    replace HP := hide (OwnV.kept (unhide HP) hk (fun e => by omega))
    replace HW := hide ((unhide HW).trans (hk.mono (fun k _ e => Or.inl e)))
    clear hst hk HS
    go_wp2_with fail
    refine (pop_l B gb xs.dropLast _ (unhide HS3) (by simp; omega) (by simp; omega)).mono ?_
    rintro e w4 ⟨rfl, hst, hk⟩
    have HS4 := hide hst
    replace HO := hide (OwnV.kept (unhide HO) hk (fun e => by omega))
    replace HP := hide (OwnV.kept (unhide HP) hk (fun e => by omega))
    replace HW := hide ((unhide HW).trans (hk.mono (fun k _ e => Or.inl e)))
    clear hst hk HS3
    go_wp2_with fail
    refine (pop_l B gb xs.dropLast.dropLast _ (unhide HS4) (by simp; omega) (by simp; omega)).mono ?_
    rintro e w5 ⟨rfl, hst, hk⟩
    rw [unhide ED] at hst
    have HS5 := hide hst
    have hz5 := (unhide HP).lt
    replace HO := hide (OwnV.kept (unhide HO) hk (fun e => by omega))
    replace HP := hide (OwnV.kept (unhide HP) hk (fun e => by omega))
    replace HW := hide ((unhide HW).trans (hk.mono (fun k _ e => Or.inl e)))
    have hz5' := (unhide HP).lt
    clear hst hk HS4
    go_wp2_with fail
    refine (push_any B gb _ (lst xs 0) w5 (unhide HS5) (by simp; omega)).mono ?_
    rintro e w6 ⟨rfl, gb', hst, hk, hown⟩
    rw [← unhide EC] at hst
    replace HO := hide (OwnV.kept (unhide HO) hk (fun e => by rcases e with e | e; (· omega); (· have := unhide HGB _ e; omega)))
    replace HP := hide (OwnV.kept (unhide HP) hk (fun e => by rcases e with e | e; (· omega); (· have := unhide HGB _ e; omega)))
    have HC := hide (unhide FIN gb' w6 false hst ((unhide HW).trans hk) (by rcases hown with h | ⟨g, h, h'⟩; (· exact Or.inl h); (· exact Or.inr ⟨g, h, by omega⟩)))
    have c0 := OwnV.cell (unhide HO) (i := 0) rfl
    have c1 := OwnV.cell (unhide HO) (i := 1) rfl
    have f0 := (unhide HO).frozen
    have d0 := OwnV.cell (unhide HP) (i := 0) rfl
    have d1 := OwnV.cell (unhide HP) (i := 1) rfl
    clear hst hk hown HS5 FIN HW
    go_wp2
    refine bodyPost_ret (v := vSw (y, false)) (by simp [results, Try.results50, go_sem, c0, c1, vSw]) rfl ⟨by rw [unhide ES], gb', unhide HC⟩

end Go.Proofs.Ytliodmahbdmcbaa

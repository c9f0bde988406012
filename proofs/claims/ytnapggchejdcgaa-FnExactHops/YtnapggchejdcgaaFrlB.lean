/- Contracts of isOnFloor and of both FloorOk. Written by wip/mkfrlb.py. -/
import Derived.Test.YtnapggchejdcgaaFrlM
import Derived.Test.YtnapggchejdcgaaWalkD
import Derived.Test.YtnapggchejdcgaaWalkE
namespace Go.Proofs.Ytnapggchejdcgaa
open Go.RowKit



set_option maxRecDepth 10000 in
set_option maxHeartbeats 8000000 in
theorem specFloorOk_any (s : Flr) (dao : Option Addr) (dn dc : Nat) (w : World) (hD : IntsIn w (.slice dao dn dc) s.W) :
    Calls Try.prog 25 #[vFloor s.wd s.hg (.slice dao dn dc)] w fun e w' => e = .returned (.bool (flB s)) ∧ Below w.heap.size w w' := by
  obtain ⟨wd, hg, D⟩ := s
  dsimp only at hD ⊢
  have A := Below.alloc1 w (.cells #[.int .i64 wd, .int .i64 hg, .slice dao dn dc] 26)
  have HALL := hide (l3All_any _ D 0 15 _ (hD.below A))
  obtain ⟨dao', dc', eD, hdl, hdm, hdc⟩ := hD
  simp only [Value.slice.injEq] at eD
  obtain ⟨rfl, rfl, rfl⟩ := eD
  unfold maxLen at hdm
  have HDC := hide hdc
  have HW := hide A
  clear A hdc
  obtain ⟨r, er⟩ : ∃ r, r = flB ⟨wd, hg, D⟩ := ⟨_, rfl⟩
  rw [← er]
  have ER := hide er
  clear er
  unfold flB at ER
  dsimp only at ER
  unfold vFloor
  cases h1 : inB wd 1 10
  · have e1 : r = false := by rw [unhide ER, h1]; simp
    subst e1
    go_enter Try.func25, Try.ntmps25
    go_wp2_with (go_at_call 53; refine (l1In_any _ _ _ _).mono ?_; rintro e w' ⟨rfl, h9⟩; have h8 := h9.symm; subst h8; clear h9)
    go_ret
    exact ⟨rfl, unhide HW⟩
  cases h2 : inB hg 1 10
  · have e1 : r = false := by rw [unhide ER, h2]; simp
    subst e1
    go_enter Try.func25, Try.ntmps25
    go_wp2_with (go_at_call 53; refine (l1In_any _ _ _ _).mono ?_; rintro e w' ⟨rfl, h9⟩; have h8 := h9.symm; subst h8; clear h9)
    go_ret
    exact ⟨rfl, unhide HW⟩
  obtain ⟨hw0, hw1⟩ := inB_true h1
  obtain ⟨hh0, hh1⟩ := inB_true h2
  rw [h1, h2] at ER
  obtain ⟨p, ep⟩ : ∃ p, p = wd * hg := ⟨_, rfl⟩
  have hp : 1 ≤ p ∧ p ≤ 100 := by rw [ep]; exact mul_f10 hw0 hw1 hh0 hh1
  obtain ⟨hp0, hp1⟩ := hp
  have qp : IntKind.i64.wrap (wd * hg) = p := by rw [← ep, IntKind.wrap_i64]; omega
  rw [← ep] at ER
  clear ep
  by_cases h3 : (D.length : Int) = p
  case neg =>
    have d3 : ((D.length : Int) != p) = true := by simp; exact h3
    have d3' : ((D.length : Int) == p) = false := by simp; exact h3
    have e1 : r = false := by rw [unhide ER, decide_eq_false h3]; simp
    subst e1
    go_enter Try.func25, Try.ntmps25
    go_wp2_with (go_at_call 53; refine (l1In_any _ _ _ _).mono ?_; rintro e w' ⟨rfl, h9⟩; have h8 := h9.symm; subst h8; clear h9)
    go_ret
    exact ⟨rfl, unhide HW⟩
  have d3 : ((D.length : Int) != p) = false := by simp; exact h3
  have d3' : ((D.length : Int) == p) = true := by simp; exact h3
  have e1 : r = D.all (fun d => inB d 0 15) := by rw [unhide ER, decide_eq_true h3]; simp
  have ES := hide e1
  clear ER e1
  go_enter Try.func25, Try.ntmps25
  go_wp2_with (first | (go_at_call 53; refine (l1In_any _ _ _ _).mono ?_; rintro e w' ⟨rfl, h9⟩; have h8 := h9.symm; subst h8; clear h9) | (go_at_call 59; refine (unhide HALL).mono ?_; rintro e w' ⟨rfl, h9⟩; have h8 := h9.symm; subst h8; clear h9))
  go_ret
  exact ⟨ret_bool (by rw [unhide ES]), unhide HW⟩

set_option maxRecDepth 10000 in
set_option maxHeartbeats 8000000 in
theorem implFloorOk_any (s : Flr) (dao : Option Addr) (dn dc : Nat) (w : World) (hD : IntsIn w (.slice dao dn dc) s.W) :
    Calls Try.prog 14 #[vFloor s.wd s.hg (.slice dao dn dc)] w fun e w' => e = .returned (.bool (flB s)) ∧ Below w.heap.size w w' := by
  obtain ⟨wd, hg, D⟩ := s
  dsimp only at hD ⊢
  have A := Below.alloc1 w (.cells #[.int .i64 wd, .int .i64 hg, .slice dao dn dc] 26)
  obtain ⟨dao', dc', eD, hdl, hdm, hdc⟩ := hD
  simp only [Value.slice.injEq] at eD
  obtain ⟨rfl, rfl, rfl⟩ := eD
  unfold maxLen at hdm
  have HDC := hide hdc
  have HW := hide A
  clear A hdc
  obtain ⟨r, er⟩ : ∃ r, r = flB ⟨wd, hg, D⟩ := ⟨_, rfl⟩
  rw [← er]
  have ER := hide er
  clear er
  unfold flB at ER
  dsimp only at ER
  unfold vFloor
  cases h1 : inB wd 1 10
  · have e1 : r = false := by rw [unhide ER, h1]; simp
    subst e1
    go_enter Try.func14, Try.ntmps14
    go_wp2_with (go_at_call 46; refine (within_any _ _ _ _).mono ?_; rintro e w' ⟨rfl, h9⟩; have h8 := h9.symm; subst h8; clear h9)
    go_ret
    exact ⟨rfl, unhide HW⟩
  cases h2 : inB hg 1 10
  · have e1 : r = false := by rw [unhide ER, h2]; simp
    subst e1
    go_enter Try.func14, Try.ntmps14
    go_wp2_with (go_at_call 46; refine (within_any _ _ _ _).mono ?_; rintro e w' ⟨rfl, h9⟩; have h8 := h9.symm; subst h8; clear h9)
    go_ret
    exact ⟨rfl, unhide HW⟩
  obtain ⟨hw0, hw1⟩ := inB_true h1
  obtain ⟨hh0, hh1⟩ := inB_true h2
  rw [h1, h2] at ER
  obtain ⟨p, ep⟩ : ∃ p, p = wd * hg := ⟨_, rfl⟩
  have hp : 1 ≤ p ∧ p ≤ 100 := by rw [ep]; exact mul_f10 hw0 hw1 hh0 hh1
  obtain ⟨hp0, hp1⟩ := hp
  have qp : IntKind.i64.wrap (wd * hg) = p := by rw [← ep, IntKind.wrap_i64]; omega
  rw [← ep] at ER
  clear ep
  by_cases h3 : (D.length : Int) = p
  case neg =>
    have d3 : ((D.length : Int) != p) = true := by simp; exact h3
    have d3' : ((D.length : Int) == p) = false := by simp; exact h3
    have e1 : r = false := by rw [unhide ER, decide_eq_false h3]; simp
    subst e1
    go_enter Try.func14, Try.ntmps14
    go_wp2_with (go_at_call 46; refine (within_any _ _ _ _).mono ?_; rintro e w' ⟨rfl, h9⟩; have h8 := h9.symm; subst h8; clear h9)
    go_ret
    exact ⟨rfl, unhide HW⟩
  have d3 : ((D.length : Int) != p) = false := by simp; exact h3
  have d3' : ((D.length : Int) == p) = true := by simp; exact h3
  have e1 : r = D.all (fun d => inB d 0 15) := by rw [unhide ER, decide_eq_true h3]; simp
  have ES := hide e1
  clear ER e1
  go_enter Try.func14, Try.ntmps14
  go_wp2_with (go_at_call 46; refine (within_any _ _ _ _).mono ?_; rintro e w' ⟨rfl, h9⟩; have h8 := h9.symm; subst h8; clear h9)
  obtain ⟨W0, eW⟩ : ∃ z, z = w.alloc (.cells #[.int .i64 wd, .int .i64 hg, .slice dao D.length dc] 26) := ⟨_, rfl⟩
  rw [← eW] at HW ⊢
  clear eW d3 d3' qp
  go_loopg [29] D.length (fun g i wr => W0 = wr ∧ ∃ k : Nat, k ≤ D.length ∧ g = D.length - k ∧ i = .int .i64 k ∧ Hid (∀ r, r < k → inB (D.getD r 0) 0 15 = true))
  case atStart => exact ⟨rfl, 0, Nat.zero_le _, rfl, rfl, fun r hr => by omega⟩
  case round =>
    obtain ⟨rfl, k, hk, rfl, rfl, HDD⟩ := hrel
    by_cases hkn : k < D.length
    · obtain ⟨b, o, rfl, hcell⟩ := unhide HDC k hkn
      have g0 := ((unhide HW).cell (lt_of_cell hcell)).trans hcell
      have hki : (k : Int) < D.length := by omega
      cases hin : inB (D.getD k 0) 0 15 with
      | true =>
        have HD' : Hid (∀ r, r < k + 1 → inB (D.getD r 0) 0 15 = true) := fun r hr => by
          by_cases e : r = k
          · subst e; exact hin
          · exact (unhide HDD) r (by omega)
        clear HDD hcell
        generalize D.getD k 0 = x at *
        go_wp2_with (go_at_call 46; refine (within_any _ _ _ _).mono ?_; rintro e w' ⟨rfl, h9⟩; have h8 := h9.symm; subst h8; clear h9)
        go_roundg (D.length - (k + 1))
        case measure => omega
        case rel => exact ⟨rfl, k + 1, by omega, rfl, by go_num, HD'⟩
      | false =>
        have HN := hide (all_false (p := fun d => inB d 0 15) hkn hin)
        clear HDD hcell
        generalize D.getD k 0 = x at *
        go_wp2_with (go_at_call 46; refine (within_any _ _ _ _).mono ?_; rintro e w' ⟨rfl, h9⟩; have h8 := h9.symm; subst h8; clear h9)
        go_ret
        exact ⟨ret_bool (by rw [unhide ES]; exact (unhide HN).symm), unhide HW⟩
    · have HAD := hide (all_true (p := fun d => inB d 0 15) (xs := D) (d := 0) (fun r hr => (unhide HDD) r (by omega)))
      have hki : ¬ (k : Int) < D.length := by omega
      clear HDD
      go_wp2
      go_ret
      exact ⟨ret_bool (by rw [unhide ES]; exact (unhide HAD).symm), unhide HW⟩

set_option maxHeartbeats 800000 in
theorem isOnFloor_any (wd hg : Int) (dao : Option Addr) (D : List Int) (dc : Nat) (p : Int) (w : World) (hl : D.length ≤ 1048576) :
    Calls Try.prog 47 #[vFloor wd hg (.slice dao D.length dc), .int .i64 p] w fun e w' => e = .returned (.bool (inB p 0 ((D.length : Int) - 1))) ∧ Below w.heap.size w w' := by
  have HB := hide (Below.alloc1 w (.cells #[.int .i64 wd, .int .i64 hg, .slice dao D.length dc] 26))
  have q2 : IntKind.i64.wrap ((D.length : Int) - 1) = (D.length : Int) - 1 := by rw [IntKind.wrap_i64]; omega
  unfold vFloor
  go_enter Try.func47, Try.ntmps47
  go_wp2_with (go_at_call 46; refine (within_any _ _ _ _).mono ?_; rintro e w' ⟨rfl, h9⟩; have h8 := h9.symm; subst h8; clear h9)
  go_ret
  exact ⟨rfl, unhide HB⟩

end Go.Proofs.Ytnapggchejdcgaa

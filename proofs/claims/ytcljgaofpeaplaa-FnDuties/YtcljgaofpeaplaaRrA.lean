/- Ships in numbers; contracts of the specification's and the program's small functions on ships and vectors, and of both ShipOk. Written by wip/mkrr.py. -/
import Derived.Test.YtcljgaofpeaplaaWalkE
import Derived.Test.YtcljgaofpeaplaaWalkF
import Derived.Test.YtcljgaofpeaplaaRecs
import Derived.Test.YtcljgaofpeaplaaRShip
import Derived.Test.YtcljgaofpeaplaaRrV
import Derived.Laws.StructEq
namespace Go.Proofs.Ytcljgaofpeaplaa
open Go.RowKit

/-- A right ship, in numbers. -/
def shipB (x y vx vy so dr : Int) : Bool := inB x (-100000) 100000 && inB y (-100000) 100000 && inB vx (-1000) 1000 && inB vy (-1000) 1000 && (vx != 0 || vy != 0) && inB so 1 5 && inB dr 0 1000

abbrev vV (a b : Int) : Value := .agg #[.int .i64 a, .int .i64 b]

set_option maxHeartbeats 3200000 in
theorem specShipOk_any (x y vx vy so dr : Int) (w : World) :
    Calls Try.prog 8 #[vShip x y vx vy so dr] w fun e w' => e = .returned (.bool (shipB x y vx vy so dr)) ∧ Below w.heap.size w w' := by
  have HW := hide (Below.alloc1 w (.cells #[.int .i64 x, .int .i64 y, .int .i64 vx, .int .i64 vy, .int .i64 so, .int .i64 dr] 25))
  cases h1 : inB x (-100000) 100000
  · skip
    have HN : Hid (shipB x y vx vy so dr = false) := by show _ = _; unfold shipB; rw [h1]; first | rfl | simp
    unfold vShip
    go_enter Try.func8, Try.ntmps8
    go_wp2_with (go_at_call 24; refine (l1In_any _ _ _ _).mono ?_; rintro e w' ⟨rfl, h9⟩; have h8 := h9.symm; subst h8; clear h9)
    go_ret
    exact ⟨ret_bool (unhide HN).symm, unhide HW⟩
  cases h2 : inB y (-100000) 100000
  · skip
    have HN : Hid (shipB x y vx vy so dr = false) := by show _ = _; unfold shipB; rw [h1, h2]; first | rfl | simp
    unfold vShip
    go_enter Try.func8, Try.ntmps8
    go_wp2_with (go_at_call 24; refine (l1In_any _ _ _ _).mono ?_; rintro e w' ⟨rfl, h9⟩; have h8 := h9.symm; subst h8; clear h9)
    go_ret
    exact ⟨ret_bool (unhide HN).symm, unhide HW⟩
  cases h3 : inB vx (-1000) 1000
  · skip
    have HN : Hid (shipB x y vx vy so dr = false) := by show _ = _; unfold shipB; rw [h1, h2, h3]; first | rfl | simp
    unfold vShip
    go_enter Try.func8, Try.ntmps8
    go_wp2_with (go_at_call 24; refine (l1In_any _ _ _ _).mono ?_; rintro e w' ⟨rfl, h9⟩; have h8 := h9.symm; subst h8; clear h9)
    go_ret
    exact ⟨ret_bool (unhide HN).symm, unhide HW⟩
  cases h4 : inB vy (-1000) 1000
  · skip
    have HN : Hid (shipB x y vx vy so dr = false) := by show _ = _; unfold shipB; rw [h1, h2, h3, h4]; first | rfl | simp
    unfold vShip
    go_enter Try.func8, Try.ntmps8
    go_wp2_with (go_at_call 24; refine (l1In_any _ _ _ _).mono ?_; rintro e w' ⟨rfl, h9⟩; have h8 := h9.symm; subst h8; clear h9)
    go_ret
    exact ⟨ret_bool (unhide HN).symm, unhide HW⟩
  cases h5 : (vx != 0)
  · cases h55 : (vy != 0)
    · have g1 : (vx == 0) = true := by simpa using h5
      have g2 : (vy == 0) = true := by simpa using h55
      have HN : Hid (shipB x y vx vy so dr = false) := by show _ = _; unfold shipB; rw [h1, h2, h3, h4, h5, h55]; first | rfl | simp
      unfold vShip
      go_enter Try.func8, Try.ntmps8
      go_wp2_with (go_at_call 24; refine (l1In_any _ _ _ _).mono ?_; rintro e w' ⟨rfl, h9⟩; have h8 := h9.symm; subst h8; clear h9)
      go_ret
      exact ⟨ret_bool (unhide HN).symm, unhide HW⟩
    have hv : (vx != 0 || vy != 0) = true := by rw [h5, h55]; rfl
    have g1 : (vx == 0) = true := by simpa using h5
    have g2 : (vy == 0) = false := by simpa using h55
    cases h6 : inB so 1 5
    · skip
      have HN : Hid (shipB x y vx vy so dr = false) := by show _ = _; unfold shipB; rw [h1, h2, h3, h4, hv, h6]; first | rfl | simp
      unfold vShip
      go_enter Try.func8, Try.ntmps8
      go_wp2_with (go_at_call 24; refine (l1In_any _ _ _ _).mono ?_; rintro e w' ⟨rfl, h9⟩; have h8 := h9.symm; subst h8; clear h9)
      go_ret
      exact ⟨ret_bool (unhide HN).symm, unhide HW⟩
    cases h7 : inB dr 0 1000
    · skip
      have HN : Hid (shipB x y vx vy so dr = false) := by show _ = _; unfold shipB; rw [h1, h2, h3, h4, hv, h6, h7]; first | rfl | simp
      unfold vShip
      go_enter Try.func8, Try.ntmps8
      go_wp2_with (go_at_call 24; refine (l1In_any _ _ _ _).mono ?_; rintro e w' ⟨rfl, h9⟩; have h8 := h9.symm; subst h8; clear h9)
      go_ret
      exact ⟨ret_bool (unhide HN).symm, unhide HW⟩
    skip
    have HN : Hid (shipB x y vx vy so dr = true) := by show _ = _; unfold shipB; rw [h1, h2, h3, h4, hv, h6, h7]; first | rfl | simp
    unfold vShip
    go_enter Try.func8, Try.ntmps8
    go_wp2_with (go_at_call 24; refine (l1In_any _ _ _ _).mono ?_; rintro e w' ⟨rfl, h9⟩; have h8 := h9.symm; subst h8; clear h9)
    go_ret
    exact ⟨ret_bool (unhide HN).symm, unhide HW⟩
  have hv : (vx != 0 || vy != 0) = true := by rw [h5]; rfl
  have g1 : (vx == 0) = false := by simpa using h5
  cases h6 : inB so 1 5
  · skip
    have HN : Hid (shipB x y vx vy so dr = false) := by show _ = _; unfold shipB; rw [h1, h2, h3, h4, hv, h6]; first | rfl | simp
    unfold vShip
    go_enter Try.func8, Try.ntmps8
    go_wp2_with (go_at_call 24; refine (l1In_any _ _ _ _).mono ?_; rintro e w' ⟨rfl, h9⟩; have h8 := h9.symm; subst h8; clear h9)
    go_ret
    exact ⟨ret_bool (unhide HN).symm, unhide HW⟩
  cases h7 : inB dr 0 1000
  · skip
    have HN : Hid (shipB x y vx vy so dr = false) := by show _ = _; unfold shipB; rw [h1, h2, h3, h4, hv, h6, h7]; first | rfl | simp
    unfold vShip
    go_enter Try.func8, Try.ntmps8
    go_wp2_with (go_at_call 24; refine (l1In_any _ _ _ _).mono ?_; rintro e w' ⟨rfl, h9⟩; have h8 := h9.symm; subst h8; clear h9)
    go_ret
    exact ⟨ret_bool (unhide HN).symm, unhide HW⟩
  skip
  have HN : Hid (shipB x y vx vy so dr = true) := by show _ = _; unfold shipB; rw [h1, h2, h3, h4, hv, h6, h7]; first | rfl | simp
  unfold vShip
  go_enter Try.func8, Try.ntmps8
  go_wp2_with (go_at_call 24; refine (l1In_any _ _ _ _).mono ?_; rintro e w' ⟨rfl, h9⟩; have h8 := h9.symm; subst h8; clear h9)
  go_ret
  exact ⟨ret_bool (unhide HN).symm, unhide HW⟩

set_option maxHeartbeats 800000 in
theorem implWay_any (x y vx vy so dr : Int) (w : World) : Calls Try.prog 26 #[vShip x y vx vy so dr] w fun e w' => e = .returned (vV vx vy) ∧ Below w.heap.size w w' := by
  unfold vShip
  go_enter Try.func26, Try.ntmps26
  go_wp2
  refine bodyPost_ret (v := vV vx vy) (by simp [results, Try.results26, go_sem]) rfl ⟨rfl, ?_⟩
  exact ((Below.refl _ _).alloc (Nat.le_refl _) _).alloc (by simp) _

set_option maxHeartbeats 800000 in
theorem implPlace_any (x y vx vy so dr : Int) (w : World) : Calls Try.prog 39 #[vShip x y vx vy so dr] w fun e w' => e = .returned (vV x y) ∧ Below w.heap.size w w' := by
  unfold vShip
  go_enter Try.func39, Try.ntmps39
  go_wp2
  refine bodyPost_ret (v := vV x y) (by simp [results, Try.results39, go_sem]) rfl ⟨rfl, ?_⟩
  exact ((Below.refl _ _).alloc (Nat.le_refl _) _).alloc (by simp) _

set_option maxHeartbeats 3200000 in
theorem implShipOk_any (x y vx vy so dr : Int) (w : World) :
    Calls Try.prog 9 #[vShip x y vx vy so dr] w fun e w' => e = .returned (.bool (shipB x y vx vy so dr)) ∧ Below w.heap.size w w' := by
  have HW := hide (Below.alloc1 w (.cells #[.int .i64 x, .int .i64 y, .int .i64 vx, .int .i64 vy, .int .i64 so, .int .i64 dr] 25))
  have HO := hide (ownV_alloc w #[.int .i64 x, .int .i64 y, .int .i64 vx, .int .i64 vy, .int .i64 so, .int .i64 dr] 25)
  have hEq := eql_vec vx vy 0 0
  have hGd := fun x y w => run_eqGuard_agg (P := Try.prog) w .eql 54 x y #[.int .i64 vx, .int .i64 vy] #[.int .i64 0, .int .i64 0] Try.eqgVec
  cases h1 : inB x (-100000) 100000
  · skip
    have HN : Hid (shipB x y vx vy so dr = false) := by show _ = _; unfold shipB; rw [h1]; first | rfl | simp
    unfold vShip
    go_enter Try.func9, Try.ntmps9
    go_wp2_with (go_at_call 25; refine (within_any _ _ _ _).mono ?_; rintro e w' ⟨rfl, h9⟩; have h8 := h9.symm; subst h8; clear h9)
    go_ret
    exact ⟨ret_bool (unhide HN).symm, unhide HW⟩
  cases h2 : inB y (-100000) 100000
  · skip
    have HN : Hid (shipB x y vx vy so dr = false) := by show _ = _; unfold shipB; rw [h1, h2]; first | rfl | simp
    unfold vShip
    go_enter Try.func9, Try.ntmps9
    go_wp2_with (go_at_call 25; refine (within_any _ _ _ _).mono ?_; rintro e w' ⟨rfl, h9⟩; have h8 := h9.symm; subst h8; clear h9)
    go_ret
    exact ⟨ret_bool (unhide HN).symm, unhide HW⟩
  cases h3 : inB vx (-1000) 1000
  · skip
    have HN : Hid (shipB x y vx vy so dr = false) := by show _ = _; unfold shipB; rw [h1, h2, h3]; first | rfl | simp
    unfold vShip
    go_enter Try.func9, Try.ntmps9
    go_wp2_with (go_at_call 25; refine (within_any _ _ _ _).mono ?_; rintro e w' ⟨rfl, h9⟩; have h8 := h9.symm; subst h8; clear h9)
    go_ret
    exact ⟨ret_bool (unhide HN).symm, unhide HW⟩
  cases h4 : inB vy (-1000) 1000
  · skip
    have HN : Hid (shipB x y vx vy so dr = false) := by show _ = _; unfold shipB; rw [h1, h2, h3, h4]; first | rfl | simp
    unfold vShip
    go_enter Try.func9, Try.ntmps9
    go_wp2_with (go_at_call 25; refine (within_any _ _ _ _).mono ?_; rintro e w' ⟨rfl, h9⟩; have h8 := h9.symm; subst h8; clear h9)
    go_ret
    exact ⟨ret_bool (unhide HN).symm, unhide HW⟩
  cases h5 : (vx != 0)
  · cases h55 : (vy != 0)
    · have g1 : (vx == 0) = true := by simpa using h5
      have g2 : (vy == 0) = true := by simpa using h55
      have HN : Hid (shipB x y vx vy so dr = false) := by show _ = _; unfold shipB; rw [h1, h2, h3, h4, h5, h55]; first | rfl | simp
      unfold vShip
      go_enter Try.func9, Try.ntmps9
      go_wp2_with (first | (go_at_call 25; refine (within_any _ _ _ _).mono ?_; rintro e w' ⟨rfl, h9⟩; have h8 := h9.symm; subst h8; clear h9) | (go_at_call 26; refine (implWay_any x y vx vy so dr _).mono ?_; rintro e w1 ⟨rfl, hb⟩; have ho := OwnV.step (unhide HO) hb; have c4 := OwnV.cell ho (i := 4) rfl; have c5 := OwnV.cell ho (i := 5) rfl; clear ho; have HB := hide hb; clear hb))
      go_ret
      exact ⟨ret_bool (unhide HN).symm, Below.step (unhide HW) (unhide HB)⟩
    have hv : (vx != 0 || vy != 0) = true := by rw [h5, h55]; rfl
    have g1 : (vx == 0) = true := by simpa using h5
    have g2 : (vy == 0) = false := by simpa using h55
    cases h6 : inB so 1 5
    · skip
      have HN : Hid (shipB x y vx vy so dr = false) := by show _ = _; unfold shipB; rw [h1, h2, h3, h4, hv, h6]; first | rfl | simp
      unfold vShip
      go_enter Try.func9, Try.ntmps9
      go_wp2_with (first | (go_at_call 25; refine (within_any _ _ _ _).mono ?_; rintro e w' ⟨rfl, h9⟩; have h8 := h9.symm; subst h8; clear h9) | (go_at_call 26; refine (implWay_any x y vx vy so dr _).mono ?_; rintro e w1 ⟨rfl, hb⟩; have ho := OwnV.step (unhide HO) hb; have c4 := OwnV.cell ho (i := 4) rfl; have c5 := OwnV.cell ho (i := 5) rfl; clear ho; have HB := hide hb; clear hb))
      go_ret
      exact ⟨ret_bool (unhide HN).symm, Below.step (unhide HW) (unhide HB)⟩
    cases h7 : inB dr 0 1000
    · skip
      have HN : Hid (shipB x y vx vy so dr = false) := by show _ = _; unfold shipB; rw [h1, h2, h3, h4, hv, h6, h7]; first | rfl | simp
      unfold vShip
      go_enter Try.func9, Try.ntmps9
      go_wp2_with (first | (go_at_call 25; refine (within_any _ _ _ _).mono ?_; rintro e w' ⟨rfl, h9⟩; have h8 := h9.symm; subst h8; clear h9) | (go_at_call 26; refine (implWay_any x y vx vy so dr _).mono ?_; rintro e w1 ⟨rfl, hb⟩; have ho := OwnV.step (unhide HO) hb; have c4 := OwnV.cell ho (i := 4) rfl; have c5 := OwnV.cell ho (i := 5) rfl; clear ho; have HB := hide hb; clear hb))
      go_ret
      exact ⟨ret_bool (unhide HN).symm, Below.step (unhide HW) (unhide HB)⟩
    skip
    have HN : Hid (shipB x y vx vy so dr = true) := by show _ = _; unfold shipB; rw [h1, h2, h3, h4, hv, h6, h7]; first | rfl | simp
    unfold vShip
    go_enter Try.func9, Try.ntmps9
    go_wp2_with (first | (go_at_call 25; refine (within_any _ _ _ _).mono ?_; rintro e w' ⟨rfl, h9⟩; have h8 := h9.symm; subst h8; clear h9) | (go_at_call 26; refine (implWay_any x y vx vy so dr _).mono ?_; rintro e w1 ⟨rfl, hb⟩; have ho := OwnV.step (unhide HO) hb; have c4 := OwnV.cell ho (i := 4) rfl; have c5 := OwnV.cell ho (i := 5) rfl; clear ho; have HB := hide hb; clear hb))
    go_ret
    exact ⟨ret_bool (unhide HN).symm, Below.step (unhide HW) (unhide HB)⟩
  have hv : (vx != 0 || vy != 0) = true := by rw [h5]; rfl
  have g1 : (vx == 0) = false := by simpa using h5
  cases h6 : inB so 1 5
  · skip
    have HN : Hid (shipB x y vx vy so dr = false) := by show _ = _; unfold shipB; rw [h1, h2, h3, h4, hv, h6]; first | rfl | simp
    unfold vShip
    go_enter Try.func9, Try.ntmps9
    go_wp2_with (first | (go_at_call 25; refine (within_any _ _ _ _).mono ?_; rintro e w' ⟨rfl, h9⟩; have h8 := h9.symm; subst h8; clear h9) | (go_at_call 26; refine (implWay_any x y vx vy so dr _).mono ?_; rintro e w1 ⟨rfl, hb⟩; have ho := OwnV.step (unhide HO) hb; have c4 := OwnV.cell ho (i := 4) rfl; have c5 := OwnV.cell ho (i := 5) rfl; clear ho; have HB := hide hb; clear hb))
    go_ret
    exact ⟨ret_bool (unhide HN).symm, Below.step (unhide HW) (unhide HB)⟩
  cases h7 : inB dr 0 1000
  · skip
    have HN : Hid (shipB x y vx vy so dr = false) := by show _ = _; unfold shipB; rw [h1, h2, h3, h4, hv, h6, h7]; first | rfl | simp
    unfold vShip
    go_enter Try.func9, Try.ntmps9
    go_wp2_with (first | (go_at_call 25; refine (within_any _ _ _ _).mono ?_; rintro e w' ⟨rfl, h9⟩; have h8 := h9.symm; subst h8; clear h9) | (go_at_call 26; refine (implWay_any x y vx vy so dr _).mono ?_; rintro e w1 ⟨rfl, hb⟩; have ho := OwnV.step (unhide HO) hb; have c4 := OwnV.cell ho (i := 4) rfl; have c5 := OwnV.cell ho (i := 5) rfl; clear ho; have HB := hide hb; clear hb))
    go_ret
    exact ⟨ret_bool (unhide HN).symm, Below.step (unhide HW) (unhide HB)⟩
  skip
  have HN : Hid (shipB x y vx vy so dr = true) := by show _ = _; unfold shipB; rw [h1, h2, h3, h4, hv, h6, h7]; first | rfl | simp
  unfold vShip
  go_enter Try.func9, Try.ntmps9
  go_wp2_with (first | (go_at_call 25; refine (within_any _ _ _ _).mono ?_; rintro e w' ⟨rfl, h9⟩; have h8 := h9.symm; subst h8; clear h9) | (go_at_call 26; refine (implWay_any x y vx vy so dr _).mono ?_; rintro e w1 ⟨rfl, hb⟩; have ho := OwnV.step (unhide HO) hb; have c4 := OwnV.cell ho (i := 4) rfl; have c5 := OwnV.cell ho (i := 5) rfl; clear ho; have HB := hide hb; clear hb))
  go_ret
  exact ⟨ret_bool (unhide HN).symm, Below.step (unhide HW) (unhide HB)⟩

end Go.Proofs.Ytcljgaofpeaplaa

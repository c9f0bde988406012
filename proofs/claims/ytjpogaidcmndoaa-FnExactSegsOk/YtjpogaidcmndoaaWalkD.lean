/- When a hull is right (hullOk), and the contracts of the program's own helpers within, halvesOk, station and of HullOk, and of the specification's l1In and HullOk: both tell hullOk. -/
import Derived.Test.YtjpogaidcmndoaaWalkC
namespace Go.Proofs.Ytjpogaidcmndoaa
open Go.RowKit

def inB (x a b : Int) : Bool := decide (a ≤ x) && decide (x ≤ b)

theorem inB_true {x a b : Int} (h : inB x a b = true) : a ≤ x ∧ x ≤ b := by simpa [inB] using h
theorem inB_mk {x a b : Int} (h : a ≤ x) (h' : x ≤ b) : inB x a b = true := by simp [inB, h, h']
theorem inB_not {x a b : Int} (h : x < a ∨ b < x) : inB x a b = false := by simp [inB]; omega

def rowOk (n : Nat) (r : List Int) : Bool := (r.length == n) && inB r.length 2 10 && r.all (fun x => inB x 0 50)

def hullOk (step rise : Int) (R : List (List Int)) : Bool := inB step 1 100 && inB rise 1 20 && inB R.length 2 12 && R.all (rowOk (R.getD 0 []).length)

theorem rowOk_len {n : Nat} {r : List Int} (h : r.length ≠ n) : rowOk n r = false := by simp [rowOk, h]
theorem rowOk_in {n : Nat} {r : List Int} (h : inB r.length 2 10 = false) : rowOk n r = false := by simp [rowOk, h]
theorem rowOk_all {n : Nat} {r : List Int} (h : (r.all fun x => inB x 0 50) = false) : rowOk n r = false := by unfold rowOk; rw [h]; simp
theorem rowOk_mk {n : Nat} {r : List Int} (h1 : r.length = n) (h2 : inB n 2 10 = true) (h3 : (r.all fun x => inB x 0 50) = true) : rowOk n r = true := by
  unfold rowOk; rw [h3, h1, h2]; simp

theorem ret_bool {a b : Bool} (h : a = b) : Ending.returned (.bool a) = .returned (.bool b) := by rw [h]

set_option maxHeartbeats 400000 in
theorem l1In_any (x a b : Int) (w : World) : Calls Try.prog 42 #[.int .i64 x, .int .i64 a, .int .i64 b] w fun e w' => e = .returned (.bool (inB x a b)) ∧ w' = w := by
  by_cases h1 : a ≤ x
  · by_cases h2 : x ≤ b
    · go_enter Try.func42, Try.ntmps42
      go_wp2
      go_ret
      exact ⟨ret_bool (by simp [inB, h1, h2]), rfl⟩
    · go_enter Try.func42, Try.ntmps42
      go_wp2
      go_ret
      exact ⟨ret_bool (by rw [inB_not (by omega)]), rfl⟩
  · have hd : decide (a ≤ x) = false := by simpa using h1
    go_enter Try.func42, Try.ntmps42
    go_wp2
    go_ret
    exact ⟨ret_bool (by rw [inB_not (by omega)]), rfl⟩

set_option maxHeartbeats 400000 in
theorem within_any (x a b : Int) (w : World) : Calls Try.prog 50 #[.int .i64 x, .int .i64 a, .int .i64 b] w fun e w' => e = .returned (.bool (inB x a b)) ∧ w' = w := by
  by_cases h1 : a ≤ x
  · by_cases h2 : x ≤ b
    · go_enter Try.func50, Try.ntmps50
      go_wp2
      go_ret
      exact ⟨ret_bool (by simp [inB, h1, h2]), rfl⟩
    · go_enter Try.func50, Try.ntmps50
      go_wp2
      go_ret
      exact ⟨ret_bool (by rw [inB_not (by omega)]), rfl⟩
  · have hd : decide (a ≤ x) = false := by simpa using h1
    go_enter Try.func50, Try.ntmps50
    go_wp2
    go_ret
    exact ⟨ret_bool (by rw [inB_not (by omega)]), rfl⟩

theorem hullOk_row {step rise : Int} {R : List (List Int)} {k : Nat} (hk : k < R.length) (h : rowOk (R.getD 0 []).length (R.getD k []) = false) : hullOk step rise R = false := by
  unfold hullOk
  rw [all_false hk h]
  simp

end Go.Proofs.Ytjpogaidcmndoaa

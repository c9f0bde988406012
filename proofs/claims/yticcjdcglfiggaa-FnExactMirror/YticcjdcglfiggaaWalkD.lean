/- When a hull is right (hullOk), and the contracts of the program's own helpers within, halvesOk, station and of HullOk, and of the specification's l1In and HullOk: both tell hullOk. -/
import Derived.Test.YticcjdcglfiggaaWalkC
namespace Go.Proofs.Yticcjdcglfiggaa
open Go.RowKit

def inB (x a b : Int) : Bool := decide (a ≤ x) && decide (x ≤ b)

theorem inB_true {x a b : Int} (h : inB x a b = true) : a ≤ x ∧ x ≤ b := by simpa [inB] using h
theorem inB_mk {x a b : Int} (h : a ≤ x) (h' : x ≤ b) : inB x a b = true := by simp [inB, h, h']
theorem inB_not {x a b : Int} (h : x < a ∨ b < x) : inB x a b = false := by simp [inB]; omega

def rowOk (n : Nat) (r : List Int) : Bool := (r.length == n) && inB r.length 2 10 && r.all (fun x => inB x 0 50)

def hullOk (step rise : Int) (R : List (List Int)) : Bool := inB step 1 100 && inB rise 1 20 && inB R.length 2 12 && R.all (rowOk (R.getD 0 []).length)

theorem rowOk_len {n : Nat} {r : List Int} (h : r.length ≠ n) : rowOk n r = false := by simp [rowOk, h]
theorem rowOk_in {n : Nat} {r : List Int} (h : inB r.length 2 10 = false) : rowOk n r = false := by simp [rowOk, h]
theorem rowOk_all {n : Nat} {r : List Int} (h : (r.all fun x => inB x 0 50) = false) : rowOk n r = false := by unfold rowOk; rw [h]; simp
theorem rowOk_mk {n : Nat} {r : List Int} (h1 : r.length = n) (h2 : inB n 2 10 = true) (h3 : (r.all fun x => inB x 0 50) = true) : rowOk n r = true := by
  unfold rowOk; rw [h3, h1, h2]; simp

theorem ret_bool {a b : Bool} (h : a = b) : Ending.returned (.bool a) = .returned (.bool b) := by rw [h]

set_option maxHeartbeats 400000 in
theorem l1In_any (x a b : Int) (w : World) : Calls Try.prog 77 #[.int .i64 x, .int .i64 a, .int .i64 b] w fun e w' => e = .returned (.bool (inB x a b)) ∧ w' = w := by
  by_cases h1 : a ≤ x
  · by_cases h2 : x ≤ b
    · go_enter Try.func77, Try.ntmps77
      go_wp2
      go_ret
      exact ⟨ret_bool (by simp [inB, h1, h2]), rfl⟩
    · go_enter Try.func77, Try.ntmps77
      go_wp2
      go_ret
      exact ⟨ret_bool (by rw [inB_not (by omega)]), rfl⟩
  · have hd : decide (a ≤ x) = false := by simpa using h1
    go_enter Try.func77, Try.ntmps77
    go_wp2
    go_ret
    exact ⟨ret_bool (by rw [inB_not (by omega)]), rfl⟩

set_option maxHeartbeats 400000 in
theorem within_any (x a b : Int) (w : World) : Calls Try.prog 53 #[.int .i64 x, .int .i64 a, .int .i64 b] w fun e w' => e = .returned (.bool (inB x a b)) ∧ w' = w := by
  by_cases h1 : a ≤ x
  · by_cases h2 : x ≤ b
    · go_enter Try.func53, Try.ntmps53
      go_wp2
      go_ret
      exact ⟨ret_bool (by simp [inB, h1, h2]), rfl⟩
    · go_enter Try.func53, Try.ntmps53
      go_wp2
      go_ret
      exact ⟨ret_bool (by rw [inB_not (by omega)]), rfl⟩
  · have hd : decide (a ≤ x) = false := by simpa using h1
    go_enter Try.func53, Try.ntmps53
    go_wp2
    go_ret
    exact ⟨ret_bool (by rw [inB_not (by omega)]), rfl⟩

set_option maxHeartbeats 400000 in
theorem halvesOk_any (v : Value) (xs : List Int) (w : World) (h : IntsIn w v xs) :
    Calls Try.prog 54 #[v] w fun e w' => e = .returned (.bool (xs.all fun x => inB x 0 50)) ∧ w = w' := by
  obtain ⟨ao, cap, rfl, hl, hm, hc⟩ := h
  unfold maxLen at hm
  have HC := hide hc
  clear hc
  go_enter Try.func54, Try.ntmps54
  go_wp2
  go_loopg [7] xs.length (fun g i wr => w = wr ∧ ∃ k : Nat, k ≤ xs.length ∧ g = xs.length - k ∧ i = .int .i64 k ∧ Hid (∀ r, r < k → inB (xs.getD r 0) 0 50 = true))
  case atStart => exact ⟨rfl, 0, Nat.zero_le _, rfl, rfl, fun r hr => by omega⟩
  case round =>
    obtain ⟨rfl, k, hk, rfl, rfl, HD⟩ := hrel
    by_cases hkn : k < xs.length
    · obtain ⟨b, o, rfl, hcell⟩ := unhide HC k hkn
      cases hin : inB (xs.getD k 0) 0 50 with
      | true =>
        have HD' : Hid (∀ r, r < k + 1 → inB (xs.getD r 0) 0 50 = true) := fun r hr => by
          by_cases e : r = k
          · subst e; exact hin
          · exact HD.out r (by omega)
        clear HD
        generalize xs.getD k 0 = x at *
        go_wp2_with (go_at_call 53; refine (within_any _ _ _ _).mono ?_; rintro e w' ⟨rfl, rfl⟩)
        go_roundg (xs.length - (k + 1))
        case measure => omega
        case rel => exact ⟨rfl, k + 1, by omega, rfl, by go_num, HD'⟩
      | false =>
        have HF := hide (all_false (p := fun x => inB x 0 50) hkn hin)
        generalize xs.getD k 0 = x at *
        go_wp2_with (go_at_call 53; refine (within_any _ _ _ _).mono ?_; rintro e w' ⟨rfl, rfl⟩)
        go_ret
        exact ⟨ret_bool (unhide HF).symm, rfl⟩
    · have HF := hide (all_true (p := fun x => inB x 0 50) (xs := xs) (fun r hr => HD.out r (by omega)))
      go_wp2
      go_ret
      exact ⟨ret_bool (unhide HF).symm, rfl⟩

set_option maxHeartbeats 400000 in
theorem station_any (step rise : Int) (v : Value) (R : List (List Int)) (s : Int) (n : Nat) (w : World) (h : RowsIn w v R) (e : s = n) (hn : n < R.length) :
    Calls Try.prog 52 #[hullV step rise v, .int .i64 s] w fun e w' => ∃ ar m, e = .returned (.slice ar m m) ∧ IntsIn w (.slice ar m m) (R.getD n []) ∧ Below w.heap.size w w' := by
  subst e
  obtain ⟨ao, cap, rfl, hl, hm, hc⟩ := h
  unfold maxLen at hm
  obtain ⟨b, o, ar, m, cr, rfl, hcell, hrow, EM, hm0⟩ := rowAt hc hn
  have hcell1 : ∀ o', (w.alloc o').cell? ⟨b, o + n, none⟩ = some (.slice ar m cr) := fun o' => (((Below.refl _ _).alloc (Nat.le_refl _) o').cell (lt_of_cell hcell)).trans hcell
  have HR := hide hrow
  have hcr : m ≤ cr := hrow.len.2.1
  clear hc hrow hcell
  unfold hullV
  go_enter Try.func52, Try.ntmps52
  go_wp2
  go_ret
  exact ⟨ar, m, rfl, (unhide HR).cut, (Below.refl _ _).alloc (Nat.le_refl _) _⟩

theorem hullOk_row {step rise : Int} {R : List (List Int)} {k : Nat} (hk : k < R.length) (h : rowOk (R.getD 0 []).length (R.getD k []) = false) : hullOk step rise R = false := by
  unfold hullOk
  rw [all_false hk h]
  simp

set_option maxHeartbeats 800000 in
theorem implHullOk_any (step rise : Int) (v : Value) (R : List (List Int)) (w : World) (h : RowsIn w v R) :
    Calls Try.prog 12 #[hullV step rise v] w fun e w' => e = .returned (.bool (hullOk step rise R)) ∧ Below w.heap.size w w' := by
  have HV := hide h
  obtain ⟨ao, cap, rfl, hl, hm, hc⟩ := h
  unfold maxLen at hm
  have HC := hide hc
  clear hc
  unfold hullV
  cases h1 : inB step 1 100 with
  | false =>
    have HF : Hid (hullOk step rise R = false) := by show _ = _; simp [hullOk, h1]
    go_enter Try.func12, Try.ntmps12
    go_wp2_with (go_at_call 53; refine (within_any _ _ _ _).mono ?_; rintro e w' ⟨rfl, rfl⟩)
    go_ret
    exact ⟨ret_bool (unhide HF).symm, (Below.refl _ _).alloc (Nat.le_refl _) _⟩
  | true =>
  cases h2 : inB rise 1 20 with
  | false =>
    have HF : Hid (hullOk step rise R = false) := by show _ = _; simp [hullOk, h2]
    go_enter Try.func12, Try.ntmps12
    go_wp2_with (go_at_call 53; refine (within_any _ _ _ _).mono ?_; rintro e w' ⟨rfl, rfl⟩)
    go_ret
    exact ⟨ret_bool (unhide HF).symm, (Below.refl _ _).alloc (Nat.le_refl _) _⟩
  | true =>
  cases h3 : inB R.length 2 12 with
  | false =>
    have HF : Hid (hullOk step rise R = false) := by show _ = _; simp [hullOk, h3]
    go_enter Try.func12, Try.ntmps12
    go_wp2_with (go_at_call 53; refine (within_any _ _ _ _).mono ?_; rintro e w' ⟨rfl, rfl⟩)
    go_ret
    exact ⟨ret_bool (unhide HF).symm, (Below.refl _ _).alloc (Nat.le_refl _) _⟩
  | true =>
  have h3' := inB_true h3
  have hpos : 0 < R.length := by omega
  obtain ⟨b, o, ar, m, cr, rfl, hcell, hrow, EM, hm0⟩ := rowAt (unhide HC) hpos
  simp only [Nat.add_zero] at hcell
  have hcell1 : ∀ o', (w.alloc o').cell? ⟨b, o, none⟩ = some (.slice ar m cr) := fun o' => (((Below.refl _ _).alloc (Nat.le_refl _) o').cell (lt_of_cell hcell)).trans hcell
  clear hrow hcell
  cases h4 : inB m 2 10 with
  | false =>
    have HF : Hid (hullOk step rise R = false) := by
      exact hullOk_row hpos (rowOk_in (by rw [unhide EM]; exact h4))
    go_enter Try.func12, Try.ntmps12
    go_wp2_with (go_at_call 53; refine (within_any _ _ _ _).mono ?_; rintro e w' ⟨rfl, rfl⟩)
    go_ret
    exact ⟨ret_bool (unhide HF).symm, (Below.refl _ _).alloc (Nat.le_refl _) _⟩
  | true =>
  go_enter Try.func12, Try.ntmps12
  go_wp2_with (go_at_call 53; refine (within_any _ _ _ _).mono ?_; rintro e w' ⟨rfl, rfl⟩)
  have BX := hide (Below.refl (w.heap.size + 1) (w.alloc (.cells #[.int .i64 step, .int .i64 rise, .slice (some ⟨b, o, none⟩) R.length cap] 26)))
  go_loopg [31] R.length (fun g i wr => ∃ k : Nat, k ≤ R.length ∧ g = R.length - k ∧ i = .int .i64 k ∧ Below (w.heap.size + 1) (w.alloc (.cells #[.int .i64 step, .int .i64 rise, .slice (some ⟨b, o, none⟩) R.length cap] 26)) wr ∧ Hid (∀ r, r < k → rowOk m (R.getD r []) = true))
  case atStart => exact ⟨0, Nat.zero_le _, rfl, rfl, unhide BX, fun r hr => by omega⟩
  case round =>
    obtain ⟨k, hk, rfl, rfl, hB, HD⟩ := hrel
    have hwr : Below w.heap.size w wr := ((Below.refl _ _).alloc (Nat.le_refl _) _).trans (hB.mono (by omega))
    clear hcell1 BX
    by_cases hkn : k < R.length
    · obtain ⟨b', o', ar', m', cr', eb, hcell, hrow, EM', hm0'⟩ := rowAt (unhide HC) hkn
      simp only [Option.some.injEq, Addr.mk.injEq, and_true] at eb
      obtain ⟨rfl, rfl⟩ := eb
      have c0 : wr.cell? ⟨w.heap.size, 0, none⟩ = some (.int .i64 step) := by rw [hB.cell (by simp)]; simp
      have c1 : wr.cell? ⟨w.heap.size, 1, none⟩ = some (.int .i64 rise) := by rw [hB.cell (by simp)]; simp
      have c2 : wr.cell? ⟨w.heap.size, 2, none⟩ = some (.slice (some ⟨b, o, none⟩) R.length cap) := by rw [hB.cell (by simp)]; simp
      have c3 : wr.cell? ⟨b, o + k, none⟩ = some (.slice ar' m' cr') := (hwr.cell (lt_of_cell hcell)).trans hcell
      have hsz := hB.size
      simp only [World.size_alloc] at hsz
      have HB := hide hB
      have HW := hide hwr
      clear hB hwr hcell hrow
      by_cases e : m' = m
      · subst e
        have HS := hide (station_any step rise _ R (k : Int) k wr ((unhide HV).below (unhide HW)) rfl hkn)
        cases hall : (R.getD k []).all fun x => inB x 0 50 with
        | true =>
          have HD' : Hid (∀ r, r < k + 1 → rowOk m' (R.getD r []) = true) := fun r hr => by
            by_cases e : r = k
            · subst e; exact rowOk_mk (unhide EM') h4 hall
            · exact HD.out r (by omega)
          have HA := hide hall
          clear hall HD
          go_wp2_with fail
          refine (unhide HS).mono ?_
          rintro e w1 ⟨ar1, m1, rfl, hi, hb1⟩
          have HI := hide (hi.below hb1)
          have HB1 := hide hb1
          clear hi hb1
          go_wp2_with fail
          refine (halvesOk_any _ _ _ (unhide HI)).mono ?_
          rintro e w2 ⟨rfl, rfl⟩
          rw [unhide HA]
          go_wp2
          go_roundg (R.length - (k + 1))
          case measure => omega
          case rel => exact ⟨k + 1, by omega, rfl, by go_num, (unhide HB).trans ((unhide HB1).mono (by omega)), HD'⟩
        | false =>
          have HF := hide (hullOk_row (step := step) (rise := rise) hkn (rowOk_all hall))
          have HA := hide hall
          clear hall HD
          go_wp2_with fail
          refine (unhide HS).mono ?_
          rintro e w1 ⟨ar1, m1, rfl, hi, hb1⟩
          have HI := hide (hi.below hb1)
          have HB1 := hide hb1
          clear hi hb1
          go_wp2_with fail
          refine (halvesOk_any _ _ _ (unhide HI)).mono ?_
          rintro e w2 ⟨rfl, rfl⟩
          rw [unhide HA]
          go_wp2
          go_ret
          exact ⟨ret_bool (unhide HF).symm, Below.step (unhide HW) (unhide HB1)⟩
      · have hne : ((m' : Int) != (m : Int)) = true := by rw [bne_iff_ne]; omega
        have HF := hide (hullOk_row (step := step) (rise := rise) hkn (rowOk_len (by rw [unhide EM, unhide EM']; exact e)))
        go_wp2
        go_ret
        exact ⟨ret_bool (unhide HF).symm, unhide HW⟩
    · have HF : Hid (hullOk step rise R = true) := by
        show _ = _
        unfold hullOk
        rw [h1, h2, h3, all_true (d := []) (fun r hr => by rw [unhide EM]; exact HD.out r (by omega))]
        rfl
      have HW := hide hwr
      clear hwr hB
      go_wp2
      go_ret
      exact ⟨ret_bool (unhide HF).symm, unhide HW⟩

end Go.Proofs.Yticcjdcglfiggaa

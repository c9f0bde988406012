/- When tanks are right, what their free surfaces sum to; contracts of the program's tanksOk and surfaces and of the specification's l2Tanks. -/
import Derived.Test.YticcjdcglfiggaaRTank
import Derived.Test.YticcjdcglfiggaaStB
namespace Go.Proofs.Yticcjdcglfiggaa
open Go.RowKit

def tankB (m : I2) : Bool := inB m.1 0 100 && inB m.2 0 50
def tanksB (L : List I2) : Bool := decide (L.length ≤ 10) && L.all tankB

theorem tanksB_long {L : List I2} (h : ¬ L.length ≤ 10) : tanksB L = false := by simp [tanksB, h]

set_option maxHeartbeats 400000 in
theorem tanksOk_any (v : Value) (L : List I2) (w : World) (h : R2 w v L) :
    Calls Try.prog 65 #[v] w fun e w' => e = .returned (.bool (tanksB L)) ∧ Below w.heap.size w w' := by
  obtain ⟨ao, cap, rfl, hl, hm, hc⟩ := h
  unfold maxLen at hm
  have HC := hide hc
  clear hc
  by_cases hlen : L.length ≤ 10
  case neg =>
    have HF := hide (tanksB_long hlen)
    go_enter Try.func65, Try.ntmps65
    go_wp2
    go_ret
    exact ⟨ret_bool (unhide HF).symm, Below.refl _ _⟩
  go_enter Try.func65, Try.ntmps65
  go_wp2
  go_loopg [10] L.length (fun g i wr => Below w.heap.size w wr ∧ ∃ k : Nat, k ≤ L.length ∧ g = L.length - k ∧ i = .int .i64 k ∧ Hid (∀ r, r < k → tankB (L.getD r default) = true))
  case atStart => exact ⟨Below.refl _ _, 0, Nat.zero_le _, rfl, rfl, fun r hr => by omega⟩
  case round =>
    obtain ⟨hW, k, hk, rfl, rfl, HD⟩ := hrel
    by_cases hkn : k < L.length
    · obtain ⟨b, o, x, y, rfl, hc0, hc1, EX⟩ := rec2At (unhide HC) hkn
      have g0 := wcell3 hc0 hW
      have g1 := wcell3 hc1 hW
      have HW := hide (Below.step hW (Below.alloc1 wr (.cells #[.int .i64 x, .int .i64 y] 111)))
      clear hc0 hc1 hW
      have HF : Hid (tankB (L.getD k default) = (inB x 0 100 && inB y 0 50)) := by show _ = _; rw [unhide EX]; rfl
      clear EX
      by_cases hall : tankB (L.getD k default) = true
      · have HD' : Hid (∀ r, r < k + 1 → tankB (L.getD r default) = true) := fun r hr => by
          by_cases e : r = k
          · subst e; exact hall
          · exact HD.out r (by omega)
        rw [hall] at HF
        have h3 := unhide HF
        symm at h3
        simp only [Bool.and_eq_true] at h3
        obtain ⟨h1, h2⟩ := h3
        clear HD HF hall
        go_wp2_with (go_at_call 53; refine (within_any _ _ _ _).mono ?_; rintro e w' ⟨rfl, rfl⟩)
        go_roundg (L.length - (k + 1))
        case measure => omega
        case rel => exact ⟨unhide HW, k + 1, by omega, rfl, by go_num, HD'⟩
      · have HA : Hid (tanksB L = false) := by
          show _ = _
          rw [tanksB, all_false hkn (d := default) (by simpa using hall)]; simp
        rw [show tankB (L.getD k default) = false by simpa using hall] at HF
        clear HD hall
        cases h1 : inB x 0 100 <;> cases h2 : inB y 0 50
        all_goals rw [h1, h2] at HF
        case true.true => exact absurd (unhide HF) (by simp)
        all_goals
          clear HF
          go_wp2_with (go_at_call 53; refine (within_any _ _ _ _).mono ?_; rintro e w' ⟨rfl, rfl⟩)
          go_ret
          exact ⟨ret_bool (unhide HA).symm, unhide HW⟩
    · have HF : Hid (tanksB L = true) := by
        show _ = _
        rw [tanksB, all_true (d := default) (fun r hr => HD.out r (by omega))]; simp [hlen]
      clear HD
      go_wp2
      go_ret
      exact ⟨ret_bool (unhide HF).symm, hW⟩

set_option maxHeartbeats 800000 in
theorem l2Tanks_any (v : Value) (L : List I2) (w : World) (h : R2 w v L) :
    Calls Try.prog 81 #[v] w fun e w' => e = .returned (.bool (tanksB L)) ∧ Below w.heap.size w w' := by
  obtain ⟨ao, cap, rfl, hl, hm, hc⟩ := h
  unfold maxLen at hm
  have HC := hide hc
  clear hc
  go_enter Try.func81, Try.ntmps81
  go_wp2
  go_loopg [3] L.length (fun g i wr => Below w.heap.size w wr ∧ ∃ k : Nat, k ≤ L.length ∧ g = L.length - k ∧ i = .int .i64 k ∧ Hid (∀ r, r < k → tankB (L.getD r default) = true))
  case atStart => exact ⟨Below.refl _ _, 0, Nat.zero_le _, rfl, rfl, fun r hr => by omega⟩
  case round =>
    obtain ⟨hW, k, hk, rfl, rfl, HD⟩ := hrel
    by_cases hkn : k < L.length
    · obtain ⟨b, o, x, y, rfl, hc0, hc1, EX⟩ := rec2At (unhide HC) hkn
      have g0 := wcell3 hc0 hW
      have g1 := wcell3 hc1 hW
      have HW := hide hW
      clear hc0 hc1 hW
      have HF : Hid (tankB (L.getD k default) = (inB x 0 100 && inB y 0 50)) := by show _ = _; rw [unhide EX]; rfl
      clear EX
      by_cases hall : tankB (L.getD k default) = true
      · have HD' : Hid (∀ r, r < k + 1 → tankB (L.getD r default) = true) := fun r hr => by
          by_cases e : r = k
          · subst e; exact hall
          · exact HD.out r (by omega)
        rw [hall] at HF
        have h3 := unhide HF
        symm at h3
        simp only [Bool.and_eq_true] at h3
        obtain ⟨h1, h2⟩ := h3
        clear HD HF hall
        go_wp2_with (go_at_call 77; refine (l1In_any _ _ _ _).mono ?_; rintro e w' ⟨rfl, rfl⟩)
        go_roundg (L.length - (k + 1))
        case measure => omega
        case rel => exact ⟨unhide HW, k + 1, by omega, rfl, by go_num, HD'⟩
      · have HA : Hid (tanksB L = false) := by
          show _ = _
          rw [tanksB, all_false hkn (d := default) (by simpa using hall)]; simp
        rw [show tankB (L.getD k default) = false by simpa using hall] at HF
        clear HD hall
        cases h1 : inB x 0 100 <;> cases h2 : inB y 0 50
        all_goals rw [h1, h2] at HF
        case true.true => exact absurd (unhide HF) (by simp)
        all_goals
          clear HF
          go_wp2_with (go_at_call 77; refine (l1In_any _ _ _ _).mono ?_; rintro e w' ⟨rfl, rfl⟩)
          go_ret
          exact ⟨ret_bool (unhide HA).symm, unhide HW⟩
    · have HF : Hid (tanksB L = decide ((L.length : Int) ≤ 10)) := by
        show _ = _
        rw [tanksB, all_true (d := default) (fun r hr => HD.out r (by omega))]
        simp only [Bool.and_true, decide_eq_decide]
        omega
      clear HD
      go_wp2
      go_ret
      exact ⟨ret_bool (unhide HF).symm, hW⟩

theorem tanksB_at {L : List I2} (h : tanksB L = true) : L.length ≤ 10 ∧ ∀ i, i < L.length → tankB (L.getD i default) = true := by
  unfold tanksB at h
  simp only [Bool.and_eq_true, decide_eq_true_eq] at h
  exact ⟨h.1, fun i hi => all_at h.2 hi⟩

theorem tankB_true {x y : Int} (h : tankB (x, y) = true) : (0 ≤ x ∧ x ≤ 100) ∧ (0 ≤ y ∧ y ≤ 50) := by
  unfold tankB at h
  simp only [Bool.and_eq_true] at h
  exact ⟨inB_true h.1, inB_true h.2⟩

def surfF (T : List I2) (i : Nat) : Int := (T.getD i default).1 * (T.getD i default).2 * (T.getD i default).2 * (T.getD i default).2
def surf (T : List I2) : Int := sumTo (surfF T) T.length

theorem surf_term {x y : Int} (h : tankB (x, y) = true) : (0 ≤ x * y ∧ x * y ≤ 5000) ∧ (0 ≤ x * y * y ∧ x * y * y ≤ 250000) ∧ (0 ≤ x * y * y * y ∧ x * y * y * y ≤ 12500000) := by
  have hm := tankB_true h
  have h1 := mul_bd hm.1.1 hm.1.2 hm.2.1 hm.2.2
  have h2 := mul_bd h1.1 h1.2 hm.2.1 hm.2.2
  exact ⟨h1, h2, mul_bd h2.1 h2.2 hm.2.1 hm.2.2⟩

theorem surf_to {T : List I2} (h : tanksB T = true) {k : Nat} (hk : k ≤ T.length) : 0 ≤ sumTo (surfF T) k ∧ sumTo (surfF T) k ≤ k * 12500000 :=
  sumTo_bd (fun i hi => (surf_term ((tanksB_at h).2 i hi)).2.2) k hk

theorem surf_bd {T : List I2} (h : tanksB T = true) : 0 ≤ surf T ∧ surf T ≤ 125000000 := by
  have := surf_to h (Nat.le_refl _)
  have := (tanksB_at h).1
  unfold surf
  omega

set_option maxHeartbeats 400000 in
theorem surfaces_any (v : Value) (L : List I2) (w : World) (h : R2 w v L) (hok : tanksB L = true) :
    Calls Try.prog 96 #[v] w fun e w' => e = .returned (.int .i64 (surf L)) ∧ Below w.heap.size w w' := by
  obtain ⟨ao, cap, rfl, hl, hm, hc⟩ := h
  unfold maxLen at hm
  have HC := hide hc
  have HK := hide hok
  have hlen := (tanksB_at hok).1
  clear hc hok
  go_enter Try.func96, Try.ntmps96
  go_wp2
  go_loopg [3, 8] L.length (fun g sv i wr => Below w.heap.size w wr ∧ ∃ k : Nat, k ≤ L.length ∧ g = L.length - k ∧ i = .int .i64 k ∧ sv = .int .i64 (sumTo (surfF L) k))
  case atStart => exact ⟨Below.refl _ _, 0, Nat.zero_le _, rfl, rfl, rfl⟩
  case round =>
    obtain ⟨hW, k, hk, rfl, rfl, rfl⟩ := hrel
    by_cases hkn : k < L.length
    · obtain ⟨b, o, x, y, rfl, hc0, hc1, EX⟩ := rec2At (unhide HC) hkn
      have g0 := wcell3 hc0 hW
      have g1 := wcell3 hc1 hW
      have HW := hide hW
      have hs := surf_to (unhide HK) hk
      obtain ⟨⟨p1, p2⟩, ⟨p3, p4⟩, p5, p6⟩ := surf_term (x := x) (y := y) (by rw [← unhide EX]; exact (tanksB_at (unhide HK)).2 k hkn)
      have HN : Hid (sumTo (surfF L) (k + 1) = sumTo (surfF L) k + x * y * y * y) := by
        show _ = _
        simp only [sumTo, surfF, unhide EX]
      clear hc0 hc1 hW EX
      generalize sumTo (surfF L) k = A at *
      generalize h1 : x * y = xy at *
      generalize h2 : xy * y = xyy at *
      generalize h3 : xyy * y = xyyy at *
      go_wp2
      go_roundg (L.length - (k + 1))
      case measure => omega
      case rel => exact ⟨Below.step (unhide HW) (Below.alloc1 _ _), k + 1, by omega, rfl, by go_num, by rw [unhide HN]⟩
    · have hkk : k = L.length := by omega
      subst hkk
      go_wp2
      go_ret
      exact ⟨rfl, hW⟩

end Go.Proofs.Yticcjdcglfiggaa

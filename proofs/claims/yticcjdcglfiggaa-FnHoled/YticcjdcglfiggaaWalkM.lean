/- Twice the volume, and four times the moment along, as plain functions of the strips; the contracts of both Volume2 and both Along4. -/
import Derived.Test.YticcjdcglfiggaaWalkL
namespace Go.Proofs.Yticcjdcglfiggaa
open Go.RowKit

theorem strips_len (step rise : Int) (R : List (List Int)) (c : Int) : (strips step rise R c).length ≤ 11 := by
  unfold strips
  by_cases h : waterOk step rise R c = true
  · rw [if_pos h, range_len]
    unfold waterOk at h
    simp only [Bool.and_eq_true] at h
    have := (hullOk_right h.1).len2
    omega
  · rw [if_neg h]; simp

theorem strips_at {step rise : Int} {R : List (List Int)} {c : Int} {i : Nat} (hi : i < (strips step rise R c).length) : Right step rise R ∧ 0 ≤ (strips step rise R c).getD i 0 ∧ (strips step rise R c).getD i 0 ≤ 4000000 := by
  unfold strips at hi ⊢
  by_cases h : waterOk step rise R c = true
  · rw [if_pos h] at hi ⊢
    rw [range_len] at hi
    unfold waterOk at h
    simp only [Bool.and_eq_true] at h
    have hR := hullOk_right h.1
    have hc := inB_true h.2
    have e : ((List.range (R.length - 1)).map (strip2 step rise R c.toNat)).getD i 0 = strip2 step rise R c.toNat i := by simp [List.getD, hi]
    rw [e]
    exact ⟨hR, (strip2_bd hR (s := i) (c := c.toNat) (by omega) (by omega)).2⟩
  · rw [if_neg h] at hi; simp at hi

def sumL (xs : List Int) (k : Nat) : Int := sumTo (fun i => xs.getD i 0) k

theorem sumL_bd {step rise : Int} {R : List (List Int)} {c : Int} {k : Nat} (hk : k ≤ (strips step rise R c).length) : 0 ≤ sumL (strips step rise R c) k ∧ sumL (strips step rise R c) k ≤ 48000000 := by
  have h := sumTo_bd (f := fun i => (strips step rise R c).getD i 0) (B := 4000000) (n := (strips step rise R c).length) (fun i hi => (strips_at hi).2) k hk
  have := strips_len step rise R c
  unfold sumL
  omega

def volume (step rise : Int) (R : List (List Int)) (c : Int) : Int := sumL (strips step rise R c) (strips step rise R c).length

set_option maxHeartbeats 800000 in
theorem l1Sum_any (v : Value) (xs : List Int) (w : World) (h : IntsIn w v xs) (hx : ∀ i, i < xs.length → 0 ≤ xs.getD i 0 ∧ xs.getD i 0 ≤ 4000000) (hn : xs.length ≤ 11) :
    Calls Try.prog 60 #[v] w fun e w' => e = .returned (.int .i64 (sumL xs xs.length)) ∧ w = w' := by
  obtain ⟨ao, cap, rfl, hl, hm, hc⟩ := h
  unfold maxLen at hm
  have HC := hide hc
  have HX := hide hx
  clear hc hx
  go_enter Try.func60, Try.ntmps60
  go_wp2
  go_loopg [3, 4] xs.length (fun g sv i wr => w = wr ∧ ∃ k : Nat, k ≤ xs.length ∧ g = xs.length - k ∧ i = .int .i64 k ∧ sv = .int .i64 (sumL xs k))
  case atStart => exact ⟨rfl, 0, Nat.zero_le _, rfl, rfl, rfl⟩
  case round =>
    obtain ⟨rfl, k, hk, rfl, rfl, rfl⟩ := hrel
    by_cases hkn : k < xs.length
    · obtain ⟨b, o, rfl, hcell⟩ := unhide HC k hkn
      have hb := unhide HX k hkn
      have sb := sumTo_bd (f := fun i => xs.getD i 0) (unhide HX) k hk
      have ES : Hid (sumL xs (k + 1) = sumL xs k + xs.getD k 0) := rfl
      change 0 ≤ sumL xs k ∧ sumL xs k ≤ _ at sb
      generalize xs.getD k 0 = x at *
      generalize sumL xs k = S at *
      obtain ⟨sb1, sb2⟩ := sb
      obtain ⟨hb1, hb2⟩ := hb
      go_wp2
      go_roundg (xs.length - (k + 1))
      case measure => omega
      case rel => exact ⟨rfl, k + 1, by omega, rfl, by go_num, by rw [unhide ES]⟩
    · have hkk : k = xs.length := by omega
      subst hkk
      go_wp2
      go_ret
      exact ⟨rfl, rfl⟩

set_option maxHeartbeats 800000 in
theorem specVolume2_any (step rise : Int) (v : Value) (R : List (List Int)) (c : Int) (w : World) (h : RowsIn w v R) :
    Calls Try.prog 21 #[hullV step rise v, .int .i64 c] w fun e w' => e = .returned (.int .i64 (volume step rise R c)) ∧ Below w.heap.size w w' := by
  have HV := hide h
  obtain ⟨ao, cap, rfl, hl, hm, hc⟩ := h
  clear hc hl hm
  unfold hullV
  have HW0 := hide (Below.alloc1 w (.cells #[.int .i64 step, .int .i64 rise, .slice ao R.length cap] 26))
  go_enter Try.func21, Try.ntmps21
  go_wp2_with fail
  refine (specStrips2_any step rise _ R c _ ((unhide HV).below (unhide HW0))).mono ?_
  rintro e w1 ⟨ao1, n1, cap1, rfl, ho, hb⟩
  have HO := hide ho
  have HW1 := hide (Below.step (unhide HW0) hb)
  clear ho hb HW0
  go_wp2_with fail
  refine (l1Sum_any _ _ _ (unhide HO).intsIn (fun i hi => (strips_at hi).2) (strips_len _ _ _ _)).mono ?_
  rintro e w2 ⟨rfl, rfl⟩
  go_wp2
  go_ret
  exact ⟨rfl, unhide HW1⟩

set_option maxHeartbeats 800000 in
theorem implVolume2_any (step rise : Int) (v : Value) (R : List (List Int)) (c : Int) (w : World) (h : RowsIn w v R) :
    Calls Try.prog 14 #[hullV step rise v, .int .i64 c] w fun e w' => e = .returned (.int .i64 (volume step rise R c)) ∧ Below w.heap.size w w' := by
  have HV := hide h
  obtain ⟨ao, cap, rfl, hl, hm, hc⟩ := h
  clear hc hl hm
  unfold hullV
  have HW0 := hide (Below.alloc1 w (.cells #[.int .i64 step, .int .i64 rise, .slice ao R.length cap] 26))
  go_enter Try.func14, Try.ntmps14
  go_wp2_with fail
  refine (implStrips2_any step rise _ R c _ ((unhide HV).below (unhide HW0))).mono ?_
  rintro e w1 ⟨ao1, n1, cap1, rfl, ho, hb⟩
  have HI := hide ho.intsIn
  have HW1 := hide (Below.step (unhide HW0) hb)
  clear ho hb HW0
  obtain ⟨xs, exs⟩ : ∃ xs, xs = strips step rise R c := ⟨_, rfl⟩
  have EV : Hid (volume step rise R c = sumL xs xs.length) := by show _ = _; rw [exs]; rfl
  have HX : Hid (∀ i, i < xs.length → 0 ≤ xs.getD i 0 ∧ xs.getD i 0 ≤ 4000000) := by rw [exs]; exact fun i hi => (strips_at hi).2
  have hn : xs.length ≤ 11 := by rw [exs]; exact strips_len _ _ _ _
  rw [← exs] at HI
  clear exs
  obtain ⟨en, _, _⟩ := (unhide HI).len
  subst en
  go_wp2
  go_loopg [5, 12] xs.length (fun g sv i wr => w1 = wr ∧ ∃ k : Nat, k ≤ xs.length ∧ g = xs.length - k ∧ i = .int .i64 k ∧ sv = .int .i64 (sumL xs k))
  case atStart => exact ⟨rfl, 0, Nat.zero_le _, rfl, rfl, rfl⟩
  case round =>
    obtain ⟨rfl, k, hk, rfl, rfl, rfl⟩ := hrel
    by_cases hkn : k < xs.length
    · obtain ⟨b, o, rfl, hcell⟩ := intAt (unhide HI) hkn
      have hb := unhide HX k hkn
      have sb := sumTo_bd (f := fun i => xs.getD i 0) (unhide HX) k hk
      have ES : Hid (sumL xs (k + 1) = sumL xs k + xs.getD k 0) := rfl
      change 0 ≤ sumL xs k ∧ sumL xs k ≤ _ at sb
      generalize xs.getD k 0 = x at *
      generalize sumL xs k = S at *
      obtain ⟨sb1, sb2⟩ := sb
      obtain ⟨hb1, hb2⟩ := hb
      go_wp2
      go_roundg (xs.length - (k + 1))
      case measure => omega
      case rel => exact ⟨rfl, k + 1, by omega, rfl, by go_num, by rw [unhide ES]⟩
    · have hkk : k = xs.length := by omega
      subst hkk
      go_wp2
      go_ret
      exact ⟨ret_int (unhide EV).symm, unhide HW1⟩

end Go.Proofs.Yticcjdcglfiggaa

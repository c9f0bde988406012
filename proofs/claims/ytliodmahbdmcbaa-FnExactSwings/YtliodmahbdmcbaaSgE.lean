/- Both sides' Greatest. -/
import Derived.Test.YtliodmahbdmcbaaSgA
namespace Go.Proofs.Ytliodmahbdmcbaa
open Go.RowKit

def in64 (x : Int) : Prop := -9223372036854775808 ≤ x ∧ x ≤ 9223372036854775807

/-- Place and number that are greatest in size, of the first k. -/
def gSt (L : List Int) : Nat → Int × Int
  | 0 => (-1, 0)
  | k + 1 => if (gSt L k).1 < 0 ∨ (gSt L k).2.natAbs < (L.getD k 0).natAbs then ((k : Int), L.getD k 0) else gSt L k
def gAt (L : List Int) : Int := (gSt L L.length).1
def gOf (L : List Int) : Int := (gSt L L.length).2

theorem gSt_wf {L : List Int} (h : ∀ i, i < L.length → in64 (L.getD i 0)) : ∀ k, k ≤ L.length → in64 (gSt L k).2 ∧ -1 ≤ (gSt L k).1 ∧ (gSt L k).1 < k
  | 0, _ => by simp [gSt, in64]
  | k + 1, hk => by
    have ih := gSt_wf h k (by omega)
    unfold gSt
    split
    · exact ⟨h k (by omega), by omega, by omega⟩
    · exact ⟨ih.1, ih.2.1, by omega⟩

theorem size_any (x : Int) (w : World) (h : in64 x) : Calls Try.prog 44 #[.int .i64 x] w fun e w' => e = .returned (.int .u64 x.natAbs) ∧ w = w' := by
  obtain ⟨h1, h2⟩ := h
  by_cases hx : x < 0
  · have a1 : IntKind.u64.wrap x = x + 18446744073709551616 := by rw [IntKind.wrap_u64]; omega
    have a2 : IntKind.u64.wrap (-(x + 18446744073709551616)) = (x.natAbs : Int) := by rw [IntKind.wrap_u64]; omega
    go_enter Try.func44, Try.ntmps44
    go_wp2
    go_ret
    exact ⟨ret_int (by first | omega | (rw [a1, a2])), rfl⟩
  · have a1 : IntKind.u64.wrap x = x := by rw [IntKind.wrap_u64]; omega
    go_enter Try.func44, Try.ntmps44
    go_wp2
    go_ret
    exact ⟨ret_int (by omega), rfl⟩

theorem l3Bigger_any (a b : Int) (w : World) (ha : in64 a) (hb : in64 b) : Calls Try.prog 60 #[.int .i64 a, .int .i64 b] w fun e w' => e = .returned (.bool (decide (b.natAbs < a.natAbs))) ∧ w = w' := by
  obtain ⟨h1, h2⟩ := ha
  obtain ⟨h3, h4⟩ := hb
  by_cases hx : 0 < a <;> by_cases hy : 0 < b
  all_goals
    go_enter Try.func60, Try.ntmps60
    go_wp2
    go_ret
    exact ⟨ret_bool (by rw [decide_eq_decide]; omega), rfl⟩

set_option maxHeartbeats 800000 in
theorem implGreatest_any (v : Value) (L : List Int) (w : World) (h : IntsIn w v L) (hwf : ∀ i, i < L.length → in64 (L.getD i 0)) :
    Calls Try.prog 18 #[v] w fun e w' => e = .returned (.tuple #[.int .i64 (gAt L), .int .i64 (gOf L)]) ∧ Below w.heap.size w w' := by
  obtain ⟨ao, cap, rfl, hl, hm, hc⟩ := h
  unfold maxLen at hm
  have HC := hide hc
  have HF := hide hwf
  clear hc hwf
  go_enter Try.func18, Try.ntmps18
  go_wp2
  go_loopg [4, 5, 10] L.length (fun g p q i wr => w = wr ∧ ∃ k : Nat, k ≤ L.length ∧ g = L.length - k ∧ i = .int .i64 k ∧ p = .int .i64 (gSt L k).1 ∧ q = .int .i64 (gSt L k).2)
  case atStart => exact ⟨rfl, 0, Nat.zero_le _, rfl, rfl, rfl, rfl⟩
  case round =>
    obtain ⟨rfl, k, hk, rfl, rfl, rfl, rfl⟩ := hrel
    have hg := gSt_wf (unhide HF) k hk
    by_cases hkn : k < L.length
    · obtain ⟨b, o, rfl, hcell⟩ := unhide HC k hkn
      have hx := unhide HF k hkn
      have E : Hid (gSt L (k + 1) = if (gSt L k).1 < 0 ∨ (gSt L k).2.natAbs < (L.getD k 0).natAbs then ((k : Int), L.getD k 0) else gSt L k) := hide rfl
      obtain ⟨hg1, hg2, hg3⟩ := hg
      have HQ := hide hg1
      have HX := hide hx
      clear hg1 hx
      generalize L.getD k 0 = x at *
      obtain ⟨⟨p, q⟩, epq⟩ : ∃ pq, pq = gSt L k := ⟨_, rfl⟩
      rw [← epq] at E HQ hg2 hg3 ⊢
      clear epq
      dsimp only at E HQ hg2 hg3 ⊢
      by_cases hp : p < 0
      · have E1 : Hid (gSt L (k + 1) = ((k : Int), x)) := by show _ = _; rw [unhide E, if_pos (Or.inl hp)]
        clear E
        go_wp2
        go_roundg (L.length - (k + 1))
        case measure => omega
        case rel => exact ⟨rfl, k + 1, by omega, rfl, by go_num, by rw [unhide E1], by rw [unhide E1]⟩
      · cases hc : decide (q.natAbs < x.natAbs) with
        | true =>
          have hc' : (q.natAbs : Int) < (x.natAbs : Int) := by simp at hc; omega
          have E1 : Hid (gSt L (k + 1) = ((k : Int), x)) := by show _ = _; rw [unhide E, if_pos (Or.inr (by simpa using hc))]
          clear E hc
          have S1 := hide (size_any x w (unhide HX))
          have S2 := hide (size_any q w (unhide HQ))
          generalize x.natAbs = ax at *
          generalize q.natAbs = aq at *
          go_wp2_with (first | (go_at_call 44; refine (unhide S1).mono ?_; rintro e w' ⟨rfl, rfl⟩; clear S1) | (go_at_call 44; refine (unhide S2).mono ?_; rintro e w' ⟨rfl, rfl⟩; clear S2))
          go_roundg (L.length - (k + 1))
          case measure => omega
          case rel => exact ⟨rfl, k + 1, by omega, rfl, by go_num, by rw [unhide E1], by rw [unhide E1]⟩
        | false =>
          have hc' : ¬ (q.natAbs : Int) < (x.natAbs : Int) := by simp at hc; omega
          have E1 : Hid (gSt L (k + 1) = (p, q)) := by show _ = _; rw [unhide E, if_neg (by simp at hc; omega)]
          clear E hc
          have S1 := hide (size_any x w (unhide HX))
          have S2 := hide (size_any q w (unhide HQ))
          generalize x.natAbs = ax at *
          generalize q.natAbs = aq at *
          go_wp2_with (first | (go_at_call 44; refine (unhide S1).mono ?_; rintro e w' ⟨rfl, rfl⟩; clear S1) | (go_at_call 44; refine (unhide S2).mono ?_; rintro e w' ⟨rfl, rfl⟩; clear S2))
          go_roundg (L.length - (k + 1))
          case measure => omega
          case rel => exact ⟨rfl, k + 1, by omega, rfl, by go_num, by rw [unhide E1], by rw [unhide E1]⟩
    · have hkk : k = L.length := by omega
      have E : Hid (gAt L = (gSt L k).1 ∧ gOf L = (gSt L k).2) := by show _ ∧ _; rw [hkk]; exact ⟨rfl, rfl⟩
      clear hkk hg
      go_wp2
      refine bodyPost_ret (v := .tuple #[.int .i64 (gSt L k).1, .int .i64 (gSt L k).2]) (by simp [results, Try.results18, go_sem]) rfl ⟨by rw [(unhide E).1, (unhide E).2], Below.refl _ _⟩

set_option maxHeartbeats 800000 in
theorem specGreatest_any (v : Value) (L : List Int) (w : World) (h : IntsIn w v L) (hwf : ∀ i, i < L.length → in64 (L.getD i 0)) :
    Calls Try.prog 32 #[v] w fun e w' => e = .returned (.tuple #[.int .i64 (gAt L), .int .i64 (gOf L)]) ∧ Below w.heap.size w w' := by
  obtain ⟨ao, cap, rfl, hl, hm, hc⟩ := h
  unfold maxLen at hm
  have HC := hide hc
  have HF := hide hwf
  clear hc hwf
  go_enter Try.func32, Try.ntmps32
  go_wp2
  go_loopg [4, 5, 6] L.length (fun g p q i wr => w = wr ∧ ∃ k : Nat, k ≤ L.length ∧ g = L.length - k ∧ i = .int .i64 k ∧ p = .int .i64 (gSt L k).1 ∧ q = .int .i64 (gSt L k).2)
  case atStart => exact ⟨rfl, 0, Nat.zero_le _, rfl, rfl, rfl, rfl⟩
  case round =>
    obtain ⟨rfl, k, hk, rfl, rfl, rfl, rfl⟩ := hrel
    have hg := gSt_wf (unhide HF) k hk
    by_cases hkn : k < L.length
    · obtain ⟨b, o, rfl, hcell⟩ := unhide HC k hkn
      have hx := unhide HF k hkn
      have E : Hid (gSt L (k + 1) = if (gSt L k).1 < 0 ∨ (gSt L k).2.natAbs < (L.getD k 0).natAbs then ((k : Int), L.getD k 0) else gSt L k) := hide rfl
      obtain ⟨hg1, hg2, hg3⟩ := hg
      have HQ := hide hg1
      have HX := hide hx
      clear hg1 hx
      generalize L.getD k 0 = x at *
      obtain ⟨⟨p, q⟩, epq⟩ : ∃ pq, pq = gSt L k := ⟨_, rfl⟩
      rw [← epq] at E HQ hg2 hg3 ⊢
      clear epq
      dsimp only at E HQ hg2 hg3 ⊢
      by_cases hp : p < 0
      · have E1 : Hid (gSt L (k + 1) = ((k : Int), x)) := by show _ = _; rw [unhide E, if_pos (Or.inl hp)]
        clear E
        go_wp2
        go_roundg (L.length - (k + 1))
        case measure => omega
        case rel => exact ⟨rfl, k + 1, by omega, rfl, by go_num, by rw [unhide E1], by rw [unhide E1]⟩
      · have S1 := hide (l3Bigger_any x q w (unhide HX) (unhide HQ))
        cases hc : decide (q.natAbs < x.natAbs) with
        | true =>
          have E1 : Hid (gSt L (k + 1) = ((k : Int), x)) := by show _ = _; rw [unhide E, if_pos (Or.inr (by simpa using hc))]
          rw [hc] at S1
          clear E hc
          go_wp2_with (go_at_call 60; refine (unhide S1).mono ?_; rintro e w' ⟨rfl, rfl⟩)
          go_roundg (L.length - (k + 1))
          case measure => omega
          case rel => exact ⟨rfl, k + 1, by omega, rfl, by go_num, by rw [unhide E1], by rw [unhide E1]⟩
        | false =>
          have E1 : Hid (gSt L (k + 1) = (p, q)) := by show _ = _; rw [unhide E, if_neg (by simp at hc; omega)]
          rw [hc] at S1
          clear E hc
          go_wp2_with (go_at_call 60; refine (unhide S1).mono ?_; rintro e w' ⟨rfl, rfl⟩)
          go_roundg (L.length - (k + 1))
          case measure => omega
          case rel => exact ⟨rfl, k + 1, by omega, rfl, by go_num, by rw [unhide E1], by rw [unhide E1]⟩
    · have hkk : k = L.length := by omega
      have E : Hid (gAt L = (gSt L k).1 ∧ gOf L = (gSt L k).2) := by show _ ∧ _; rw [hkk]; exact ⟨rfl, rfl⟩
      clear hkk hg
      go_wp2
      refine bodyPost_ret (v := .tuple #[.int .i64 (gSt L k).1, .int .i64 (gSt L k).2]) (by simp [results, Try.results32, go_sem]) rfl ⟨by rw [(unhide E).1, (unhide E).2], Below.refl _ _⟩

end Go.Proofs.Ytliodmahbdmcbaa

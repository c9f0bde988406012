/- Radios in numbers: when a list of them is right; contracts of slices.Contains at []int, and of the program's hearsOk, areMutual, RadiosOk. -/
import Derived.Test.YtkjikjeecjendaaRdC
import Derived.Test.YtkjikjeecjendaaFmA
namespace Go.Proofs.Ytkjikjeecjendaa
open Go.RowKit

abbrev rId (L : List Rad) (i : Nat) : Int := (L.getD i default).1
abbrev rSl (L : List Rad) (i : Nat) : Int := (L.getD i default).2.1
abbrev rHe (L : List Rad) (i : Nat) : List Int := (L.getD i default).2.2
/-- The k-th place of those that are heard is right by itself. -/
def HeAt (H : List Int) (i n : Nat) (k : Nat) : Prop := 0 ≤ H.getD k 0 ∧ H.getD k 0 < n ∧ H.getD k 0 ≠ i ∧ (0 < k → H.getD (k - 1) 0 < H.getD k 0)
def HeOk (H : List Int) (i n : Nat) : Prop := ∀ k, k < H.length → HeAt H i n k
def IdOk (L : List Rad) (i : Nat) : Prop := 1 ≤ rId L i ∧ rId L i ≤ 999999999 ∧ (0 < i → rId L (i - 1) < rId L i)
def SlOk (L : List Rad) (i : Nat) : Prop := 0 ≤ rSl L i ∧ rSl L i ≤ 19
def MuAt (L : List Rad) (i k : Nat) : Prop := (rHe L ((rHe L i).getD k 0).toNat).contains (i : Int) = true
def MuOk (L : List Rad) : Prop := ∀ i, i < L.length → ∀ k, k < (rHe L i).length → MuAt L i k
def RadsOk (L : List Rad) : Prop := 1 ≤ L.length ∧ L.length ≤ 24 ∧ (∀ i, i < L.length → IdOk L i ∧ SlOk L i ∧ HeOk (rHe L i) i L.length) ∧ MuOk L
noncomputable def pB (p : Prop) : Bool := @decide p (Classical.propDecidable p)
theorem pB_true {p : Prop} (h : p) : pB p = true := @decide_eq_true _ (Classical.propDecidable p) h
theorem pB_false {p : Prop} (h : ¬ p) : pB p = false := @decide_eq_false _ (Classical.propDecidable p) h
theorem of_pB {p : Prop} (h : pB p = true) : p := @of_decide_eq_true _ (Classical.propDecidable p) h
theorem not_pB {p : Prop} (h : pB p = false) : ¬ p := @of_decide_eq_false _ (Classical.propDecidable p) h
noncomputable def radsB (L : List Rad) : Bool := pB (RadsOk L)

set_option maxHeartbeats 1600000 in
theorem slIndex_any (v : Value) (L : List Int) (x : Int) (w : World) (h : IntsIn w v L) :
    Calls Try.prog 92 #[v, .int .i64 x] w fun e w' => ∃ r, e = .returned (.int .i64 r) ∧ L.contains x = decide (0 ≤ r) ∧ w = w' := by
  obtain ⟨ao, cap, rfl, hl, hm, hc⟩ := h
  unfold maxLen at hm
  have HC := hide hc
  clear hc
  go_enter Try.func92, Try.ntmps92
  go_wp2
  go_loopg [8] L.length (fun g i wr => w = wr ∧ ∃ k : Nat, k ≤ L.length ∧ g = L.length - k ∧ i = .int .i64 k ∧ Hid (∀ r, r < k → L.getD r 0 ≠ x))
  case atStart => exact ⟨rfl, 0, Nat.zero_le _, rfl, rfl, fun r hr => by omega⟩
  case round =>
    obtain ⟨rfl, k, hk, rfl, rfl, HN⟩ := hrel
    by_cases hkn : k < L.length
    · obtain ⟨b, o, rfl, hcell⟩ := unhide HC k hkn
      have hki : (k : Int) < L.length := by omega
      by_cases hx : L.getD k 0 = x
      · have HT : Hid (L.contains x = true) := by
          show _ = _
          rw [List.contains_iff_mem, ← hx, getD_lt hkn]
          exact List.getElem_mem _
        rw [hx] at hcell
        clear HN
        go_wp2
        go_ret
        exact ⟨_, rfl, by rw [unhide HT]; simp, rfl⟩
      · have HN' : Hid (∀ r, r < k + 1 → L.getD r 0 ≠ x) := fun r hr => by
          by_cases e : r = k
          · rw [e]; exact hx
          · exact unhide HN r (by omega)
        clear HN
        generalize L.getD k 0 = y at *
        have d1 : (x == y) = false := by simp; omega
        go_wp2
        go_roundg (L.length - (k + 1))
        case measure => omega
        case rel => exact ⟨rfl, k + 1, by omega, rfl, by go_num, HN'⟩
    · have HF : Hid (L.contains x = false) := by
        show _ = _
        rw [Bool.eq_false_iff]
        intro hc
        rw [List.contains_iff_mem] at hc
        obtain ⟨i, hi, e⟩ := List.mem_iff_getElem.1 hc
        exact unhide HN i (by omega) (by rw [getD_lt hi]; exact e)
      have hki : ¬ (k : Int) < L.length := by omega
      clear HN
      go_wp2
      go_ret
      refine ⟨_, rfl, ?_, rfl⟩
      have h := unhide HF
      rw [Bool.eq_false_iff, ne_eq, List.contains_iff_mem] at h
      first | exact ⟨fun h' => absurd h' h, fun h' => by omega⟩ | (rw [unhide HF]; simp)

theorem slContains_any (v : Value) (L : List Int) (x : Int) (w : World) (h : IntsIn w v L) :
    Calls Try.prog 86 #[v, .int .i64 x] w fun e w' => e = .returned (.bool (L.contains x)) ∧ w = w' := by
  have HI := hide (slIndex_any v L x w h)
  clear h
  go_enter Try.func86, Try.ntmps86
  go_wp2_with fail
  refine (unhide HI).mono ?_
  rintro e w' ⟨r, rfl, hr, rfl⟩
  have HR := hide hr
  clear hr HI
  go_wp2
  go_ret
  exact ⟨ret_bool (unhide HR).symm, rfl⟩

set_option maxHeartbeats 1600000 in
theorem hearsOk_any (v : Value) (H : List Int) (i n : Nat) (w : World) (h : IntsIn w v H) (hn : n ≤ 1048576) :
    Calls Try.prog 66 #[v, .int .i64 i, .int .i64 n] w fun e w' => e = .returned (.bool (pB (HeOk H i n))) ∧ w' = w := by
  obtain ⟨ao, cap, rfl, hl, hm, hc⟩ := h
  unfold maxLen at hm
  have HC := hide hc
  clear hc
  go_enter Try.func66, Try.ntmps66
  go_wp2
  go_loopg [7, 12] H.length (fun g av kv wr => wr = w ∧ ∃ k : Nat, k ≤ H.length ∧ g = H.length - k ∧ kv = .int .i64 k ∧ (∃ a : Int, av = .int .i64 a ∧ -1 ≤ a ∧ a < n ∧ Hid (a = if k = 0 then -1 else H.getD (k - 1) 0) ∨ av = .int .i64 a ∧ a = -1 ∧ k = 0) ∧ Hid (∀ r, r < k → HeAt H i n r))
  case atStart => exact ⟨rfl, 0, Nat.zero_le _, rfl, rfl, ⟨-1, Or.inr ⟨rfl, rfl, rfl⟩⟩, fun r hr => by omega⟩
  case round =>
    obtain ⟨rfl, k, hk, rfl, rfl, ⟨a, ha⟩, HD⟩ := hrel
    obtain ⟨eav, ha1, ha2, HA⟩ : _ = Value.int .i64 a ∧ -1 ≤ a ∧ a < (n : Int) + 1 ∧ Hid (a = if k = 0 then -1 else H.getD (k - 1) 0) := by
      rcases ha with ⟨e, h1, h2, h3⟩ | ⟨e, h1, h2⟩
      · exact ⟨e, h1, by omega, h3⟩
      · exact ⟨e, by omega, by omega, by show _ = _; rw [if_pos h2]; exact h1⟩
    subst eav
    clear ha
    by_cases hkn : k < H.length
    · obtain ⟨b, o, rfl, hcell⟩ := unhide HC k hkn
      have hki : (k : Int) < H.length := by omega
      obtain ⟨x, hx⟩ : ∃ x, x = H.getD k 0 := ⟨_, rfl⟩
      have HX := hide hx
      rw [← hx] at hcell
      cases hin : inB x (a + 1) ((n : Int) - 1) with
      | false =>
        have HF : Hid (pB (HeOk H i n) = false) := pB_false fun hh => by
          obtain ⟨q1, q2, q3, q4⟩ := hh k hkn
          rw [← hx] at q1 q2 q3 q4
          have ea := unhide HA
          rw [inB_mk (by split at ea <;> (first | omega | (have := q4 (by omega); omega))) (by omega)] at hin
          cases hin
        clear HD hx
        go_wp2_with (go_at_call 55; refine (within_any _ _ _ _).mono ?_; rintro e w' ⟨rfl, h9⟩; have h8 := h9.symm; subst h8; clear h9)
        go_ret
        exact ⟨ret_bool (unhide HF).symm, rfl⟩
      | true =>
        obtain ⟨hx1, hx2⟩ := inB_true hin
        by_cases hxi : x = (i : Int)
        · have HF : Hid (pB (HeOk H i n) = false) := pB_false fun hh => (hh k hkn).2.2.1 (by rw [← hx]; exact hxi)
          have hd : (x == (i : Int)) = true := by simpa using hxi
          clear HD hx hxi
          go_wp2_with (go_at_call 55; refine (within_any _ _ _ _).mono ?_; rintro e w' ⟨rfl, h9⟩; have h8 := h9.symm; subst h8; clear h9)
          go_ret
          exact ⟨ret_bool (unhide HF).symm, rfl⟩
        · have hd : (x == (i : Int)) = false := by simpa using hxi
          have HD' : Hid (∀ r, r < k + 1 → HeAt H i n r) := fun r hr => by
            by_cases e : r = k
            · subst e
              have ea := unhide HA
              refine ⟨by rw [← hx]; omega, by rw [← hx]; omega, by rw [← hx]; exact hxi, fun h0 => ?_⟩
              rw [if_neg (by omega)] at ea
              rw [← hx, ← ea]
              omega
            · exact HD.out r (by omega)
          clear HD hx hxi
          go_wp2_with (go_at_call 55; refine (within_any _ _ _ _).mono ?_; rintro e w' ⟨rfl, h9⟩; have h8 := h9.symm; subst h8; clear h9)
          go_roundg (H.length - (k + 1))
          case measure => omega
          case rel => exact ⟨rfl, k + 1, by omega, rfl, by go_num, ⟨x, Or.inl ⟨rfl, by omega, by omega, by show _ = _; rw [if_neg (by omega), unhide HX]; rfl⟩⟩, HD'⟩
    · have HT : Hid (pB (HeOk H i n) = true) := pB_true fun r hr => HD.out r (by omega)
      clear HD
      go_wp2
      go_ret
      exact ⟨ret_bool (unhide HT).symm, rfl⟩

end Go.Proofs.Ytkjikjeecjendaa

/- Laid together out of: RdD, RdE, TwoR, AppK, SgA, SgB, SgBs, RdG, CpK, CpInt, RdH, RdI, RdL. -/
import Derived.Test.YtkjikjeecjendaaPc
import Derived.Test.YtkjikjeecjendaaPb
import Derived.Test.YtkjikjeecjendaaPa
import Derived.Deep.AppendLies
import Derived.Deep.RegionLaw
import Derived.Deep.RegionHeld3
import Derived.Laws.LoneSync
import Derived.Laws.CopyRow

/- Radios in numbers: when a list of them is right; contracts of slices.Contains at []int, and of the program's hearsOk, areMutual, RadiosOk. -/
namespace Go.Proofs.Ytkjikjeecjendaa
open Go.RowKit

abbrev rId (L : List Rad) (i : Nat) : Int := (L.getD i default).1
abbrev rSl (L : List Rad) (i : Nat) : Int := (L.getD i default).2.1
abbrev rHe (L : List Rad) (i : Nat) : List Int := (L.getD i default).2.2
/-- The k-th place of those that are heard is right by itself. -/
def HeAt (H : List Int) (i n : Nat) (k : Nat) : Prop := 0 ≤ H.getD k 0 ∧ H.getD k 0 < n ∧ H.getD k 0 ≠ i ∧ (0 < k → H.getD (k - 1) 0 < H.getD k 0)
def HeOk (H : List Int) (i n : Nat) : Prop := ∀ k, k < H.length → HeAt H i n k
def IdOk (L : List Rad) (i : Nat) : Prop := 1 ≤ rId L i ∧ rId L i ≤ 999999999 ∧ (0 < i → rId L (i - 1) < rId L i)
def SlOk (L : List Rad) (i : Nat) : Prop := 0 ≤ rSl L i ∧ rSl L i ≤ 19
def MuAt (L : List Rad) (i k : Nat) : Prop := (rHe L ((rHe L i).getD k 0).toNat).contains (i : Int) = true
def MuOk (L : List Rad) : Prop := ∀ i, i < L.length → ∀ k, k < (rHe L i).length → MuAt L i k
def RadsOk (L : List Rad) : Prop := 1 ≤ L.length ∧ L.length ≤ 24 ∧ (∀ i, i < L.length → IdOk L i ∧ SlOk L i ∧ HeOk (rHe L i) i L.length) ∧ MuOk L
noncomputable def pB (p : Prop) : Bool := @decide p (Classical.propDecidable p)
theorem pB_true {p : Prop} (h : p) : pB p = true := @decide_eq_true _ (Classical.propDecidable p) h
theorem pB_false {p : Prop} (h : ¬ p) : pB p = false := @decide_eq_false _ (Classical.propDecidable p) h
theorem of_pB {p : Prop} (h : pB p = true) : p := @of_decide_eq_true _ (Classical.propDecidable p) h
theorem not_pB {p : Prop} (h : pB p = false) : ¬ p := @of_decide_eq_false _ (Classical.propDecidable p) h
noncomputable def radsB (L : List Rad) : Bool := pB (RadsOk L)

set_option maxHeartbeats 1600000 in
theorem slIndex_any (v : Value) (L : List Int) (x : Int) (w : World) (h : IntsIn w v L) :
    Calls Try.prog 92 #[v, .int .i64 x] w fun e w' => ∃ r, e = .returned (.int .i64 r) ∧ L.contains x = decide (0 ≤ r) ∧ w = w' := by
  obtain ⟨ao, cap, rfl, hl, hm, hc⟩ := h
  unfold maxLen at hm
  have HC := hide hc
  clear hc
  go_enter Try.func92, Try.ntmps92
  go_wp2
  go_loopg [8] L.length (fun g i wr => w = wr ∧ ∃ k : Nat, k ≤ L.length ∧ g = L.length - k ∧ i = .int .i64 k ∧ Hid (∀ r, r < k → L.getD r 0 ≠ x))
  case atStart => exact ⟨rfl, 0, Nat.zero_le _, rfl, rfl, fun r hr => by omega⟩
  case round =>
    obtain ⟨rfl, k, hk, rfl, rfl, HN⟩ := hrel
    by_cases hkn : k < L.length
    · obtain ⟨b, o, rfl, hcell⟩ := unhide HC k hkn
      have hki : (k : Int) < L.length := by omega
      by_cases hx : L.getD k 0 = x
      · have HT : Hid (L.contains x = true) := by
          show _ = _
          rw [List.contains_iff_mem, ← hx, getD_lt hkn]
          exact List.getElem_mem _
        rw [hx] at hcell
        clear HN
        go_wp2
        go_ret
        exact ⟨_, rfl, by rw [unhide HT]; simp, rfl⟩
      · have HN' : Hid (∀ r, r < k + 1 → L.getD r 0 ≠ x) := fun r hr => by
          by_cases e : r = k
          · rw [e]; exact hx
          · exact unhide HN r (by omega)
        clear HN
        generalize L.getD k 0 = y at *
        have d1 : (x == y) = false := by simp; omega
        go_wp2
        go_roundg (L.length - (k + 1))
        case measure => omega
        case rel => exact ⟨rfl, k + 1, by omega, rfl, by go_num, HN'⟩
    · have HF : Hid (L.contains x = false) := by
        show _ = _
        rw [Bool.eq_false_iff]
        intro hc
        rw [List.contains_iff_mem] at hc
        obtain ⟨i, hi, e⟩ := List.mem_iff_getElem.1 hc
        exact unhide HN i (by omega) (by rw [getD_lt hi]; exact e)
      have hki : ¬ (k : Int) < L.length := by omega
      clear HN
      go_wp2
      go_ret
      refine ⟨_, rfl, ?_, rfl⟩
      have h := unhide HF
      rw [Bool.eq_false_iff, ne_eq, List.contains_iff_mem] at h
      first | exact ⟨fun h' => absurd h' h, fun h' => by omega⟩ | (rw [unhide HF]; simp)

theorem slContains_any (v : Value) (L : List Int) (x : Int) (w : World) (h : IntsIn w v L) :
    Calls Try.prog 86 #[v, .int .i64 x] w fun e w' => e = .returned (.bool (L.contains x)) ∧ w = w' := by
  have HI := hide (slIndex_any v L x w h)
  clear h
  go_enter Try.func86, Try.ntmps86
  go_wp2_with fail
  refine (unhide HI).mono ?_
  rintro e w' ⟨r, rfl, hr, rfl⟩
  have HR := hide hr
  clear hr HI
  go_wp2
  go_ret
  exact ⟨ret_bool (unhide HR).symm, rfl⟩

set_option maxHeartbeats 1600000 in
theorem hearsOk_any (v : Value) (H : List Int) (i n : Nat) (w : World) (h : IntsIn w v H) (hn : n ≤ 1048576) :
    Calls Try.prog 66 #[v, .int .i64 i, .int .i64 n] w fun e w' => e = .returned (.bool (pB (HeOk H i n))) ∧ w' = w := by
  obtain ⟨ao, cap, rfl, hl, hm, hc⟩ := h
  unfold maxLen at hm
  have HC := hide hc
  clear hc
  go_enter Try.func66, Try.ntmps66
  go_wp2
  go_loopg [7, 12] H.length (fun g av kv wr => wr = w ∧ ∃ k : Nat, k ≤ H.length ∧ g = H.length - k ∧ kv = .int .i64 k ∧ (∃ a : Int, av = .int .i64 a ∧ -1 ≤ a ∧ a < n ∧ Hid (a = if k = 0 then -1 else H.getD (k - 1) 0) ∨ av = .int .i64 a ∧ a = -1 ∧ k = 0) ∧ Hid (∀ r, r < k → HeAt H i n r))
  case atStart => exact ⟨rfl, 0, Nat.zero_le _, rfl, rfl, ⟨-1, Or.inr ⟨rfl, rfl, rfl⟩⟩, fun r hr => by omega⟩
  case round =>
    obtain ⟨rfl, k, hk, rfl, rfl, ⟨a, ha⟩, HD⟩ := hrel
    obtain ⟨eav, ha1, ha2, HA⟩ : _ = Value.int .i64 a ∧ -1 ≤ a ∧ a < (n : Int) + 1 ∧ Hid (a = if k = 0 then -1 else H.getD (k - 1) 0) := by
      rcases ha with ⟨e, h1, h2, h3⟩ | ⟨e, h1, h2⟩
      · exact ⟨e, h1, by omega, h3⟩
      · exact ⟨e, by omega, by omega, by show _ = _; rw [if_pos h2]; exact h1⟩
    subst eav
    clear ha
    by_cases hkn : k < H.length
    · obtain ⟨b, o, rfl, hcell⟩ := unhide HC k hkn
      have hki : (k : Int) < H.length := by omega
      obtain ⟨x, hx⟩ : ∃ x, x = H.getD k 0 := ⟨_, rfl⟩
      have HX := hide hx
      rw [← hx] at hcell
      cases hin : inB x (a + 1) ((n : Int) - 1) with
      | false =>
        have HF : Hid (pB (HeOk H i n) = false) := pB_false fun hh => by
          obtain ⟨q1, q2, q3, q4⟩ := hh k hkn
          rw [← hx] at q1 q2 q3 q4
          have ea := unhide HA
          rw [inB_mk (by split at ea <;> (first | omega | (have := q4 (by omega); omega))) (by omega)] at hin
          cases hin
        clear HD hx
        go_wp2_with (go_at_call 55; refine (within_any _ _ _ _).mono ?_; rintro e w' ⟨rfl, h9⟩; have h8 := h9.symm; subst h8; clear h9)
        go_ret
        exact ⟨ret_bool (unhide HF).symm, rfl⟩
      | true =>
        obtain ⟨hx1, hx2⟩ := inB_true hin
        by_cases hxi : x = (i : Int)
        · have HF : Hid (pB (HeOk H i n) = false) := pB_false fun hh => (hh k hkn).2.2.1 (by rw [← hx]; exact hxi)
          have hd : (x == (i : Int)) = true := by simpa using hxi
          clear HD hx hxi
          go_wp2_with (go_at_call 55; refine (within_any _ _ _ _).mono ?_; rintro e w' ⟨rfl, h9⟩; have h8 := h9.symm; subst h8; clear h9)
          go_ret
          exact ⟨ret_bool (unhide HF).symm, rfl⟩
        · have hd : (x == (i : Int)) = false := by simpa using hxi
          have HD' : Hid (∀ r, r < k + 1 → HeAt H i n r) := fun r hr => by
            by_cases e : r = k
            · subst e
              have ea := unhide HA
              refine ⟨by rw [← hx]; omega, by rw [← hx]; omega, by rw [← hx]; exact hxi, fun h0 => ?_⟩
              rw [if_neg (by omega)] at ea
              rw [← hx, ← ea]
              omega
            · exact HD.out r (by omega)
          clear HD hx hxi
          go_wp2_with (go_at_call 55; refine (within_any _ _ _ _).mono ?_; rintro e w' ⟨rfl, h9⟩; have h8 := h9.symm; subst h8; clear h9)
          go_roundg (H.length - (k + 1))
          case measure => omega
          case rel => exact ⟨rfl, k + 1, by omega, rfl, by go_num, ⟨x, Or.inl ⟨rfl, by omega, by omega, by show _ = _; rw [if_neg (by omega), unhide HX]; rfl⟩⟩, HD'⟩
    · have HT : Hid (pB (HeOk H i n) = true) := pB_true fun r hr => HD.out r (by omega)
      clear HD
      go_wp2
      go_ret
      exact ⟨ret_bool (unhide HT).symm, rfl⟩

end Go.Proofs.Ytkjikjeecjendaa

/- Radios: contracts of the program's areMutual, RadiosOk. -/
namespace Go.Proofs.Ytkjikjeecjendaa
open Go.RowKit

set_option maxHeartbeats 1600000 in
theorem areMutual_any (v : Value) (L : List Rad) (w : World) (h : RadsIn w v L) (hh : ∀ i, i < L.length → HeOk (rHe L i) i L.length) :
    Calls Try.prog 67 #[v] w fun e w' => e = .returned (.bool (pB (MuOk L))) ∧ Below w.heap.size w w' := by
  obtain ⟨ao, cap, rfl, hl, hm, hc⟩ := h
  unfold maxLen at hm
  have HC := hide hc
  have HHE := hide hh
  clear hc hh
  go_enter Try.func67, Try.ntmps67
  go_wp2
  go_loopg [9] L.length (fun g iv wr => Below w.heap.size w wr ∧ ∃ i : Nat, i ≤ L.length ∧ g = L.length - i ∧ iv = .int .i64 i ∧ Hid (∀ r, r < i → ∀ k, k < (rHe L r).length → MuAt L r k))
  case atStart => exact ⟨Below.refl _ _, 0, Nat.zero_le _, rfl, rfl, fun r hr => by omega⟩
  case round =>
    obtain ⟨hW, i, hi, rfl, rfl, HD⟩ := hrel
    by_cases hin : i < L.length
    · obtain ⟨b, o, na, nc, id, sl, H, m, rfl, hc0, hc1, hc2, hr, EX, EM, hm0⟩ := radAt (unhide HC) hin
      have g0 := wcell3 hc0 hW
      have g1 := wcell3 hc1 hW
      have g2 := wcell3 hc2 hW
      have hii : (i : Int) < L.length := by omega
      have EH : Hid (rHe L i = H) := by show (L.getD i default).2.2 = H; rw [unhide EX]
      have HR := hide hr
      have hA := Below.alloc1 wr (.cells #[.int .i64 id, .int .i64 sl, .slice na m nc] 45)
      have HW0 := hide (Below.step hW hA)
      clear hc0 hc1 hc2 hr hW hA
      go_wp2
      go_loopg [17] m (fun g kv wr2 => Below w.heap.size w wr2 ∧ ∃ k : Nat, k ≤ m ∧ g = m - k ∧ kv = .int .i64 k ∧ Hid (∀ q, q < k → MuAt L i q))
      case atStart => exact ⟨unhide HW0, 0, Nat.zero_le _, rfl, rfl, fun q hq => by omega⟩
      case round =>
        obtain ⟨hW2, k, hk, rfl, rfl, HK⟩ := hrel
        clear g0 g1 g2
        by_cases hkm : k < m
        · obtain ⟨b', o', rfl, hcell⟩ := intAt (unhide HR) hkm
          have c0 := wcell3 hcell hW2
          obtain ⟨hx0, hx1, hx2, -⟩ := unhide HHE i hin k (by rw [unhide EH, unhide EM]; exact hkm)
          rw [unhide EH] at hx0 hx1 hx2
          have HMU : Hid (MuAt L i k = ((rHe L (H.getD k 0).toNat).contains (i : Int) = true)) := by show _ = _; unfold MuAt; rw [unhide EH]
          obtain ⟨x, hx⟩ : ∃ x : Nat, H.getD k 0 = (x : Int) := ⟨(H.getD k 0).toNat, by omega⟩
          rw [hx] at c0 hx0 hx1 hx2 HMU
          rw [Int.toNat_natCast] at HMU
          have hxl : x < L.length := by omega
          obtain ⟨b2, o2, na2, nc2, id2, sl2, H2, m2, e2, hd0, hd1, hd2, hr2, EX2, EM2, hm2⟩ := radAt (unhide HC) hxl
          simp only [Option.some.injEq, Addr.mk.injEq, and_true] at e2
          obtain ⟨rfl, rfl⟩ := e2
          have q2 := wcell3 hd2 hW2
          have HI2 := hide (hr2.below hW2)
          rw [show rHe L x = H2 from by show (L.getD x default).2.2 = H2; rw [unhide EX2]] at HMU
          have HW2 := hide hW2
          have hkm' : (k : Int) < m := by omega
          clear hcell hd0 hd1 hd2 hr2 hW2 hx hx0 hx2
          cases hcn : H2.contains (i : Int) with
          | false =>
            have HF : Hid (pB (MuOk L) = false) := pB_false fun hh => by
              have := hh i hin k (by rw [unhide EH, unhide EM]; exact hkm)
              rw [unhide HMU, hcn] at this
              cases this
            have HCN := hide hcn
            clear hcn HMU HK HD
            go_wp2_with fail
            refine (slContains_any _ H2 _ _ (unhide HI2)).mono ?_
            rintro e w3 ⟨rfl, h9⟩
            subst h9
            rw [unhide HCN]
            go_wp2
            go_ret
            exact ⟨ret_bool (unhide HF).symm, unhide HW2⟩
          | true =>
            have HK' : Hid (∀ q, q < k + 1 → MuAt L i q) := fun q hq => by
              by_cases e : q = k
              · subst e; rw [unhide HMU]; exact hcn
              · exact HK.out q (by omega)
            have HCN := hide hcn
            clear hcn HMU HK
            go_wp2_with fail
            refine (slContains_any _ H2 _ _ (unhide HI2)).mono ?_
            rintro e w3 ⟨rfl, h9⟩
            subst h9
            rw [unhide HCN]
            go_wp2
            go_roundg (m - (k + 1))
            case measure => omega
            case rel => exact ⟨unhide HW2, k + 1, by omega, rfl, by go_num, HK'⟩
        · have HD' : Hid (∀ r, r < i + 1 → ∀ k, k < (rHe L r).length → MuAt L r k) := fun r hr q hq => by
            by_cases e : r = i
            · subst e; rw [unhide EH, unhide EM] at hq; exact HK.out q (by omega)
            · exact HD.out r (by omega) q hq
          have HW2 := hide hW2
          clear HD HK hW2
          go_wp2
          go_roundg (L.length - (i + 1))
          case measure => omega
          case rel => exact ⟨unhide HW2, i + 1, by omega, rfl, by go_num, HD'⟩
    · have HT : Hid (pB (MuOk L) = true) := pB_true fun r hr => HD.out r (by omega)
      have HW := hide hW
      clear HD hW
      go_wp2
      go_ret
      exact ⟨ret_bool (unhide HT).symm, unhide HW⟩

set_option maxHeartbeats 3200000 in
theorem implRadiosOk_any (v : Value) (L : List Rad) (w : World) (h : RadsIn w v L) :
    Calls Try.prog 23 #[v] w fun e w' => e = .returned (.bool (radsB L)) ∧ Below w.heap.size w w' := by
  have hv := h
  obtain ⟨ao, cap, rfl, hl, hm, hc⟩ := h
  unfold maxLen at hm
  have HC := hide hc
  have HV := hide hv
  clear hc hv
  unfold radsB
  cases hn : inB L.length 1 24 with
  | false =>
    have HF : Hid (pB (RadsOk L) = false) := pB_false fun hh => by
      rw [inB_mk (by have := hh.1; omega) (by have := hh.2.1; omega)] at hn
      cases hn
    go_enter Try.func23, Try.ntmps23
    go_wp2_with (go_at_call 55; refine (within_any _ _ _ _).mono ?_; rintro e w' ⟨rfl, h9⟩; have h8 := h9.symm; subst h8; clear h9)
    go_ret
    exact ⟨ret_bool (unhide HF).symm, Below.refl _ _⟩
  | true =>
  have hn' := inB_true hn
  go_enter Try.func23, Try.ntmps23
  go_wp2_with (go_at_call 55; refine (within_any _ _ _ _).mono ?_; rintro e w' ⟨rfl, h9⟩; have h8 := h9.symm; subst h8; clear h9)
  go_loopg [3, 12] L.length (fun g av iv wr => Below w.heap.size w wr ∧ ∃ i : Nat, i ≤ L.length ∧ g = L.length - i ∧ iv = .int .i64 i ∧ (∃ a : Int, av = .int .i64 a ∧ 0 ≤ a ∧ a ≤ 999999999 ∧ Hid (a = if i = 0 then 0 else rId L (i - 1))) ∧ Hid (∀ r, r < i → IdOk L r ∧ SlOk L r ∧ HeOk (rHe L r) r L.length))
  case atStart => exact ⟨Below.refl _ _, 0, Nat.zero_le _, rfl, rfl, ⟨0, rfl, by omega, by omega, rfl⟩, fun r hr => by omega⟩
  case round =>
    obtain ⟨hW, i, hi, rfl, rfl, ⟨a, rfl, ha0, ha1, HA⟩, HD⟩ := hrel
    by_cases hin : i < L.length
    · obtain ⟨b, o, na, nc, id, sl, H, m, rfl, hc0, hc1, hc2, hr, EX, EM, hm0⟩ := radAt (unhide HC) hin
      have g0 := wcell3 hc0 hW
      have g1 := wcell3 hc1 hW
      have g2 := wcell3 hc2 hW
      have hii : (i : Int) < L.length := by omega
      have e1 : rId L i = id := by show (L.getD i default).1 = id; rw [unhide EX]
      have e2 : rSl L i = sl := by show (L.getD i default).2.1 = sl; rw [unhide EX]
      have e3 : rHe L i = H := by show (L.getD i default).2.2 = H; rw [unhide EX]
      have hA := Below.alloc1 wr (.cells #[.int .i64 id, .int .i64 sl, .slice na m nc] 45)
      have HW := hide (Below.step hW hA)
      have HHE := hide (hearsOk_any _ H i L.length _ (hr.below (Below.step hW hA)) (by omega))
      clear hc0 hc1 hc2 hr hW hA
      cases hq1 : inB id (a + 1) 999999999 with
      | false =>
        have HF : Hid (pB (RadsOk L) = false) := pB_false fun hh => by
          obtain ⟨k1, k2, k3⟩ := (hh.2.2.1 i hin).1
          rw [e1] at k1 k2 k3
          have ea := unhide HA
          rw [inB_mk (by split at ea <;> (first | omega | (have := k3 (by omega); omega))) (by omega)] at hq1
          cases hq1
        clear HD e1 e2 e3
        go_wp2_with (go_at_call 55; refine (within_any _ _ _ _).mono ?_; rintro e w' ⟨rfl, h9⟩; have h8 := h9.symm; subst h8; clear h9)
        go_ret
        exact ⟨ret_bool (unhide HF).symm, unhide HW⟩
      | true =>
      cases hq2 : inB sl 0 19 with
      | false =>
        have HF : Hid (pB (RadsOk L) = false) := pB_false fun hh => by
          obtain ⟨k1, k2⟩ := (hh.2.2.1 i hin).2.1
          rw [e2] at k1 k2
          rw [inB_mk k1 k2] at hq2
          cases hq2
        clear HD e1 e2 e3
        go_wp2_with (first | (go_at_call 55; refine (within_any _ _ _ _).mono ?_; rintro e w' ⟨rfl, h9⟩; have h8 := h9.symm; subst h8; clear h9) | (go_at_call 56; refine (isSlot_any _ _).mono ?_; rintro e w' ⟨rfl, h9⟩; have h8 := h9.symm; subst h8; clear h9))
        go_ret
        exact ⟨ret_bool (unhide HF).symm, unhide HW⟩
      | true =>
      cases hq3 : pB (HeOk H i L.length) with
      | false =>
        have HF : Hid (pB (RadsOk L) = false) := pB_false fun hh => by
          have k1 := (hh.2.2.1 i hin).2.2
          rw [e3] at k1
          exact not_pB hq3 k1
        rw [hq3] at HHE
        clear HD e1 e2 e3 hq3
        go_wp2_with (first | (go_at_call 55; refine (within_any _ _ _ _).mono ?_; rintro e w' ⟨rfl, h9⟩; have h8 := h9.symm; subst h8; clear h9) | (go_at_call 56; refine (isSlot_any _ _).mono ?_; rintro e w' ⟨rfl, h9⟩; have h8 := h9.symm; subst h8; clear h9) | (go_at_call 66; refine (unhide HHE).mono ?_; rintro e w' ⟨rfl, h9⟩; have h8 := h9.symm; subst h8; clear h9))
        go_ret
        exact ⟨ret_bool (unhide HF).symm, unhide HW⟩
      | true =>
        obtain ⟨k1, k2⟩ := inB_true hq1
        have HD' : Hid (∀ r, r < i + 1 → IdOk L r ∧ SlOk L r ∧ HeOk (rHe L r) r L.length) := fun r hr => by
          by_cases e : r = i
          · subst e
            have ea := unhide HA
            refine ⟨⟨by rw [e1]; omega, by rw [e1]; omega, fun h0 => ?_⟩, ⟨by rw [e2]; exact (inB_true hq2).1, by rw [e2]; exact (inB_true hq2).2⟩, by rw [e3]; exact of_pB hq3⟩
            rw [if_neg (by omega)] at ea
            rw [e1, ← ea]
            omega
          · exact HD.out r (by omega)
        have EA : Hid (id = if i + 1 = 0 then 0 else rId L (i + 1 - 1)) := by show _ = _; rw [if_neg (by omega)]; exact e1.symm
        rw [hq3] at HHE
        clear HD e1 e2 e3 hq3
        go_wp2_with (first | (go_at_call 55; refine (within_any _ _ _ _).mono ?_; rintro e w' ⟨rfl, h9⟩; have h8 := h9.symm; subst h8; clear h9) | (go_at_call 56; refine (isSlot_any _ _).mono ?_; rintro e w' ⟨rfl, h9⟩; have h8 := h9.symm; subst h8; clear h9) | (go_at_call 66; refine (unhide HHE).mono ?_; rintro e w' ⟨rfl, h9⟩; have h8 := h9.symm; subst h8; clear h9))
        go_roundg (L.length - (i + 1))
        case measure => omega
        case rel => exact ⟨unhide HW, i + 1, by omega, rfl, by go_num, ⟨id, rfl, by omega, by omega, EA⟩, HD'⟩
    · have HH : Hid (∀ r, r < L.length → IdOk L r ∧ SlOk L r ∧ HeOk (rHe L r) r L.length) := fun r hr => HD.out r (by omega)
      have HM := hide (areMutual_any _ L wr ((unhide HV).below hW) (fun r hr => (unhide HH r hr).2.2))
      have HW := hide hW
      clear HD hW
      have HEQ : Hid (pB (RadsOk L) = pB (MuOk L)) := by
        show _ = _
        cases hq : pB (MuOk L) with
        | false => exact pB_false fun hh => not_pB hq hh.2.2.2
        | true => exact pB_true ⟨by omega, by omega, fun r hr => unhide HH r hr, of_pB hq⟩
      go_wp2_with fail
      refine (unhide HM).mono ?_
      rintro e w2 ⟨rfl, hb⟩
      have HW2 := hide (Below.step (unhide HW) hb)
      clear hb
      go_wp2
      go_ret
      exact ⟨ret_bool (unhide HEQ).symm, unhide HW2⟩

end Go.Proofs.Ytkjikjeecjendaa

/- Two rows of one's own beside each other, each appended to; rows of records. -/
namespace Go.Proofs.Ytkjikjeecjendaa
open Go.RowKit

/-- Two slices that own their rows, which are apart. -/
structure TwoR (N : Nat) (e : TypeId) (size : Nat) (A : World) (v v' : Value) (k k' : Nat) (xs ys : List Value) : Prop where
  a : A.ownsRow N e size v k xs
  b : A.ownsRow N e size v' k' ys
  ne : ∀ g, v.ownBlock = some g → v'.ownBlock ≠ some g

theorem TwoR.symm {N : Nat} {e : TypeId} {size : Nat} {A : World} {v v' : Value} {k k' : Nat} {xs ys : List Value} (h : TwoR N e size A v v' k k' xs ys) : TwoR N e size A v' v k' k ys xs := ⟨h.b, h.a, fun g h1 h2 => h.ne g h2 h1⟩

theorem TwoR.below {N : Nat} {e : TypeId} {size : Nat} {A B : World} {v v' : Value} {k k' : Nat} {xs ys : List Value} (h : TwoR N e size A v v' k k' xs ys) (hb : Below A.heap.size A B) : TwoR N e size B v v' k k' xs ys := ⟨ownsRow_below h.a hb, ownsRow_below h.b hb, h.ne⟩

/-- Behind an append to the first. -/
theorem TwoR.grown {N : Nat} {e : TypeId} {size : Nat} {A B : World} {v v' : Value} {k k' m cap g : Nat} {xs ys zs : List Value} (h : TwoR N e size A v v' k k' xs ys)
    (ho : B.ownsRow N e size (.slice (some ⟨g, 0, none⟩) m cap) m zs) (hg : A.grownBy B v.ownBlock) (hat : v.ownBlock = some g ∨ g = A.heap.size) : TwoR N e size B (.slice (some ⟨g, 0, none⟩) m cap) v' m k' zs ys := by
  refine ⟨ho, h.b.kept hg ?_, fun g' h1 h2 => ?_⟩
  · cases hv : v'.ownBlock with
    | none => exact .inl rfl
    | some b => exact .inr (fun e' => h.ne b e'.symm hv)
  · simp only [Value.ownBlock, Option.some.injEq] at h1
    subst h1
    rcases hat with h3 | h3
    · exact h.ne _ h3 h2
    · have := (h.b.lt _ h2).2; omega

theorem ownsRow_setOther {w : World} {base n size : Nat} {e : TypeId} {v : Value} {xs : List Value} (h : w.ownsRow base e size v n xs) {a : Addr} (hne : v.ownBlock ≠ some a.block) (x : Value) : (w.setCell a x).ownsRow base e size v n xs := by
  obtain ⟨h1, h2⟩ := h
  refine ⟨h1, ?_⟩
  rcases h2 with h2 | ⟨g, cap, cur, rfl, hg, hh, r⟩
  · exact Or.inl h2
  · exact Or.inr ⟨g, cap, cur, rfl, hg, (Below.heap_setCell _ _ _ _ (fun e' => hne (by simp [Value.ownBlock, e']))).trans hh, r⟩

theorem TwoR.setOther {N : Nat} {e : TypeId} {size : Nat} {A : World} {v v' : Value} {k k' : Nat} {xs ys : List Value} (h : TwoR N e size A v v' k k' xs ys) {a : Addr} (h1 : v.ownBlock ≠ some a.block) (h2 : v'.ownBlock ≠ some a.block) (x : Value) : TwoR N e size (A.setCell a x) v v' k k' xs ys := ⟨ownsRow_setOther h.a h1 x, ownsRow_setOther h.b h2 x, h.ne⟩

theorem recCells_snoc (L : List I3) (p : I3) : recCells 3 e3 (L ++ [p]) = recCells 3 e3 L ++ [.int .i64 p.1, .int .i64 p.2.1, .int .i64 p.2.2] := by
  have e : (L ++ [p]).length * 3 = L.length * 3 + 1 + 1 + 1 := by simp; omega
  unfold recCells
  rw [e, List.range_succ, List.range_succ, List.range_succ]
  simp only [List.map_append, List.map_cons, List.map_nil, List.append_assoc, List.cons_append, List.nil_append]
  congr 1
  · apply List.map_congr_left
    intro k hk
    have : k / 3 < L.length := by simp at hk; omega
    simp [List.getD, List.getElem?_append, this]
  · have h0 : L.length * 3 / 3 = L.length := by omega
    have h1 : (L.length * 3 + 1) / 3 = L.length := by omega
    have h2 : (L.length * 3 + 1 + 1) / 3 = L.length := by omega
    have m0 : L.length * 3 % 3 = 0 := by omega
    have m1 : (L.length * 3 + 1) % 3 = 1 := by omega
    have m2 : (L.length * 3 + 1 + 1) % 3 = 2 := by omega
    rw [h0, h1, h2, m0, m1, m2]
    simp [List.getD, e3]

/-- A slice that owns the cells of records reads as they. -/
theorem ownsRow_recs {w : World} {base : Nat} {e : TypeId} {v : Value} {k : Nat} {L : List I3} (h : w.ownsRow base e 3 v k (recCells 3 e3 L)) (hk : L.length = k) : R3 w v L := by
  obtain ⟨h1, h2⟩ := h
  rcases h2 with ⟨rfl, h0⟩ | ⟨g, cap, cur, rfl, hg, hh, hc, hm, hs, ht⟩
  · have : L = [] := List.length_eq_zero_iff.1 (by omega)
    subst this
    exact recsIn_nil
  · subst hk
    refine OwnV.recsIn ⟨cur, e, hh, fun i hi => ?_⟩ hc hm
    rw [recCells_length] at hi
    rw [← ht]
    simp [hi]

end Go.Proofs.Ytkjikjeecjendaa

/- An append, also a guarded one, behind which the slice that was appended to still holds what it held. -/
namespace Go.Proofs.Ytkjikjeecjendaa
open Go.RowKit

theorem run_append_keeps {P : Program} (w : World) (t ty : TypeId) (base : Nat) (e : TypeId) (i : TypeInfo) (z : Value) (size bytes : Nat) (ht : P.underlying t = some (.slice e)) (hi : P.info? e = some i) (hz : i.zero = some z)
    (hsize : i.size = size) (hby : i.bytes = bytes) (hzs : z.cells.size = size) (hsz : 0 < size)
    (g n cap : Nat) (xs : List Value) (hown : w.ownsRow base e size (.slice (some ⟨g, 0, none⟩) n cap) n xs)
    (ad : Addr) (m c : Nat) (news : List Value) (hl : news.length = m * size) (hnews : ∀ j u, news[j]? = some u → w.cell? (ad.add j) = some u) (h1 : ∀ u ∈ news, u.oneCell' = true)
    (hm : 0 < m) (h63 : n + m ≤ maxLen) (hbytes : (n + m) * bytes ≤ 140737488355328) (hbase : base ≤ w.heap.size) :
    ∃ g' cap' w', (Builtin.append_ #[t, t] ty #[.slice (some ⟨g, 0, none⟩) n cap, .slice (some ad) m c]).run P w = .ok (.slice (some ⟨g', 0, none⟩) (n + m) cap') w' ∧
      w'.ownsRow base e size (.slice (some ⟨g', 0, none⟩) (n + m) cap') (n + m) (xs ++ news) ∧ w.grownBy w' (some g) ∧ (some g = some g' ∨ g' = w.heap.size) ∧ w'.ownsRow base e size (.slice (some ⟨g, 0, none⟩) n cap) n xs := by
  obtain ⟨g', cap', w', hrun, h2, h3, h4, h5⟩ := run_append_lies (P := P) w t ty base e i z size bytes ht hi hz hsize hby hzs hsz _ n xs hown ad m c news hl hnews h1 hm h63 hbytes hbase _ rfl
  refine ⟨g', cap', w', hrun, h2, h3, h4, ?_⟩
  rcases hown.2 with ⟨hv, _⟩ | ⟨g2, cap2, cur, hv, hg, hh, hc, hmx, hs, htk⟩
  · cases hv
  simp only [Value.slice.injEq, Option.some.injEq, Addr.mk.injEq, and_true, true_and] at hv
  obtain ⟨rfl, rfl⟩ := hv
  refine ⟨hown.1, ?_⟩
  by_cases hroom : n + m ≤ cap
  · have hb : (n + m) * size ≤ cap * size := Nat.mul_le_mul_right _ hroom
    rw [Nat.add_mul] at hb
    have := run_append_room (P := P) w t ty e i ht hi g n cap cur hh ad m c news (by rw [hsize]; exact hl) hnews h1 hroom (by rw [hsize, hs, hl]; omega)
    rw [hrun] at this
    simp only [Result.ok.injEq] at this
    obtain ⟨_, rfl⟩ := this
    refine Or.inr ⟨g, cap, _, rfl, hg, setRow_heap w g cur _ e _ hh, hc, hmx, ?_, ?_⟩
    · simp only [List.size_toArray, List.length_append, List.length_take, List.length_drop, Array.length_toList, hsize, hs, hl]
      omega
    · rw [hsize, htk]
      simp only [List.append_assoc]
      rw [← hown.1]
      exact List.take_left
  · subst hsize
    have := run_append_grow (P := P) w t ty e i z ht hi hz ⟨g, 0, none⟩ n cap xs hown.1 (hown.cells (g := g) rfl) ad m c news hl hnews (by omega) (by unfold maxLen at h63; omega) (growslice_fits (by omega) (by rw [hby]; exact hbytes))
    rw [hrun] at this
    simp only [Result.ok.injEq] at this
    obtain ⟨_, rfl⟩ := this
    exact Or.inr ⟨g, cap, cur, rfl, hg, (heap_alloc_old w.drew _ (Array.getElem?_eq_some_iff.1 hh).1).trans hh, hc, hmx, hs, htk⟩

theorem wpList_append_keeps {P : Program} (w : World) {ops : Array Oper} {rest : List Oper} {o : Oper} {a : Act} {Q : Exit → Act → World → Prop} (hwt : Region.wanted o (yielded ops a.tmps) = true) (s x : Operand) (t : TypeId)
    (ho : o.op = .call { callee := .builtin .append, args := #[s, x], argTypes := #[t, t] })
    (base : Nat) (e : TypeId) (i : TypeInfo) (z : Value) (size bytes : Nat) (ht : P.underlying t = some (.slice e)) (hi : P.info? e = some i) (hz : i.zero = some z)
    (hsize : i.size = size) (hby : i.bytes = bytes) (hzs : z.cells.size = size) (hsz : 0 < size)
    (g n cap : Nat) (xs : List Value) (hs : a.eval s = .slice (some ⟨g, 0, none⟩) n cap) (hown : w.ownsRow base e size (.slice (some ⟨g, 0, none⟩) n cap) n xs)
    (ad : Addr) (m c : Nat) (news : List Value) (hx : a.eval x = .slice (some ad) m c) (hl : news.length = m * size) (hnews : ∀ j u, news[j]? = some u → w.cell? (ad.add j) = some u) (h1 : ∀ u ∈ news, u.oneCell' = true)
    (hm : 0 < m) (h63 : n + m ≤ maxLen) (hbytes : (n + m) * bytes ≤ 140737488355328) (hbase : base ≤ w.heap.size)
    (h : ∀ g' cap' w', w'.ownsRow base e size (.slice (some ⟨g', 0, none⟩) (n + m) cap') (n + m) (xs ++ news) → w.grownBy w' (some g) → (some g = some g' ∨ g' = w.heap.size) → w'.ownsRow base e size (.slice (some ⟨g, 0, none⟩) n cap) n xs →
      wpList P ops Q rest (a.put o.dst (.slice (some ⟨g', 0, none⟩) (n + m) cap')) w') : wpList P ops Q (o :: rest) a w := by
  refine wpList_step fun K hK => ?_
  rw [if_pos hwt]
  obtain ⟨g', cap', w', hr, h2, h3, h4, h5⟩ := run_append_keeps (P := P) w t o.type base e i z size bytes ht hi hz hsize hby hzs hsz g n cap xs hown ad m c news hl hnews h1 hm h63 hbytes hbase
  unfold Oper.wp execOp
  simp only [ho, resolve, invoke, builtin, Sem.run_bind, Sem.run_pure, Result.andThen_ok, List.map_toArray, List.map_cons, List.map_nil, hs, hx, hr]
  exact hK _ _ (h g' cap' w' h2 h3 h4 h5)

end Go.Proofs.Ytkjikjeecjendaa

/- Shears and bendings as numbers, and when strips are right; contracts of the specification's l3All and the program's stripsOk. -/
namespace Go.Proofs.Ytkjikjeecjendaa
open Go.RowKit

theorem sumTo_abs {f : Nat → Int} {B : Int} {n : Nat} (h : ∀ i, i < n → -B ≤ f i ∧ f i ≤ B) : ∀ k, k ≤ n → -(k * B) ≤ sumTo f k ∧ sumTo f k ≤ k * B
  | 0, _ => by simp [sumTo]
  | k + 1, hk => by
    have ih := sumTo_abs h k (by omega)
    have hf := h k (by omega)
    have e : ((k + 1 : Nat) : Int) * B = k * B + B := by rw [Int.natCast_add, Int.add_mul]; simp
    rw [e]
    simp only [sumTo]
    omega

def shOk (W B : List Int) : Bool := decide (W.length = B.length) && decide (W.length ≤ 40) && W.all (fun x => inB x 0 1000000) && B.all (fun x => inB x 0 2000000)

/-- Twice the shear at station k. -/
def shAt (W B : List Int) (k : Nat) : Int := sumTo (fun i => 2 * W.getD i 0 - B.getD i 0) k
/-- Four times the bending at station k. -/
def beAt (W B : List Int) (st : Int) (k : Nat) : Int := sumTo (fun i => st * (shAt W B i + shAt W B (i + 1))) k

def shear (W B : List Int) : List Int := if shOk W B = true then (List.range (W.length + 1)).map (shAt W B) else []
def beOk (W B : List Int) (st : Int) : Bool := shOk W B && inB st 1 100
def bend (W B : List Int) (st : Int) : List Int := if beOk W B st = true then (List.range (W.length + 1)).map (beAt W B st) else []
def balanced (W B : List Int) (st : Int) : Bool := beOk W B st && decide (0 < W.length) && decide (shAt W B W.length = 0) && decide (beAt W B st W.length = 0)

structure ShR (W B : List Int) : Prop where
  same : B.length = W.length
  len : W.length ≤ 40
  w : ∀ i, i < W.length → 0 ≤ W.getD i 0 ∧ W.getD i 0 ≤ 1000000
  b : ∀ i, i < W.length → 0 ≤ B.getD i 0 ∧ B.getD i 0 ≤ 2000000

theorem shOk_r {W B : List Int} (h : shOk W B = true) : ShR W B := by
  simp only [shOk, Bool.and_eq_true, decide_eq_true_eq] at h
  obtain ⟨⟨⟨h1, h2⟩, h3⟩, h4⟩ := h
  exact ⟨h1.symm, h2, fun i hi => inB_true (all_at (d := 0) h3 hi), fun i hi => inB_true (all_at (d := 0) h4 (by omega))⟩

theorem shAt_bd {W B : List Int} (h : ShR W B) {k : Nat} (hk : k ≤ W.length) : -80000000 ≤ shAt W B k ∧ shAt W B k ≤ 80000000 := by
  have := sumTo_abs (f := fun i => 2 * W.getD i 0 - B.getD i 0) (B := 2000000) (n := W.length) (fun i hi => by have := h.w i hi; have := h.b i hi; omega) k hk
  have := h.len
  unfold shAt
  omega

theorem beStep_bd {W B : List Int} {st : Int} (h : ShR W B) (hs : 1 ≤ st ∧ st ≤ 100) {k : Nat} (hk : k < W.length) : -16000000000 ≤ st * (shAt W B k + shAt W B (k + 1)) ∧ st * (shAt W B k + shAt W B (k + 1)) ≤ 16000000000 := by
  have h1 := shAt_bd h (show k ≤ W.length by omega)
  have h2 := shAt_bd h (show k + 1 ≤ W.length by omega)
  have hx1 : -160000000 ≤ shAt W B k + shAt W B (k + 1) := by omega
  have hx2 : shAt W B k + shAt W B (k + 1) ≤ 160000000 := by omega
  generalize shAt W B k + shAt W B (k + 1) = x at *
  constructor
  · have := Int.mul_le_mul_of_nonneg_left hx1 (show 0 ≤ st by omega); omega
  · have := Int.mul_le_mul_of_nonneg_left hx2 (show 0 ≤ st by omega); omega

theorem beAt_bd {W B : List Int} {st : Int} (h : ShR W B) (hs : 1 ≤ st ∧ st ≤ 100) {k : Nat} (hk : k ≤ W.length) : -640000000000 ≤ beAt W B st k ∧ beAt W B st k ≤ 640000000000 := by
  have := sumTo_abs (f := fun i => st * (shAt W B i + shAt W B (i + 1))) (B := 16000000000) (n := W.length) (fun i hi => beStep_bd h hs hi) k hk
  have := h.len
  unfold beAt
  omega

theorem shAt_succ (W B : List Int) (k : Nat) : shAt W B (k + 1) = shAt W B k + (2 * W.getD k 0 - B.getD k 0) := rfl
theorem beAt_succ (W B : List Int) (st : Int) (k : Nat) : beAt W B st (k + 1) = beAt W B st k + st * (shAt W B k + shAt W B (k + 1)) := rfl
theorem shear_len (W B : List Int) : (shear W B).length ≤ 41 := by
  unfold shear
  split
  · rename_i h; have := (shOk_r h).len; simp; omega
  · simp
theorem bend_len (W B : List Int) (st : Int) : (bend W B st).length ≤ 41 := by
  unfold bend
  split
  · rename_i h; simp only [beOk, Bool.and_eq_true] at h; have := (shOk_r h.1).len; simp; omega
  · simp

end Go.Proofs.Ytkjikjeecjendaa

/- Contracts of l3All and stripsOk, and of both sides' Shear2. -/
namespace Go.Proofs.Ytkjikjeecjendaa
open Go.RowKit

set_option maxHeartbeats 400000 in
theorem l3All_any (v : Value) (xs : List Int) (a b : Int) (w : World) (h : IntsIn w v xs) :
    Calls Try.prog 76 #[v, .int .i64 a, .int .i64 b] w fun e w' => e = .returned (.bool (xs.all fun x => inB x a b)) ∧ w = w' := by
  obtain ⟨ao, cap, rfl, hl, hm, hc⟩ := h
  unfold maxLen at hm
  have HC := hide hc
  clear hc
  go_enter Try.func76, Try.ntmps76
  go_wp2
  go_loopg [7] xs.length (fun g i wr => w = wr ∧ ∃ k : Nat, k ≤ xs.length ∧ g = xs.length - k ∧ i = .int .i64 k ∧ Hid (∀ r, r < k → inB (xs.getD r 0) a b = true))
  case atStart => exact ⟨rfl, 0, Nat.zero_le _, rfl, rfl, fun r hr => by omega⟩
  case round =>
    obtain ⟨rfl, k, hk, rfl, rfl, HD⟩ := hrel
    by_cases hkn : k < xs.length
    · obtain ⟨p, o, rfl, hcell⟩ := unhide HC k hkn
      cases hin : inB (xs.getD k 0) a b with
      | true =>
        have HD' : Hid (∀ r, r < k + 1 → inB (xs.getD r 0) a b = true) := fun r hr => by
          by_cases e : r = k
          · subst e; exact hin
          · exact HD.out r (by omega)
        clear HD
        generalize xs.getD k 0 = x at *
        go_wp2_with (go_at_call 54; refine (l1In_any _ _ _ _).mono ?_; rintro e w' ⟨rfl, rfl⟩)
        go_roundg (xs.length - (k + 1))
        case measure => omega
        case rel => exact ⟨rfl, k + 1, by omega, rfl, by go_num, HD'⟩
      | false =>
        have HF : Hid ((xs.all fun x => inB x a b) = false) := all_false hkn (d := 0) hin
        clear HD
        generalize xs.getD k 0 = x at *
        go_wp2_with (go_at_call 54; refine (l1In_any _ _ _ _).mono ?_; rintro e w' ⟨rfl, rfl⟩)
        go_ret
        exact ⟨ret_bool (unhide HF).symm, rfl⟩
    · have HF : Hid ((xs.all fun x => inB x a b) = true) := all_true (d := 0) (fun r hr => HD.out r (by omega))
      clear HD
      go_wp2
      go_ret
      exact ⟨ret_bool (unhide HF).symm, rfl⟩

/-- The list begins with 0: one cell of the new list is filled. -/
theorem fillS_one (w : World) (f : Nat → Int) (n : Nat) (h0 : f 0 = 0) : FillS w (w.alloc (.cells (madeCells #[.int .i64 0] n) 3)) f n 1 :=
  ⟨(fillS_start w f n).below, (fillS_start w f n).row.congr (fun j _ => by
    by_cases h : j < 1
    · obtain rfl : j = 0 := by omega
      simp [h0]
    · simp [h])⟩

theorem FillS.cell {w wr : World} {f : Nat → Int} {n k j : Nat} (h : FillS w wr f n k) (hj : j < k) (hn : j < n) : wr.cell? ⟨w.heap.size, j, none⟩ = some (.int .i64 (f j)) := by
  have := h.row.cell hn
  rwa [if_pos hj] at this

theorem FillS.cell0 {w wr : World} {f : Nat → Int} {n k : Nat} (h : FillS w wr f n k) (hn : k < n) : wr.cell? ⟨w.heap.size, k, none⟩ = some (.int .i64 0) := by
  have := h.row.cell hn
  rwa [if_neg (by omega)] at this

end Go.Proofs.Ytkjikjeecjendaa

/- The contract of the specification's Shear2. -/
namespace Go.Proofs.Ytkjikjeecjendaa
open Go.RowKit

theorem ownsRow_some {w : World} {base n : Nat} {e : TypeId} {v : Value} {xs : List Value} (h : w.ownsRow base e 1 v (n + 1) xs) : ∃ g cap, v = .slice (some ⟨g, 0, none⟩) (n + 1) cap := by
  obtain ⟨_, h2⟩ := h
  rcases h2 with ⟨_, h0⟩ | ⟨g, cap, cur, rfl, r⟩
  · omega
  · exact ⟨g, cap, rfl⟩

/-- A new list of one number is the call's own. -/
theorem ownsRow_one (w : World) (x : Int) : (w.alloc (.cells #[.int .i64 x] 3)).ownsRow w.heap.size 3 1 (.slice (some ⟨w.heap.size, 0, none⟩) 1 1) 1 (ints [x]) :=
  ⟨rfl, Or.inr ⟨w.heap.size, 1, #[.int .i64 x], rfl, Nat.le_refl _, Go.Deep.blk_alloc_new _ _, Nat.le_refl _, by unfold maxLen; omega, rfl, rfl⟩⟩

end Go.Proofs.Ytkjikjeecjendaa

/- Radios: slots that are heard; contracts of the program's slotsHeard, has, free (atomics by their laws). -/
namespace Go.Proofs.Ytkjikjeecjendaa
open Go.RowKit

/-- The slot of the k-th of those that the radio hears. -/
def slK (L : List Rad) (i k : Nat) : Int := rSl L ((rHe L i).getD k 0).toNat
/-- How many of the first k have the slot s. -/
def cntK (L : List Rad) (i : Nat) (s : Nat) : Nat → Int
  | 0 => 0
  | k + 1 => cntK L i s k + if slK L i k = (s : Int) then 1 else 0
theorem cntK_bd (L : List Rad) (i s k : Nat) : 0 ≤ cntK L i s k ∧ cntK L i s k ≤ k := by
  induction k with
  | zero => exact ⟨by simp [cntK], by simp [cntK]⟩
  | succ k ih => simp only [cntK]; split <;> omega
/-- One that the radio hears has the slot. -/
def Heard (L : List Rad) (i : Nat) (s : Int) : Prop := ∃ k, k < (rHe L i).length ∧ slK L i k = s
theorem cntK_pos (L : List Rad) (i s k : Nat) : 0 < cntK L i s k ↔ ∃ q, q < k ∧ slK L i q = s := by
  induction k with
  | zero => simp [cntK]
  | succ k ih =>
    simp only [cntK]
    have hb := cntK_bd L i s k
    constructor
    · intro h
      by_cases e : slK L i k = s
      · exact ⟨k, by omega, e⟩
      · rw [if_neg e] at h
        obtain ⟨q, h1, h2⟩ := ih.1 (by omega)
        exact ⟨q, by omega, h2⟩
    · rintro ⟨q, h1, h2⟩
      by_cases e : q = k
      · subst e; rw [if_pos h2]; omega
      · have := ih.2 ⟨q, by omega, h2⟩
        split <;> omega
def cnts (L : List Rad) (i k : Nat) : List Int := (List.range 20).map fun s => cntK L i s k
theorem cnts_len (L : List Rad) (i k : Nat) : (cnts L i k).length = 20 := by simp [cnts]
theorem cnts_get (L : List Rad) (i k : Nat) {s : Nat} (h : s < 20) : (cnts L i k).getD s 0 = cntK L i s k := by simp [cnts, List.getD, h]
def e32 (x : Int) : Value := .int .i32 x
theorem cnts_step (L : List Rad) (i k s : Nat) (hs : slK L i k = (s : Int)) : (cnts L i k).set s (cntK L i s k + 1) = cnts L i (k + 1) := by
  apply List.ext_getElem
  · simp [cnts]
  · intro j h1 h2
    simp only [cnts, List.length_set, List.length_map, List.length_range] at h1
    rw [List.getElem_set]
    by_cases e : s = j
    · subst e
      simp [cnts, cntK, hs]
    · have : ¬ slK L i k = (j : Int) := by omega
      simp [cnts, cntK, e, this]
theorem cell32 {w : World} {g : Nat} {M : List Int} {s : Nat} (h : OwnV w g (M.map e32)) (hs : s < M.length) : w.cell? ⟨g, s, none⟩ = some (.int .i32 (M.getD s 0)) := by
  refine h.cell ?_
  simp [e32, List.getD, List.getElem?_eq_getElem hs]

theorem len_le {H : List Int} {i n : Nat} (h : HeOk H i n) : H.length ≤ n := by
  have up : ∀ k, k < H.length → (k : Int) ≤ H.getD k 0 := by
    intro k
    induction k with
    | zero => intro hk; have := (h 0 hk).1; omega
    | succ k ih =>
      intro hk
      have h1 := ih (by omega)
      have h2 := (h (k + 1) hk).2.2.2 (by omega)
      rw [Nat.add_sub_cancel] at h2
      omega
  rcases Nat.eq_zero_or_pos H.length with h0 | h0
  · omega
  · have h1 := up (H.length - 1) (by omega)
    have h2 := (h (H.length - 1) (by omega)).2.1
    omega

set_option maxHeartbeats 800000 in
theorem add32_any (g s : Nat) (M : List Int) (w : World) (h : OwnV w g (M.map e32)) (hs : s < M.length) (hb0 : 0 ≤ M.getD s 0) (hb1 : M.getD s 0 ≤ 1000000) :
    Calls Try.prog 82 #[.pointer (some ⟨g, s, none⟩), .int .i32 1] w fun e w' => e = .returned (.int .i32 (M.getD s 0 + 1)) ∧ OwnV w' g ((M.set s (M.getD s 0 + 1)).map e32) ∧ Kept (fun b => b = g) w w' := by
  have hc := cell32 h hs
  have hz := h.frozen s
  have hN := h.set s (e32 (M.getD s 0 + 1)) (by rw [List.length_map]; exact hs)
  rw [← List.map_set] at hN
  have HK := hide ((Kept.refl (fun b => b = g) w).setCell (p := ⟨g, s, none⟩) rfl (.int .i32 (M.getD s 0 + 1)))
  have HN := hide hN
  unfold e32 at HN
  generalize M.getD s 0 = x at *
  have hadd := run_call_add (P := Try.prog) Try.func90 (by kernel_rfl) (by kernel_rfl) (by kernel_rfl) .i32 (by kernel_rfl) (y := 1) (s := x + 1) hc hz (by
    have : IntKind.i32.wrap (x + 1) = x + 1 := by rw [IntKind.wrap_i32]; omega
    simp [go_sem, this])
  clear hN h
  go_enter Try.func82, Try.ntmps82
  go_wp2
  go_ret
  exact ⟨rfl, unhide HN, unhide HK⟩

set_option maxHeartbeats 800000 in
theorem load32_any (g s : Nat) (x : Int) (w : World) (hc : w.cell? ⟨g, s, none⟩ = some (.int .i32 x)) :
    Calls Try.prog 83 #[.pointer (some ⟨g, s, none⟩)] w fun e w' => e = .returned (.int .i32 x) ∧ w' = w := by
  have hload := run_call_load (P := Try.prog) Try.func91 (by kernel_rfl) (by kernel_rfl) (by kernel_rfl) .i32 (by kernel_rfl) hc
  go_enter Try.func83, Try.ntmps83
  go_wp2
  go_ret
  exact ⟨rfl, rfl⟩

set_option maxHeartbeats 800000 in
theorem has_any (g s : Nat) (M : List Int) (w : World) (h : OwnV w g (M.map e32)) (hl : M.length = 20) (hs : s < 20) :
    Calls Try.prog 62 #[.pointer (some ⟨g, 0, none⟩), .int .i64 s] w fun e w' => e = .returned (.bool (decide (0 < M.getD s 0))) ∧ w' = w := by
  have hc := cell32 h (s := s) (by omega)
  generalize M.getD s 0 = x at *
  have HL := hide (load32_any g s x w hc)
  clear h hl hc
  go_enter Try.func62, Try.ntmps62
  go_wp2_with fail
  refine (unhide HL).mono ?_
  rintro e w' ⟨rfl, h9⟩
  have h8 := h9.symm
  subst h8
  clear h9
  go_wp2
  go_ret
  exact ⟨rfl, rfl⟩

end Go.Proofs.Ytkjikjeecjendaa

/- How a whole row of records is copied into a row of the call's own. No statement about the program stands here. -/
namespace Go.Proofs.Ytkjikjeecjendaa
open Go.RowKit

theorem run_copy_k {P : Program} (w : World) (dT sT ty elem : TypeId) (k : Nat) (g n dCap : Nat) (a : Addr) (sCap : Nat) (cur : Array Value) (t : TypeId) (cs : List Value)
    (hu : P.underlying dT = some (.slice elem)) (hs : (P.info? elem).map (·.size) = some k)
    (hg : w.heap[g]? = some (.cells cur t (0, 0))) (hn : cs.length = n * k)
    (hsrc : ∀ j v, cs[j]? = some v → w.cell? (a.add j) = some v) (hfit : cs.length ≤ cur.size) (h1 : ∀ v ∈ cs, v.oneCell' = true) :
    (Builtin.copy_ #[dT, sT] ty #[.slice (some ⟨g, 0, none⟩) n dCap, .slice (some a) n sCap]).run P w =
      .ok (goInt n) (w.setRow g (cs ++ cur.toList.drop cs.length).toArray) := by
  have hl := run_loadCells_list (P := P) w a cs hsrc
  have hst := run_storeCells_at P g 0 t cs 0 cur w hg (by simpa using hfit) h1
  simp only [Nat.zero_add, List.take_zero, List.nil_append] at hst
  cases hq : P.info? elem with
  | none => simp [hq] at hs
  | some i =>
    have hi : i.size = k := by simpa [hq] using hs
    have hmin : Nat.min n n = n := Nat.min_self n
    simp [Builtin.copy_, run_underlying hu, Builtin.lenOf, Builtin.firstCells, sizeOf, typeInfo, hq, hi, ← hn, hl, hst]

theorem run_copy_k0 {P : Program} (w : World) (dT sT ty elem : TypeId) (k : Nat) (d a : Option Addr) (dCap sCap : Nat) (hu : P.underlying dT = some (.slice elem)) (hs : (P.info? elem).map (·.size) = some k) :
    (Builtin.copy_ #[dT, sT] ty #[.slice d 0 dCap, .slice a 0 sCap]).run P w = .ok (goInt 0) w := by
  cases hq : P.info? elem with
  | none => simp [hq] at hs
  | some i =>
    have hl : ∀ (x : Addr), (loadCells x 0).run P w = .ok #[] w := fun x => by simpa using run_loadCells_list (P := P) w x [] (by simp)
    cases d <;> cases a <;> simp [Builtin.copy_, run_underlying hu, Builtin.lenOf, Builtin.firstCells, sizeOf, typeInfo, hq, storeCells, hl]

theorem below_setRow' {B g : Nat} {w0 w : World} (hb : Below B w0 w) (hBg : B ≤ g) (cs : Array Value) : Below B w0 (w.setRow g cs) :=
  hb.trans ⟨rfl, rfl, rfl, by simp [World.setRow], fun k hk => setRow_other w g k cs (by omega)⟩

theorem ownV_fits {w : World} {g : Nat} {zs : List Value} (h : OwnV w g zs) : ∃ c t, w.heap[g]? = some (.cells c t (0, 0)) ∧ zs.length ≤ c.size := by
  obtain ⟨c, t, h1, h2⟩ := h
  refine ⟨c, t, h1, ?_⟩
  rcases Nat.eq_zero_or_pos zs.length with e | e
  · omega
  · have := h2 (zs.length - 1) (by omega)
    rw [List.getElem?_eq_getElem (by omega)] at this
    have := (Array.getElem?_eq_some_iff.1 this).1
    omega

theorem run_copy_all {P : Program} {w : World} (dT sT elem : TypeId) (k : Nat) (hu : P.underlying dT = some (.slice elem)) (hsz : (P.info? elem).map (·.size) = some k)
    (g n dCap : Nat) (sp : Option Addr) (sCap : Nat)
    (zs cs : List Value) (hO : OwnV w g zs) (hz : zs.length = cs.length) (hn : cs.length = n * k)
    (hsrc : 0 < n → ∃ ad, sp = some ad ∧ ∀ j v, cs[j]? = some v → w.cell? (ad.add j) = some v) (h1 : ∀ v ∈ cs, v.oneCell' = true)
    (B : Nat) (w0 : World) (hb : Below B w0 w) (hBg : B ≤ g) :
    ∃ w', (∀ ty, (Builtin.copy_ #[dT, sT] ty #[.slice (some ⟨g, 0, none⟩) n dCap, .slice sp n sCap]).run P w = .ok (goInt n) w') ∧ OwnV w' g cs ∧ Below B w0 w' := by
  rcases Nat.eq_zero_or_pos n with h0 | hpos
  · subst h0
    have hc0 : cs = [] := List.eq_nil_of_length_eq_zero (by rw [hn, Nat.zero_mul])
    subst hc0
    obtain ⟨c, t, hg, _⟩ := hO
    exact ⟨w, fun ty => run_copy_k0 (P := P) w dT sT ty elem k (some ⟨g, 0, none⟩) sp dCap sCap hu hsz, ⟨c, t, hg, fun i hi => by simp at hi⟩, hb⟩
  · obtain ⟨c, t, hg, hc⟩ := ownV_fits hO
    obtain ⟨ad, rfl, hsr⟩ := hsrc hpos
    refine ⟨_, fun ty => run_copy_k (P := P) w dT sT ty elem k g n dCap ad sCap c t cs hu hsz hg hn hsr (by omega) h1, ⟨_, t, setRow_heap w g _ _ t _ hg, fun i hi => ?_⟩, below_setRow' hb hBg _⟩
    simp [List.getElem?_append_left hi]

/-- The cells of a list of records that came in. -/
theorem recs_src {α : Type} [Inhabited α] {n : Nat} {enc : α → Nat → Value} {w : World} {ao : Option Addr} {m cap : Nat} {L : List α} (h : RecsIn n enc w (.slice ao m cap) L) :
    0 < m → ∃ ad, ao = some ad ∧ ∀ j v, (recCells n enc L)[j]? = some v → w.cell? (ad.add j) = some v := by
  obtain ⟨ao', cap', e, hl, hm, hc⟩ := h
  simp only [Value.slice.injEq] at e
  obtain ⟨rfl, rfl, rfl⟩ := e
  intro hpos
  obtain ⟨b, o, e, hx⟩ := hc 0 hpos
  subst e
  refine ⟨_, rfl, fun j v hj => ?_⟩
  have hjl : j < L.length * n := by
    rcases Nat.lt_or_ge j (L.length * n) with h | h
    · exact h
    · rw [List.getElem?_eq_none (by rw [recCells_length]; exact h)] at hj; cases hj
  have hn0 : 0 < n := by
    rcases Nat.eq_zero_or_pos n with e | e
    · subst e; simp at hjl
    · exact e
  have hi : j / n < L.length := Nat.div_lt_of_lt_mul (by rw [Nat.mul_comm]; exact hjl)
  obtain ⟨b', o', e', hx'⟩ := hc (j / n) hi
  simp only [Option.some.injEq, Addr.mk.injEq, and_true] at e'
  obtain ⟨rfl, rfl⟩ := e'
  have hg := hx' (j % n) (Nat.mod_lt _ hn0)
  have hj2 := recCells_get (n := n) (enc := enc) hi (Nat.mod_lt j hn0)
  have hdm : j / n * n + j % n = j := by rw [Nat.mul_comm]; exact Nat.div_add_mod j n
  rw [hdm] at hg hj2
  rw [hj2] at hj
  have hadd : (⟨b, o, none⟩ : Addr).add j = ⟨b, o + j, none⟩ := by unfold Addr.add; split <;> simp_all
  rw [hadd, hg, hj]

theorem ints_src {w : World} {ao : Option Addr} {m cap : Nat} {xs : List Int} (h : IntsIn w (.slice ao m cap) xs) :
    0 < m → ∃ ad, ao = some ad ∧ ∀ j v, (ints xs)[j]? = some v → w.cell? (ad.add j) = some v := by
  obtain ⟨ao', cap', e, hl, hm, hc⟩ := h
  simp only [Value.slice.injEq] at e
  obtain ⟨rfl, rfl, rfl⟩ := e
  intro hpos
  obtain ⟨b, o, e, hx⟩ := hc 0 hpos
  subst e
  refine ⟨_, rfl, fun j v hj => ?_⟩
  have hjl : j < xs.length := by
    rcases Nat.lt_or_ge j xs.length with h | h
    · exact h
    · rw [List.getElem?_eq_none (by rw [ints_length]; exact h)] at hj; cases hj
  obtain ⟨b', o', e', hx'⟩ := hc j hjl
  simp only [Option.some.injEq, Addr.mk.injEq, and_true] at e'
  obtain ⟨rfl, rfl⟩ := e'
  have hadd : (⟨b, o, none⟩ : Addr).add j = ⟨b, o + j, none⟩ := by unfold Addr.add; split <;> simp_all
  rw [hadd, hx', ← hj, ints_get xs hjl]

end Go.Proofs.Ytkjikjeecjendaa

/- The contract of the program's ownCopy of Int. -/
namespace Go.Proofs.Ytkjikjeecjendaa
open Go.RowKit

set_option maxRecDepth 10000 in
theorem Try.infoIntCp : (Try.prog.info? 3).map (fun i => (i.zero, i.size, i.bytes)) = some (some (Value.int .i64 0), 1, 8) := by kernel_rfl

set_option maxHeartbeats 1600000 in
theorem ownCopyInt_any (ar : Option Addr) (m cr : Nat) (xs : List Int) (w : World) (h : IntsIn w (.slice ar m cr) xs) (hm : m ≤ 1048576) :
    Calls Try.prog 85 #[.slice ar m cr] w fun e w' => e = .returned (.slice (some ⟨w.heap.size, 0, none⟩) m m) ∧ OwnV w' w.heap.size (ints xs) ∧ Below w.heap.size w w' := by
  have hlen : xs.length = m := by
    obtain ⟨ao', cap', e, _⟩ := h
    simp only [Value.slice.injEq] at e
    exact e.2.1.symm
  have hmk := run_make_row' (P := Try.prog) 34 3 (.int .i64 0) 8 Try.underlying34 Try.infoIntCp rfl .i64 .i64 m (by omega) (by omega)
  obtain ⟨Z, eZ⟩ : ∃ Z, Z = #[Value.int .i64 0] := ⟨_, rfl⟩
  rw [← eZ] at hmk
  have hsz : (Try.prog.info? 3).map (·.size) = some 1 := by
    obtain ⟨i0, hi, -, hz1, -⟩ := info_parts Try.infoIntCp
    rw [hi, Option.map_some, hz1]
  have HSRC := hide (ints_src h)
  have HCS : Hid (((ints xs)).length = m) := by show _ = _; rw [ints_length, hlen]
  have H1 : Hid (∀ v ∈ (ints xs), v.oneCell' = true) := fun v hv => by
    obtain ⟨x, _, rfl⟩ := List.mem_map.1 hv; rfl
  have A := Below.alloc1 w (.cells (madeCells Z m) 3)
  have HW := hide A
  have O := ownV_alloc w (madeCells Z m) 3
  have HO := hide O
  have hzl : (madeCells Z m).toList.length = m := by simp [madeCells]
  have HZL := hide hzl
  have HSRC2 : Hid (0 < m → ∃ ad, ar = some ad ∧ ∀ j v, ((ints xs))[j]? = some v → (w.alloc (.cells (madeCells Z m) 3)).cell? (ad.add j) = some v) := fun hp => by
    obtain ⟨ad, e, hx⟩ := unhide HSRC hp
    exact ⟨ad, e, fun j v hj => ((A.cell (lt_of_cell (hx j v hj))).trans (hx j v hj))⟩
  obtain ⟨w1, hrun, hO1, hb1⟩ := run_copy_all 34 34 3 1 Try.underlying34 hsz w.heap.size m m ar cr _ _ (unhide HO) (by rw [unhide HZL, unhide HCS]) (by rw [Nat.mul_one]; exact unhide HCS) (unhide HSRC2) (unhide H1) w.heap.size w (unhide HW) (Nat.le_refl _)
  have HO1 := hide hO1
  have HW1 := hide hb1
  clear h eZ A O hzl HSRC hsz HO HW HSRC2 H1 HCS HZL hO1 hb1 hlen
  go_enter Try.func85, Try.ntmps85
  go_wp2
  go_ret
  exact ⟨rfl, unhide HO1, unhide HW1⟩

end Go.Proofs.Ytkjikjeecjendaa

/- Radios: contracts of the program's slotsHeard, free. -/
namespace Go.Proofs.Ytkjikjeecjendaa
open Go.RowKit

theorem kept_cell {T : Nat → Prop} {w w' : World} {b o : Nat} {v : Value} (hk : Kept T w w') (hc : w.cell? ⟨b, o, none⟩ = some v) (hT : ¬ T b) : w'.cell? ⟨b, o, none⟩ = some v :=
  (World.cell?_of_block (w := w) (a := ⟨b, o, none⟩) (hk.block b (lt_of_cell hc) hT)).trans hc
theorem Kept.drewL {T : Nat → Prop} {w w' : World} (hk : Kept T w.drew w') : Kept T w w' := ⟨hk.os, hk.tape, hk.output, hk.size, hk.block⟩
theorem zero20 (L : List Rad) (i : Nat) : (#[.int .i32 0, .int .i32 0, .int .i32 0, .int .i32 0, .int .i32 0, .int .i32 0, .int .i32 0, .int .i32 0, .int .i32 0, .int .i32 0, .int .i32 0, .int .i32 0, .int .i32 0, .int .i32 0, .int .i32 0, .int .i32 0, .int .i32 0, .int .i32 0, .int .i32 0, .int .i32 0] : Array Value).toList = (cnts L i 0).map e32 := rfl

set_option maxRecDepth 10000 in
set_option maxHeartbeats 1600000 in
theorem slotsHeard_any (v : Value) (L : List Rad) (i : Nat) (w : World) (h : RadsIn w v L) (hok : RadsOk L) (hi : i < L.length) :
    Calls Try.prog 61 #[v, .int .i64 i] w fun e w' => ∃ g, e = .returned (.pointer (some ⟨g, 0, none⟩)) ∧ w.heap.size ≤ g ∧ OwnV w' g ((cnts L i (rHe L i).length).map e32) ∧ Below w.heap.size w w' := by
  obtain ⟨ao, cap, rfl, hl, hm, hc⟩ := h
  unfold maxLen at hm
  have HC := hide hc
  have HOK := hide hok
  clear hc hok
  obtain ⟨b, o, na, nc, id, sl, H, m, rfl, hc0, hc1, hc2, hr, EX, EM, hm0⟩ := radAt (unhide HC) hi
  have hii : (i : Int) < L.length := by omega
  have E3 : Hid (rHe L i = H) := by show (L.getD i default).2.2 = H; rw [unhide EX]
  have hm24 : m ≤ 24 := by
    have h1 := len_le ((unhide HOK).2.2.1 i hi).2.2
    rw [unhide E3, unhide EM] at h1
    have := (unhide HOK).2.1
    omega
  have HR := hide hr
  have hA := Below.alloc1 w (.cells #[.int .i32 0, .int .i32 0, .int .i32 0, .int .i32 0, .int .i32 0, .int .i32 0, .int .i32 0, .int .i32 0, .int .i32 0, .int .i32 0, .int .i32 0, .int .i32 0, .int .i32 0, .int .i32 0, .int .i32 0, .int .i32 0, .int .i32 0, .int .i32 0, .int .i32 0, .int .i32 0] 105)
  have hO := ownV_alloc w #[.int .i32 0, .int .i32 0, .int .i32 0, .int .i32 0, .int .i32 0, .int .i32 0, .int .i32 0, .int .i32 0, .int .i32 0, .int .i32 0, .int .i32 0, .int .i32 0, .int .i32 0, .int .i32 0, .int .i32 0, .int .i32 0, .int .i32 0, .int .i32 0, .int .i32 0, .int .i32 0] 105
  rw [zero20 L i] at hO
  have g2 := wcell3 hc2 hA
  have HB := hide hA
  have HO := hide hO
  rw [unhide E3, unhide EM]
  clear hc0 hc1 hc2 hr hA hO
  generalize hV : w.alloc (.cells #[.int .i32 0, .int .i32 0, .int .i32 0, .int .i32 0, .int .i32 0, .int .i32 0, .int .i32 0, .int .i32 0, .int .i32 0, .int .i32 0, .int .i32 0, .int .i32 0, .int .i32 0, .int .i32 0, .int .i32 0, .int .i32 0, .int .i32 0, .int .i32 0, .int .i32 0, .int .i32 0] 105) = V at HB HO g2
  go_enter Try.func61, Try.ntmps61
  go_wp2
  clear hV g2
  go_loopg [15] m (fun g kv wr => ∃ k : Nat, k ≤ m ∧ g = m - k ∧ kv = .int .i64 k ∧ Below w.heap.size w wr ∧ OwnV wr w.heap.size ((cnts L i k).map e32))
  case atStart => exact ⟨0, Nat.zero_le _, rfl, rfl, unhide HB, unhide HO⟩
  case round =>
    obtain ⟨k, hk, rfl, rfl, hW, hO⟩ := hrel
    clear HB HO
    by_cases hkm : k < m
    · obtain ⟨b', o', rfl, hcell⟩ := intAt (unhide HR) hkm
      have c0 := wcell3 hcell hW
      have hkm' : (k : Int) < m := by omega
      have hHe : HeAt H i L.length k := by
        have := ((unhide HOK).2.2.1 i hi).2.2
        rw [unhide E3] at this
        exact this k (by rw [unhide EM]; exact hkm)
      obtain ⟨hx0, hx1, -, -⟩ := hHe
      have ES : slK L i k = rSl L (H.getD k 0).toNat := by unfold slK; rw [unhide E3]
      obtain ⟨x, hx⟩ : ∃ x : Nat, H.getD k 0 = (x : Int) := ⟨(H.getD k 0).toNat, by omega⟩
      rw [hx] at c0 hx0 hx1 ES
      rw [Int.toNat_natCast] at ES
      have hxl : x < L.length := by omega
      obtain ⟨b2, o2, na2, nc2, id2, sl2, H2, m2, e2, hd0, hd1, hd2, hr2, EX2, EM2, hm2⟩ := radAt (unhide HC) hxl
      simp only [Option.some.injEq, Addr.mk.injEq, and_true] at e2
      obtain ⟨rfl, rfl⟩ := e2
      have q1 := wcell3 hd1 hW
      have hsl := ((unhide HOK).2.2.1 x hxl).2.1
      have esl : rSl L x = sl2 := by show (L.getD x default).2.1 = sl2; rw [unhide EX2]
      unfold SlOk at hsl
      rw [esl] at hsl ES
      obtain ⟨hs0, hs1⟩ := hsl
      obtain ⟨s, hs⟩ : ∃ s : Nat, sl2 = (s : Int) := ⟨sl2.toNat, by omega⟩
      subst hs
      have hs20 : s < 20 := by omega
      have hbd := cntK_bd L i s k
      have HAD := hide fun W (hW : OwnV W w.heap.size ((cnts L i k).map e32)) => add32_any w.heap.size s (cnts L i k) W hW (by rw [cnts_len]; exact hs20) (by rw [cnts_get L i k hs20]; exact hbd.1) (by rw [cnts_get L i k hs20]; omega)
      rw [cnts_get L i k hs20, cnts_step L i k s ES] at HAD
      have HW := hide hW
      have HO := hide hO
      have hs20' : (s : Int) < 20 := by omega
      have hbl : ¬ b = w.heap.size := by have := lt_of_cell hd1; simp only at this; omega
      clear hcell hd0 hd1 hd2 hr2 hW hO hx hbd ES esl
      go_wp2
      go_region_held3 (fun z => z.cell? ⟨b, o + x * 3 + 1, none⟩ = some (.int .i64 (s : Int))) (go_keep) (first | (go_at_call 82; refine (unhide HAD _ (unhide HO).drew).mono ?_; rintro e w3 ⟨rfl, ho3, hk3⟩; have f1 := kept_cell hk3 (w := wr.drew) q1 hbl; have HO3 := hide ho3; have HB3 := hide (Below.trans (unhide HW) ((Kept.drewL hk3).below (B := w.heap.size) (unhide HW).size (fun b e => by omega))); clear ho3 hk3))
      go_wp2
      go_roundg (m - (k + 1))
      case measure => omega
      case rel => exact ⟨k + 1, by omega, rfl, by go_num, unhide HB3, unhide HO3⟩
    · have hkk : k = m := by omega
      subst hkk
      have HW := hide hW
      have HO := hide hO
      clear hW hO
      go_wp2
      go_ret
      exact ⟨_, rfl, Nat.le_refl _, unhide HO, unhide HW⟩

theorem own_told1 {A : World} {B : Nat} {ov : Value} {M N : List Int} {k : Nat} (h : A.ownsRow B 3 1 ov k (ints M)) (e : M = N) : ∃ a n cp, ov = .slice a n cp ∧ OwnSl B A (.slice a n cp) N := by
  subst e
  have hk : k = M.length := by have := h.1; simp [ints] at this; omega
  subst hk
  have ho := (ownsRow_ownSl h).1
  obtain ⟨a, cp, ev, h1, h2, h3⟩ := ho
  subst ev
  exact ⟨a, _, cp, rfl, a, cp, rfl, h1, h2, h3⟩

/-- The slots from 0 to s that none has. -/
noncomputable def freeU (L : List Rad) (i : Nat) : Nat → List Int
  | 0 => []
  | s + 1 => freeU L i s ++ if pB (Heard L i (s : Int)) then [] else [(s : Int)]
noncomputable def freeL (L : List Rad) (i : Nat) : List Int := freeU L i 20
theorem freeU_len (L : List Rad) (i s : Nat) : (freeU L i s).length ≤ s := by
  induction s with
  | zero => simp [freeU]
  | succ s ih => simp only [freeU, List.length_append]; split <;> simp <;> omega
theorem heard_cnt (L : List Rad) (i s : Nat) : decide (0 < cntK L i s (rHe L i).length) = pB (Heard L i (s : Int)) := by
  cases h : pB (Heard L i (s : Int)) with
  | true => rw [decide_eq_true_eq, cntK_pos]; exact of_pB h
  | false => rw [decide_eq_false_iff_not, cntK_pos]; exact not_pB h

set_option maxRecDepth 10000 in
set_option maxHeartbeats 1600000 in
theorem free_any (g : Nat) (L : List Rad) (i : Nat) (w : World) (h : OwnV w g ((cnts L i (rHe L i).length).map e32)) :
    Calls Try.prog 69 #[.pointer (some ⟨g, 0, none⟩)] w fun e w' => ∃ a n cp, e = .returned (.slice a n cp) ∧ OwnSl w.heap.size w' (.slice a n cp) (freeL L i) ∧ Below w.heap.size w w' := by
  obtain ⟨i0, hinf, hzz⟩ := Option.map_eq_some_iff.1 Try.infoIntCp
  simp only [Prod.mk.injEq] at hzz
  obtain ⟨hz0, hz1, hz2⟩ := hzz
  have HO := hide h
  clear h
  unfold freeL
  go_enter Try.func69, Try.ntmps69
  go_wp2
  go_loopg [3, 5] 20 (fun gg ov sv wr => ∃ s : Nat, s ≤ 20 ∧ gg = 20 - s ∧ sv = .int .i64 s ∧ Below w.heap.size w wr ∧ (∃ a n cp, ov = .slice a n cp) ∧ Hid (wr.ownsRow w.heap.size 3 1 ov (freeU L i s).length (ints (freeU L i s))))
  case atStart => exact ⟨0, Nat.zero_le _, rfl, rfl, Below.refl _ _, ⟨_, _, _, rfl⟩, World.ownsRow_nil _ _ _ _⟩
  case round =>
    obtain ⟨s, hs, rfl, rfl, hW, ⟨a, n, cp, rfl⟩, HR⟩ := hrel
    by_cases hs20 : s < 20
    · have HH := hide (has_any g s (cnts L i (rHe L i).length) wr ((unhide HO).step hW) (cnts_len _ _ _) hs20)
      rw [cnts_get _ _ _ hs20, heard_cnt] at HH
      have hfl := freeU_len L i s
      have HW := hide hW
      have hsz := hW.size
      cases hq : pB (Heard L i (s : Int)) with
      | true =>
        have EF : Hid (freeU L i (s + 1) = freeU L i s) := by show _ = _; simp [freeU, hq]
        rw [hq] at HH
        clear hq hW
        go_wp2_with fail
        refine (unhide HH).mono ?_
        rintro e w2 ⟨rfl, h9⟩
        have h8 := h9.symm
        subst h8
        clear h9
        go_wp2
        go_roundg (20 - (s + 1))
        case measure => omega
        case rel => exact ⟨s + 1, by omega, rfl, by go_num, unhide HW, ⟨_, _, _, rfl⟩, by rw [unhide EF]; exact HR⟩
      | false =>
        have EF : Hid (freeU L i (s + 1) = freeU L i s ++ [(s : Int)]) := by show _ = _; simp [freeU, hq]
        rw [hq] at HH
        clear hq hW
        have HR2 := hide (ownsRow_below (unhide HR) (Below.alloc1 wr (.cells #[.int .i64 s] 3)))
        go_wp2_with fail
        refine (unhide HH).mono ?_
        rintro e w2 ⟨rfl, h9⟩
        have h8 := h9.symm
        subst h8
        clear h9
        go_wp2_with (at_builtin; refine wpList_append_lies _ rfl _ _ 34 rfl w.heap.size 3 i0 _ 1 8 Try.underlying34 hinf hz0 hz1 hz2 rfl (by decide) _ (freeU L i s).length _ rfl (unhide HR2) ⟨wr.heap.size, 0, none⟩ 1 1 [.int .i64 s] rfl rfl (cell_one_new _ _ _) (by simp [Value.oneCell']) (by omega) (by unfold maxLen; omega) (by omega) (by simp; omega) _ rfl ?_; intro g4 cap4 wa hown hgrow hat hlt4; have HWa := hide ((Below.step (unhide HW) (Below.alloc1 wr (.cells #[.int .i64 s] 3))).grown hgrow (by simp; omega) (fun g hg => ((unhide HR).lt g hg).1)); have HOW := hide hown; clear hown hgrow hat)
        go_roundg (20 - (s + 1))
        case measure => omega
        case rel => exact ⟨s + 1, by omega, rfl, by go_num, unhide HWa, ⟨_, _, _, rfl⟩, by rw [unhide EF, List.length_append]; exact hide (by have := unhide HOW; simpa [ints] using this)⟩
    · have hss : s = 20 := by omega
      subst hss
      have HW := hide hW
      clear hW
      go_wp2
      go_ret
      obtain ⟨a', n', cp', e', hsl⟩ := own_told1 (unhide HR) rfl
      exact ⟨_, _, _, by rw [e']; rfl, hsl, unhide HW⟩

end Go.Proofs.Ytkjikjeecjendaa

/- Radios: contracts of the program's Clashes, Choose. -/
namespace Go.Proofs.Ytkjikjeecjendaa
open Go.RowKit

/-- The places below i that have the slot of one that they hear. -/
noncomputable def clashU (L : List Rad) : Nat → List Int
  | 0 => []
  | i + 1 => clashU L i ++ if pB (Heard L i (rSl L i)) then [(i : Int)] else []
noncomputable def clashL (L : List Rad) : List Int := if radsB L then clashU L L.length else []
theorem clashU_len (L : List Rad) (i : Nat) : (clashU L i).length ≤ i := by
  induction i with
  | zero => simp [clashU]
  | succ i ih => simp only [clashU, List.length_append]; split <;> simp <;> omega
theorem clashL_len (L : List Rad) : (clashL L).length ≤ 24 := by
  unfold clashL
  split
  · rename_i h
    have := clashU_len L L.length
    have := (of_pB (p := RadsOk L) h).2.1
    omega
  · simp
theorem clashL_no {L : List Rad} (h : radsB L = false) : clashL L = [] := by unfold clashL; rw [h]; rfl
theorem clashL_yes {L : List Rad} (h : radsB L = true) : clashL L = clashU L L.length := by unfold clashL; rw [h]; rfl
theorem clashU_yes {L : List Rad} {i : Nat} (h : pB (Heard L i (rSl L i)) = true) : clashU L (i + 1) = clashU L i ++ [(i : Int)] := by simp [clashU, h]
theorem clashU_no {L : List Rad} {i : Nat} (h : pB (Heard L i (rSl L i)) = false) : clashU L (i + 1) = clashU L i := by simp [clashU, h]

theorem Below.drewL {w w' : World} (h : Below w.drew.heap.size w.drew w') : Below w.heap.size w w' := ⟨h.os, h.tape, h.output, h.size, h.block⟩

set_option maxRecDepth 10000 in
set_option maxHeartbeats 3200000 in
theorem implClashes_any (v : Value) (L : List Rad) (w : World) (h : RadsIn w v L) :
    Calls Try.prog 21 #[v] w fun e w' => ∃ a n cp, e = .returned (.slice a n cp) ∧ OwnSl w.heap.size w' (.slice a n cp) (clashL L) ∧ Below w.heap.size w w' := by
  obtain ⟨i0, hinf, hzz⟩ := Option.map_eq_some_iff.1 Try.infoIntCp
  simp only [Prod.mk.injEq] at hzz
  obtain ⟨hz0, hz1, hz2⟩ := hzz
  have HV := hide h
  have HOKC := hide (implRadiosOk_any v L w h)
  obtain ⟨ao, cap, rfl, hl, hm, hc⟩ := h
  unfold maxLen at hm
  have HC := hide hc
  clear hc
  cases hrb : radsB L with
  | false =>
    have EC := hide (clashL_no hrb)
    rw [hrb] at HOKC
    clear hrb
    go_enter Try.func21, Try.ntmps21
    go_wp2_with fail
    refine (unhide HOKC).mono ?_
    rintro e w1 ⟨rfl, hb⟩
    have HB := hide hb
    clear hb
    go_wp2
    go_ret
    exact ⟨none, 0, 0, rfl, by rw [unhide EC]; exact ⟨none, 0, rfl, Nat.le_refl _, Nat.zero_le _, fun h => absurd rfl h⟩, unhide HB⟩
  | true =>
  have EC := hide (clashL_yes hrb)
  have HOK := hide (of_pB (p := RadsOk L) hrb)
  have hn24 := (unhide HOK).2.1
  rw [hrb] at HOKC
  clear hrb
  go_enter Try.func21, Try.ntmps21
  go_wp2_with fail
  refine (unhide HOKC).mono ?_
  rintro e w1 ⟨rfl, hb⟩
  have HB := hide hb
  clear hb HOKC
  go_wp2
  go_loopg [3, 11] L.length (fun gg ov iv wr => ∃ i : Nat, i ≤ L.length ∧ gg = L.length - i ∧ iv = .int .i64 i ∧ Below w.heap.size w wr ∧ (∃ a n cp, ov = .slice a n cp) ∧ Hid (wr.ownsRow w.heap.size 3 1 ov (clashU L i).length (ints (clashU L i))))
  case atStart => exact ⟨0, Nat.zero_le _, rfl, rfl, unhide HB, ⟨_, _, _, rfl⟩, World.ownsRow_nil _ _ _ _⟩
  case round =>
    obtain ⟨i, hi, rfl, rfl, hW, ⟨a, n, cp, rfl⟩, HR⟩ := hrel
    clear HB
    by_cases hin : i < L.length
    · obtain ⟨b, o, na, nc, id, sl, H, m, rfl, hc0, hc1, hc2, hr, EX, EM, hm0⟩ := radAt (unhide HC) hin
      have g0 := wcell3 hc0 hW
      have g1 := wcell3 hc1 hW
      have g2 := wcell3 hc2 hW
      have hii : (i : Int) < L.length := by omega
      have esl : rSl L i = sl := by show (L.getD i default).2.1 = sl; rw [unhide EX]
      have hsl := ((unhide HOK).2.2.1 i hin).2.1
      unfold SlOk at hsl
      rw [esl] at hsl
      obtain ⟨s, hs⟩ : ∃ s : Nat, sl = (s : Int) := ⟨sl.toNat, by omega⟩
      rw [hs] at g1 esl
      have hs20 : s < 20 := by omega
      have hA := Below.alloc1 wr (.cells #[.int .i64 id, .int .i64 (s : Int), .slice na m nc] 45)
      have HOX := hide (ownV_alloc wr #[.int .i64 id, .int .i64 (s : Int), .slice na m nc] 45)
      have HW := hide (Below.step hW hA)
      have hWs := hW.size
      have HR1 := hide (ownsRow_below (unhide HR) hA)
      have HSH := hide fun W (hW : Below w.heap.size w W) => slotsHeard_any _ L i W ((unhide HV).below hW) (unhide HOK) hin
      have HHS := hide fun g W (hW : OwnV W g ((cnts L i (rHe L i).length).map e32)) => has_any g s _ W hW (cnts_len _ _ _) hs20
      rw [cnts_get _ _ _ hs20, heard_cnt, show pB (Heard L i (s : Int)) = pB (Heard L i (rSl L i)) from by rw [esl]] at HHS
      have EY := hide fun h => clashU_yes (L := L) (i := i) h
      have EN := hide fun h => clashU_no (L := L) (i := i) h
      have hfl := clashU_len L i
      generalize pB (Heard L i (rSl L i)) = B at HHS EY EN
      obtain ⟨V, hV⟩ : ∃ V, V = wr.alloc (.cells #[.int .i64 id, .int .i64 (s : Int), .slice na m nc] 45) := ⟨_, rfl⟩
      rw [← hV] at HOX HW HR1
      have cs := (unhide HOX).cell (i := 1) rfl
      have hV' := hV.symm
      clear hc0 hc1 hc2 hr hW hA hs hsl esl hV HR
      go_wp2
      clear hV' g0 g1 g2
      go_region_held3 (fun z => z.cell? ⟨wr.heap.size, 1, none⟩ = some (.int .i64 (s : Int))) (go_keep) (first
        | (go_at_call 61; refine (unhide HSH _ (Below.drew (unhide HW))).mono ?_; rintro e w3 ⟨gc, rfl, hgc, ho3, hb3⟩; replace hb3 := Below.drewL hb3; have f1 := wcell3 cs hb3; have HO3 := hide ho3; have HB3 := hide (Below.step (unhide HW) hb3); have HR3 := hide (ownsRow_below (unhide HR1) hb3); clear ho3 hb3)
        | (go_at_call 62; refine (unhide HHS _ _ (unhide HO3)).mono ?_; rintro e w4 ⟨rfl, h9⟩; have h8 := h9.symm; subst h8; clear h9))
      have hsz := (unhide HB3).size
      clear HHS HSH HW HR1 HOX
      cases B with
      | false =>
        have EF := hide (unhide EN rfl)
        clear EN EY
        go_wp2
        go_roundg (L.length - (i + 1))
        case measure => omega
        case rel => exact ⟨i + 1, by omega, rfl, by go_num, unhide HB3, ⟨_, _, _, rfl⟩, by rw [unhide EF]; exact HR3⟩
      | true =>
        have EF := hide (unhide EY rfl)
        clear EN EY
        have HR2 := hide (ownsRow_below (unhide HR3) (Below.alloc1 w3 (.cells #[.int .i64 i] 3)))
        go_wp2_with (at_builtin; refine wpList_append_lies _ rfl _ _ 34 rfl w.heap.size 3 i0 _ 1 8 Try.underlying34 hinf hz0 hz1 hz2 rfl (by decide) _ (clashU L i).length _ rfl (unhide HR2) ⟨w3.heap.size, 0, none⟩ 1 1 [.int .i64 i] rfl rfl (cell_one_new _ _ _) (by simp [Value.oneCell']) (by omega) (by unfold maxLen; omega) (by omega) (by simp; omega) _ rfl ?_; intro g4 cap4 wa hown hgrow hat hlt4; have HWa := hide ((Below.step (unhide HB3) (Below.alloc1 w3 (.cells #[.int .i64 i] 3))).grown hgrow (by simp; omega) (fun g hg => ((unhide HR3).lt g hg).1)); have HOW := hide hown; clear hown hgrow hat)
        go_roundg (L.length - (i + 1))
        case measure => omega
        case rel => exact ⟨i + 1, by omega, rfl, by go_num, unhide HWa, ⟨_, _, _, rfl⟩, by rw [unhide EF, List.length_append]; exact hide (by have := unhide HOW; simpa [ints] using this)⟩
    · have hss : i = L.length := by omega
      subst hss
      have HW := hide hW
      clear hW
      go_wp2
      go_ret
      obtain ⟨a', n', cp', e', hsl⟩ := own_told1 (unhide HR) rfl
      simp only [Value.slice.injEq] at e'
      obtain ⟨rfl, rfl, rfl⟩ := e'
      exact ⟨_, _, _, rfl, by rw [unhide EC]; exact hsl, unhide HW⟩

/-- What Choose tells, in numbers. -/
noncomputable def chooseV (L : List Rad) (at_ coin : Int) : Int × Bool :=
  if radsB L = false ∨ inB at_ 0 ((L.length : Int) - 1) = false ∨ coin < 0 then (-1, false)
  else if (freeL L at_.toNat).length = 0 then (rSl L at_.toNat, false) else ((freeL L at_.toNat).getD (coin % ((freeL L at_.toNat).length : Int)).toNat 0, true)
theorem chooseV_no {L : List Rad} {at_ coin : Int} (h : radsB L = false ∨ inB at_ 0 ((L.length : Int) - 1) = false ∨ coin < 0) : chooseV L at_ coin = (-1, false) := by unfold chooseV; rw [if_pos h]
theorem chooseV_none {L : List Rad} {i : Nat} {coin : Int} (h1 : radsB L = true) (h2 : inB (i : Int) 0 ((L.length : Int) - 1) = true) (h3 : ¬ coin < 0) (h : (freeL L i).length = 0) : chooseV L i coin = (rSl L i, false) := by
  unfold chooseV; rw [if_neg (by rw [h1, h2]; simp; omega), Int.toNat_natCast, if_pos h]
theorem chooseV_some {L : List Rad} {i : Nat} {coin : Int} (h1 : radsB L = true) (h2 : inB (i : Int) 0 ((L.length : Int) - 1) = true) (h3 : ¬ coin < 0) (h : ¬ (freeL L i).length = 0) : chooseV L i coin = ((freeL L i).getD (coin % ((freeL L i).length : Int)).toNat 0, true) := by
  unfold chooseV; rw [if_neg (by rw [h1, h2]; simp; omega), Int.toNat_natCast, if_neg h]

set_option maxRecDepth 10000 in
set_option maxHeartbeats 3200000 in
theorem implChoose_any (v : Value) (L : List Rad) (at_ coin : Int) (w : World) (h : RadsIn w v L) :
    Calls Try.prog 27 #[v, .int .i64 at_, .int .i64 coin] w fun e w' => e = .returned (.tuple #[.int .i64 (chooseV L at_ coin).1, .bool (chooseV L at_ coin).2]) ∧ Below w.heap.size w w' := by
  have HV := hide h
  have HOKC := hide (implRadiosOk_any v L w h)
  obtain ⟨ao, cap, rfl, hl, hm, hc⟩ := h
  unfold maxLen at hm
  have HC := hide hc
  clear hc
  cases hrb : radsB L with
  | false =>
    have EC := hide (chooseV_no (L := L) (at_ := at_) (coin := coin) (Or.inl hrb))
    rw [hrb] at HOKC
    clear hrb
    go_enter Try.func27, Try.ntmps27
    go_wp2_with fail
    refine (unhide HOKC).mono ?_
    rintro e w1 ⟨rfl, hb⟩
    have HB := hide hb
    clear hb
    go_wp2
    refine bodyPost_ret (v := .tuple #[.int .i64 (-1), .bool false]) (by simp [results, Try.results27, go_sem]) rfl ⟨by rw [unhide EC], unhide HB⟩
  | true =>
  have HOK := hide (of_pB (p := RadsOk L) hrb)
  have hn24 := (unhide HOK).2.1
  have HRB := hide hrb
  rw [hrb] at HOKC
  clear hrb
  cases hat : inB at_ 0 ((L.length : Int) - 1) with
  | false =>
    have EC := hide (chooseV_no (L := L) (at_ := at_) (coin := coin) (Or.inr (Or.inl hat)))
    go_enter Try.func27, Try.ntmps27
    go_wp2_with fail
    refine (unhide HOKC).mono ?_
    rintro e w1 ⟨rfl, hb⟩
    have HB := hide hb
    clear hb
    go_wp2_with (go_at_call 55; refine (within_any _ _ _ _).mono ?_; rintro e w' ⟨rfl, h9⟩; have h8 := h9.symm; subst h8; clear h9)
    refine bodyPost_ret (v := .tuple #[.int .i64 (-1), .bool false]) (by simp [results, Try.results27, go_sem]) rfl ⟨by rw [unhide EC], unhide HB⟩
  | true =>
  obtain ⟨ha0, ha1⟩ := inB_true hat
  obtain ⟨i, hi⟩ : ∃ i : Nat, at_ = (i : Int) := ⟨at_.toNat, by omega⟩
  subst hi
  by_cases hcn : coin < 0
  · have EC := hide (chooseV_no (L := L) (at_ := (i : Int)) (coin := coin) (Or.inr (Or.inr hcn)))
    go_enter Try.func27, Try.ntmps27
    go_wp2_with fail
    refine (unhide HOKC).mono ?_
    rintro e w1 ⟨rfl, hb⟩
    have HB := hide hb
    clear hb
    go_wp2_with (go_at_call 55; refine (within_any _ _ _ _).mono ?_; rintro e w' ⟨rfl, h9⟩; have h8 := h9.symm; subst h8; clear h9)
    refine bodyPost_ret (v := .tuple #[.int .i64 (-1), .bool false]) (by simp [results, Try.results27, go_sem]) rfl ⟨by rw [unhide EC], unhide HB⟩
  have hin : i < L.length := by omega
  have hii : (i : Int) < L.length := by omega
  have HSH := hide fun W (hW : Below w.heap.size w W) => slotsHeard_any _ L i W ((unhide HV).below hW) (unhide HOK) hin
  have HFR := hide fun g W (hW : OwnV W g ((cnts L i (rHe L i).length).map e32)) => free_any g L i W hW
  have hfl := freeU_len L i 20
  have HE0 := hide fun h => chooseV_none (unhide HRB) hat hcn (i := i) h
  have HE1 := hide fun h => chooseV_some (unhide HRB) hat hcn (i := i) h
  have hfl' : (freeL L i).length ≤ 20 := hfl
  generalize freeL L i = F at *
  generalize chooseV L (i : Int) coin = CV at *
  obtain ⟨b, o, na, nc, id, sl, H, m, rfl, hc0, hc1, hc2, hr, EX, EM, hm0⟩ := radAt (unhide HC) hin
  have esl : rSl L i = sl := by show (L.getD i default).2.1 = sl; rw [unhide EX]
  rw [esl] at HE0
  clear hc0 hc2 hr esl hfl
  go_enter Try.func27, Try.ntmps27
  go_wp2_with fail
  refine (unhide HOKC).mono ?_
  rintro e w1 ⟨rfl, hb⟩
  have HB := hide hb
  clear hb HOKC
  go_wp2_with fail
  refine (within_any _ _ _ _).mono ?_
  rintro e w' ⟨rfl, h9⟩
  have h8 := h9.symm
  subst h8
  clear h9
  go_wp2_with fail
  refine (unhide HSH _ (unhide HB)).mono ?_
  rintro e w3 ⟨gc, rfl, hgc, ho3, hb3⟩
  replace HB := hide (Below.step (unhide HB) hb3)
  have HO3 := hide ho3
  clear ho3 hb3 HSH
  go_wp2_with fail
  refine (unhide HFR _ _ (unhide HO3)).mono ?_
  rintro e w4 ⟨fa, fn, fc, rfl, ho4, hb4⟩
  replace HB := hide (Below.step (unhide HB) hb4)
  have HO4 := hide ho4.intsIn
  obtain ⟨hfn, hfc, hfm⟩ := ho4.intsIn.len
  unfold maxLen at hfm
  rw [hfn] at HE0 HE1 hfl'
  have HFN := hide hfn
  clear ho4 hb4 hfn HFR HO3
  have q1 := wcell3 hc1 (unhide HB)
  by_cases hf0 : fn = 0
  · have EC := hide (unhide HE0 hf0)
    have hfz : ((fn : Int) == 0) = true := by simpa using hf0
    clear HE0 HE1 hf0
    go_wp2
    refine bodyPost_ret (v := .tuple #[.int .i64 sl, .bool false]) (by simp [results, Try.results27, go_sem]) rfl ⟨by rw [unhide EC], unhide HB⟩
  · have EC := hide (unhide HE1 hf0)
    have hfz : ((fn : Int) == 0) = false := by simpa using hf0
    have hpos : (0 : Int) < fn := by omega
    obtain ⟨q, hq⟩ : ∃ q : Nat, coin % (fn : Int) = (q : Int) := ⟨(coin % (fn : Int)).toNat, by have := Int.emod_nonneg coin (show (fn : Int) ≠ 0 by omega); omega⟩
    have hqf : q < fn := by have := Int.emod_lt_of_pos coin hpos; omega
    have htm : Int.tmod coin (fn : Int) = (q : Int) := by rw [Int.tmod_eq_emod_of_nonneg (by omega)]; exact hq
    have hqf' : (q : Int) < fn := by omega
    obtain ⟨b2, o2, rfl, hcell⟩ := intAt (unhide HO4) hqf
    rw [hq, Int.toNat_natCast] at EC
    generalize F.getD q 0 = y at *
    have hne : ¬ (fn : Int) = 0 := by omega
    clear HE0 HE1 hf0
    go_wp2
    refine bodyPost_ret (v := .tuple #[.int .i64 y, .bool true]) (by simp [results, Try.results27, go_sem]) rfl ⟨by rw [unhide EC], unhide HB⟩

end Go.Proofs.Ytkjikjeecjendaa

/- Radios: settling in numbers; contracts of the program's coinsOk, ownCopy and ownRadios over radios, settleFirst. -/
namespace Go.Proofs.Ytkjikjeecjendaa
open Go.RowKit

/-- The radio at i takes the slot s. -/
def setSl (L : List Rad) (i : Nat) (s : Int) : List Rad := L.set i ((L.getD i default).1, s, (L.getD i default).2.2)
theorem setSl_len (L : List Rad) (i : Nat) (s : Int) : (setSl L i s).length = L.length := by simp [setSl]
theorem setSl_get (L : List Rad) (i : Nat) (s : Int) (r : Nat) (hi : i < L.length) : (setSl L i s).getD r default = if r = i then ((L.getD i default).1, s, (L.getD i default).2.2) else L.getD r default := by
  unfold setSl
  by_cases e : r = i
  · subst e; rw [if_pos rfl]; simp [List.getD, hi]
  · rw [if_neg e]; simp [List.getD, List.getElem?_set_ne (show i ≠ r by omega)]
theorem setSl_he (L : List Rad) (i : Nat) (s : Int) (r : Nat) (hi : i < L.length) : rHe (setSl L i s) r = rHe L r := by
  show ((setSl L i s).getD r default).2.2 = (L.getD r default).2.2
  rw [setSl_get L i s r hi]
  split
  · rename_i h; rw [h]
  · rfl
/-- What one coin does. -/
noncomputable def stepS (L : List Rad) (coin : Int) : Option (List Rad) :=
  match clashL L with
  | [] => none
  | c :: _ => if (chooseV L c coin).2 then some (setSl L c.toNat (chooseV L c coin).1) else none
theorem clashU_mem (L : List Rad) : ∀ i, ∀ c ∈ clashU L i, 0 ≤ c ∧ c < (i : Int) := by
  intro i
  induction i with
  | zero => intro c hc; simp [clashU] at hc
  | succ i ih =>
    intro c hc
    simp only [clashU, List.mem_append] at hc
    rcases hc with hc | hc
    · have := ih c hc; omega
    · split at hc
      · simp at hc; omega
      · simp at hc
theorem clashL_mem {L : List Rad} {c : Int} (h : c ∈ clashL L) : 0 ≤ c ∧ c < (L.length : Int) := by
  unfold clashL at h
  split at h
  · exact clashU_mem L _ c h
  · simp at h
theorem stepS_no {L : List Rad} {coin : Int} (h : (clashL L).length = 0) : stepS L coin = none := by
  unfold stepS
  rw [List.length_eq_zero_iff.1 h]
theorem stepS_yes {L : List Rad} {coin c : Int} (h : (clashL L).getD 0 0 = c) (hp : ¬ (clashL L).length = 0) : stepS L coin = if (chooseV L c coin).2 then some (setSl L c.toNat (chooseV L c coin).1) else none := by
  unfold stepS
  match hq : clashL L, hp with
  | [], hp => simp at hp
  | c' :: _, _ => rw [hq] at h; simp [List.getD] at h; rw [h]
theorem stepS_same {L L' : List Rad} {coin : Int} (h : stepS L coin = some L') : L'.length = L.length ∧ ∀ r, rHe L' r = rHe L r := by
  unfold stepS at h
  split at h
  · cases h
  · rename_i c cs hc
    split at h
    · cases h
      have hm := clashL_mem (L := L) (c := c) (by rw [hc]; simp)
      exact ⟨setSl_len _ _ _, fun r => setSl_he L _ _ r (by omega)⟩
    · cases h
/-- Coin upon coin: the radios then, and how many coins were used. -/
noncomputable def runS (L : List Rad) : List Int → List Rad × Nat
  | [] => (L, 0)
  | c :: C => match stepS L c with
    | none => (L, 0)
    | some L' => ((runS L' C).1, (runS L' C).2 + 1)
theorem runS_none {L : List Rad} {C : List Int} {u : Nat} (hu : u < C.length) (h : stepS L (C.getD u 0) = none) : runS L (C.drop u) = (L, 0) := by
  rw [List.drop_eq_getElem_cons hu, runS]
  rw [getD_lt hu] at h
  rw [h]
theorem runS_some {L L' : List Rad} {C : List Int} {u : Nat} (hu : u < C.length) (h : stepS L (C.getD u 0) = some L') : runS L (C.drop u) = ((runS L' (C.drop (u + 1))).1, (runS L' (C.drop (u + 1))).2 + 1) := by
  rw [List.drop_eq_getElem_cons hu, runS]
  rw [getD_lt hu] at h
  rw [h]
theorem runS_end {L : List Rad} {C : List Int} {u : Nat} (hu : C.length ≤ u) : runS L (C.drop u) = (L, 0) := by
  rw [List.drop_eq_nil_of_le hu, runS]
/-- How far the way has been gone. -/
structure Run (L : List Rad) (C : List Int) (K : List Rad) (u : Nat) : Prop where
  eq : runS L C = ((runS K (C.drop u)).1, (runS K (C.drop u)).2 + u)
  len : K.length = L.length
  he : ∀ r, rHe K r = rHe L r
theorem Run.start (L : List Rad) (C : List Int) : Run L C L 0 := ⟨by simp, rfl, fun _ => rfl⟩
theorem Run.step {L K K' : List Rad} {C : List Int} {u : Nat} (h : Run L C K u) (hu : u < C.length) (hs : stepS K (C.getD u 0) = some K') : Run L C K' (u + 1) := by
  obtain ⟨h1, h2⟩ := stepS_same hs
  refine ⟨?_, h1.trans h.len, fun r => (h2 r).trans (h.he r)⟩
  rw [h.eq, runS_some hu hs]
  simp only [Prod.mk.injEq, true_and]
  omega
theorem Run.done {L K : List Rad} {C : List Int} {u : Nat} (h : Run L C K u) (hd : runS K (C.drop u) = (K, 0)) : runS L C = (K, u) := by
  rw [h.eq, hd]
  simp

theorem recCells_ext {vs : List Value} {L : List Rad} {G : Nat → Nat} (hl : vs.length = L.length * 3) (h0 : ∀ r, r < L.length → vs[r * 3]? = some (.int .i64 (L.getD r default).1)) (h1 : ∀ r, r < L.length → vs[r * 3 + 1]? = some (.int .i64 (L.getD r default).2.1))
    (h2 : ∀ r, r < L.length → vs[r * 3 + 2]? = some (.slice (some ⟨G r, 0, none⟩) (L.getD r default).2.2.length (L.getD r default).2.2.length)) : vs = recCells 3 eRd (rdL L G) := by
  apply List.ext_getElem?
  intro q
  by_cases hq : q < L.length * 3
  · obtain ⟨r, j, hr, hj, rfl⟩ : ∃ r j, r < L.length ∧ j < 3 ∧ q = r * 3 + j := ⟨q / 3, q % 3, by omega, by omega, by omega⟩
    rw [recCells_get (by rw [rdL_len]; exact hr) hj, rdL_get hr]
    match j, hj with
    | 0, _ => exact h0 r hr
    | 1, _ => exact h1 r hr
    | 2, _ => exact h2 r hr
  · rw [List.getElem?_eq_none (by omega), List.getElem?_eq_none (by rw [recCells_length, rdL_len]; omega)]
theorem rec_at {L : List Rad} {G : Nat → Nat} {r j : Nat} (hr : r < L.length) (hj : j < 3) : (recCells 3 eRd (rdL L G))[r * 3 + j]? = some (eRd ((L.getD r default).1, (L.getD r default).2.1, (L.getD r default).2.2.length, G r) j) := by
  rw [recCells_get (by rw [rdL_len]; exact hr) hj, rdL_get hr]
theorem OwnRd.setSlot {w : World} {g : Nat} {G : Nat → Nat} {L : List Rad} (h : OwnRd w g G L) {i : Nat} (hi : i < L.length) (s : Int) : OwnRd (w.setCell ⟨g, i * 3 + 1, none⟩ (.int .i64 s)) g G (setSl L i s) := by
  have hs := h.1.set (i * 3 + 1) (.int .i64 s) (by rw [recCells_length, rdL_len]; omega)
  have hl := setSl_len L i s
  have e : (recCells 3 eRd (rdL L G)).set (i * 3 + 1) (.int .i64 s) = recCells 3 eRd (rdL (setSl L i s) G) := by
    refine recCells_ext (by rw [List.length_set, recCells_length, rdL_len, hl]) (fun r hr => ?_) (fun r hr => ?_) (fun r hr => ?_)
    · rw [hl] at hr
      have := rec_at (L := L) (G := G) (j := 0) hr (by omega)
      rw [List.getElem?_set_ne (by omega), setSl_get L i s r hi]
      rw [Nat.add_zero] at this
      rw [this]
      split
      · rename_i e; rw [e]; rfl
      · rfl
    · rw [hl] at hr
      have := rec_at (L := L) (G := G) (j := 1) hr (by omega)
      rw [setSl_get L i s r hi]
      by_cases e : r = i
      · subst e
        rw [List.getElem?_set_self (by rw [recCells_length, rdL_len]; omega), if_pos rfl]
      · rw [List.getElem?_set_ne (by omega), if_neg e, this]; rfl
    · rw [hl] at hr
      have := rec_at (L := L) (G := G) (j := 2) hr (by omega)
      rw [List.getElem?_set_ne (by omega), setSl_get L i s r hi, this]
      split
      · rename_i e; rw [e]; rfl
      · rfl
  rw [e] at hs
  refine ⟨hs, fun r hr => ?_, fun r q h1 h2 => h.2.2 r q h1 (by rw [hl] at h2; exact h2)⟩
  rw [hl] at hr
  obtain ⟨q1, q2⟩ := h.2.1 r hr
  refine ⟨q1, ?_⟩
  have he := setSl_he L i s r hi
  rw [show ((setSl L i s).getD r default).2.2 = (L.getD r default).2.2 from he]
  exact q2.other (a := ⟨g, i * 3 + 1, none⟩) (by simp only; omega) _

def coinsB (C : List Int) : Bool := decide (C.length ≤ 200) && C.all (fun x => decide (0 ≤ x))
theorem coinsB_len {C : List Int} (h : ¬ C.length ≤ 200) : coinsB C = false := by simp [coinsB, h]

set_option maxHeartbeats 1600000 in
theorem coinsOk_any (v : Value) (C : List Int) (w : World) (h : IntsIn w v C) :
    Calls Try.prog 63 #[v] w fun e w' => e = .returned (.bool (coinsB C)) ∧ w' = w := by
  obtain ⟨ao, cap, rfl, hl, hm, hc⟩ := h
  unfold maxLen at hm
  have HC := hide hc
  clear hc
  by_cases hn : (200 : Int) < C.length
  · have HF := hide (coinsB_len (C := C) (by omega))
    go_enter Try.func63, Try.ntmps63
    go_wp2
    go_ret
    exact ⟨ret_bool (unhide HF).symm, rfl⟩
  · go_enter Try.func63, Try.ntmps63
    go_wp2
    go_loopg [10] C.length (fun g i wr => wr = w ∧ ∃ k : Nat, k ≤ C.length ∧ g = C.length - k ∧ i = .int .i64 k ∧ Hid (∀ r, r < k → 0 ≤ C.getD r 0))
    case atStart => exact ⟨rfl, 0, Nat.zero_le _, rfl, rfl, fun r hr => by omega⟩
    case round =>
      obtain ⟨rfl, k, hk, rfl, rfl, HN⟩ := hrel
      by_cases hkn : k < C.length
      · obtain ⟨b, o, rfl, hcell⟩ := unhide HC k hkn
        have hki : (k : Int) < C.length := by omega
        by_cases hx : C.getD k 0 < 0
        · have HF : Hid (coinsB C = false) := by
            show _ = _
            unfold coinsB
            rw [all_false (p := fun x => decide (0 ≤ x)) hkn (decide_eq_false (show ¬ (0 ≤ C.getD k 0) by omega))]
            simp
          generalize C.getD k 0 = x at *
          clear HN
          go_wp2
          go_ret
          exact ⟨ret_bool (unhide HF).symm, rfl⟩
        · have HN' : Hid (∀ r, r < k + 1 → 0 ≤ C.getD r 0) := fun r hr => by
            by_cases e : r = k
            · rw [e]; omega
            · exact unhide HN r (by omega)
          generalize C.getD k 0 = x at *
          clear HN
          go_wp2
          go_roundg (C.length - (k + 1))
          case measure => omega
          case rel => exact ⟨rfl, k + 1, by omega, rfl, by go_num, HN'⟩
      · have HT : Hid (coinsB C = true) := by
          show _ = _
          unfold coinsB
          rw [all_true (p := fun x => decide (0 ≤ x)) (d := 0) (fun r hr => by rw [decide_eq_true_eq]; exact unhide HN r (by omega))]
          simp
          omega
        clear HN
        go_wp2
        go_ret
        exact ⟨ret_bool (unhide HT).symm, rfl⟩

end Go.Proofs.Ytkjikjeecjendaa

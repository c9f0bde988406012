/- Radios: contracts of the program's areMutual, RadiosOk. -/
import Derived.Test.YtkjikjeecjendaaRdD
namespace Go.Proofs.Ytkjikjeecjendaa
open Go.RowKit

set_option maxHeartbeats 1600000 in
theorem areMutual_any (v : Value) (L : List Rad) (w : World) (h : RadsIn w v L) (hh : ∀ i, i < L.length → HeOk (rHe L i) i L.length) :
    Calls Try.prog 67 #[v] w fun e w' => e = .returned (.bool (pB (MuOk L))) ∧ Below w.heap.size w w' := by
  obtain ⟨ao, cap, rfl, hl, hm, hc⟩ := h
  unfold maxLen at hm
  have HC := hide hc
  have HHE := hide hh
  clear hc hh
  go_enter Try.func67, Try.ntmps67
  go_wp2
  go_loopg [9] L.length (fun g iv wr => Below w.heap.size w wr ∧ ∃ i : Nat, i ≤ L.length ∧ g = L.length - i ∧ iv = .int .i64 i ∧ Hid (∀ r, r < i → ∀ k, k < (rHe L r).length → MuAt L r k))
  case atStart => exact ⟨Below.refl _ _, 0, Nat.zero_le _, rfl, rfl, fun r hr => by omega⟩
  case round =>
    obtain ⟨hW, i, hi, rfl, rfl, HD⟩ := hrel
    by_cases hin : i < L.length
    · obtain ⟨b, o, na, nc, id, sl, H, m, rfl, hc0, hc1, hc2, hr, EX, EM, hm0⟩ := radAt (unhide HC) hin
      have g0 := wcell3 hc0 hW
      have g1 := wcell3 hc1 hW
      have g2 := wcell3 hc2 hW
      have hii : (i : Int) < L.length := by omega
      have EH : Hid (rHe L i = H) := by show (L.getD i default).2.2 = H; rw [unhide EX]
      have HR := hide hr
      have hA := Below.alloc1 wr (.cells #[.int .i64 id, .int .i64 sl, .slice na m nc] 45)
      have HW0 := hide (Below.step hW hA)
      clear hc0 hc1 hc2 hr hW hA
      go_wp2
      go_loopg [17] m (fun g kv wr2 => Below w.heap.size w wr2 ∧ ∃ k : Nat, k ≤ m ∧ g = m - k ∧ kv = .int .i64 k ∧ Hid (∀ q, q < k → MuAt L i q))
      case atStart => exact ⟨unhide HW0, 0, Nat.zero_le _, rfl, rfl, fun q hq => by omega⟩
      case round =>
        obtain ⟨hW2, k, hk, rfl, rfl, HK⟩ := hrel
        clear g0 g1 g2
        by_cases hkm : k < m
        · obtain ⟨b', o', rfl, hcell⟩ := intAt (unhide HR) hkm
          have c0 := wcell3 hcell hW2
          obtain ⟨hx0, hx1, hx2, -⟩ := unhide HHE i hin k (by rw [unhide EH, unhide EM]; exact hkm)
          rw [unhide EH] at hx0 hx1 hx2
          have HMU : Hid (MuAt L i k = ((rHe L (H.getD k 0).toNat).contains (i : Int) = true)) := by show _ = _; unfold MuAt; rw [unhide EH]
          obtain ⟨x, hx⟩ : ∃ x : Nat, H.getD k 0 = (x : Int) := ⟨(H.getD k 0).toNat, by omega⟩
          rw [hx] at c0 hx0 hx1 hx2 HMU
          rw [Int.toNat_natCast] at HMU
          have hxl : x < L.length := by omega
          obtain ⟨b2, o2, na2, nc2, id2, sl2, H2, m2, e2, hd0, hd1, hd2, hr2, EX2, EM2, hm2⟩ := radAt (unhide HC) hxl
          simp only [Option.some.injEq, Addr.mk.injEq, and_true] at e2
          obtain ⟨rfl, rfl⟩ := e2
          have q2 := wcell3 hd2 hW2
          have HI2 := hide (hr2.below hW2)
          rw [show rHe L x = H2 from by show (L.getD x default).2.2 = H2; rw [unhide EX2]] at HMU
          have HW2 := hide hW2
          have hkm' : (k : Int) < m := by omega
          clear hcell hd0 hd1 hd2 hr2 hW2 hx hx0 hx2
          cases hcn : H2.contains (i : Int) with
          | false =>
            have HF : Hid (pB (MuOk L) = false) := pB_false fun hh => by
              have := hh i hin k (by rw [unhide EH, unhide EM]; exact hkm)
              rw [unhide HMU, hcn] at this
              cases this
            have HCN := hide hcn
            clear hcn HMU HK HD
            go_wp2_with fail
            refine (slContains_any _ H2 _ _ (unhide HI2)).mono ?_
            rintro e w3 ⟨rfl, h9⟩
            subst h9
            rw [unhide HCN]
            go_wp2
            go_ret
            exact ⟨ret_bool (unhide HF).symm, unhide HW2⟩
          | true =>
            have HK' : Hid (∀ q, q < k + 1 → MuAt L i q) := fun q hq => by
              by_cases e : q = k
              · subst e; rw [unhide HMU]; exact hcn
              · exact HK.out q (by omega)
            have HCN := hide hcn
            clear hcn HMU HK
            go_wp2_with fail
            refine (slContains_any _ H2 _ _ (unhide HI2)).mono ?_
            rintro e w3 ⟨rfl, h9⟩
            subst h9
            rw [unhide HCN]
            go_wp2
            go_roundg (m - (k + 1))
            case measure => omega
            case rel => exact ⟨unhide HW2, k + 1, by omega, rfl, by go_num, HK'⟩
        · have HD' : Hid (∀ r, r < i + 1 → ∀ k, k < (rHe L r).length → MuAt L r k) := fun r hr q hq => by
            by_cases e : r = i
            · subst e; rw [unhide EH, unhide EM] at hq; exact HK.out q (by omega)
            · exact HD.out r (by omega) q hq
          have HW2 := hide hW2
          clear HD HK hW2
          go_wp2
          go_roundg (L.length - (i + 1))
          case measure => omega
          case rel => exact ⟨unhide HW2, i + 1, by omega, rfl, by go_num, HD'⟩
    · have HT : Hid (pB (MuOk L) = true) := pB_true fun r hr => HD.out r (by omega)
      have HW := hide hW
      clear HD hW
      go_wp2
      go_ret
      exact ⟨ret_bool (unhide HT).symm, unhide HW⟩

set_option maxHeartbeats 3200000 in
theorem implRadiosOk_any (v : Value) (L : List Rad) (w : World) (h : RadsIn w v L) :
    Calls Try.prog 23 #[v] w fun e w' => e = .returned (.bool (radsB L)) ∧ Below w.heap.size w w' := by
  have hv := h
  obtain ⟨ao, cap, rfl, hl, hm, hc⟩ := h
  unfold maxLen at hm
  have HC := hide hc
  have HV := hide hv
  clear hc hv
  unfold radsB
  cases hn : inB L.length 1 24 with
  | false =>
    have HF : Hid (pB (RadsOk L) = false) := pB_false fun hh => by
      rw [inB_mk (by have := hh.1; omega) (by have := hh.2.1; omega)] at hn
      cases hn
    go_enter Try.func23, Try.ntmps23
    go_wp2_with (go_at_call 55; refine (within_any _ _ _ _).mono ?_; rintro e w' ⟨rfl, h9⟩; have h8 := h9.symm; subst h8; clear h9)
    go_ret
    exact ⟨ret_bool (unhide HF).symm, Below.refl _ _⟩
  | true =>
  have hn' := inB_true hn
  go_enter Try.func23, Try.ntmps23
  go_wp2_with (go_at_call 55; refine (within_any _ _ _ _).mono ?_; rintro e w' ⟨rfl, h9⟩; have h8 := h9.symm; subst h8; clear h9)
  go_loopg [3, 12] L.length (fun g av iv wr => Below w.heap.size w wr ∧ ∃ i : Nat, i ≤ L.length ∧ g = L.length - i ∧ iv = .int .i64 i ∧ (∃ a : Int, av = .int .i64 a ∧ 0 ≤ a ∧ a ≤ 999999999 ∧ Hid (a = if i = 0 then 0 else rId L (i - 1))) ∧ Hid (∀ r, r < i → IdOk L r ∧ SlOk L r ∧ HeOk (rHe L r) r L.length))
  case atStart => exact ⟨Below.refl _ _, 0, Nat.zero_le _, rfl, rfl, ⟨0, rfl, by omega, by omega, rfl⟩, fun r hr => by omega⟩
  case round =>
    obtain ⟨hW, i, hi, rfl, rfl, ⟨a, rfl, ha0, ha1, HA⟩, HD⟩ := hrel
    by_cases hin : i < L.length
    · obtain ⟨b, o, na, nc, id, sl, H, m, rfl, hc0, hc1, hc2, hr, EX, EM, hm0⟩ := radAt (unhide HC) hin
      have g0 := wcell3 hc0 hW
      have g1 := wcell3 hc1 hW
      have g2 := wcell3 hc2 hW
      have hii : (i : Int) < L.length := by omega
      have e1 : rId L i = id := by show (L.getD i default).1 = id; rw [unhide EX]
      have e2 : rSl L i = sl := by show (L.getD i default).2.1 = sl; rw [unhide EX]
      have e3 : rHe L i = H := by show (L.getD i default).2.2 = H; rw [unhide EX]
      have hA := Below.alloc1 wr (.cells #[.int .i64 id, .int .i64 sl, .slice na m nc] 45)
      have HW := hide (Below.step hW hA)
      have HHE := hide (hearsOk_any _ H i L.length _ (hr.below (Below.step hW hA)) (by omega))
      clear hc0 hc1 hc2 hr hW hA
      cases hq1 : inB id (a + 1) 999999999 with
      | false =>
        have HF : Hid (pB (RadsOk L) = false) := pB_false fun hh => by
          obtain ⟨k1, k2, k3⟩ := (hh.2.2.1 i hin).1
          rw [e1] at k1 k2 k3
          have ea := unhide HA
          rw [inB_mk (by split at ea <;> (first | omega | (have := k3 (by omega); omega))) (by omega)] at hq1
          cases hq1
        clear HD e1 e2 e3
        go_wp2_with (go_at_call 55; refine (within_any _ _ _ _).mono ?_; rintro e w' ⟨rfl, h9⟩; have h8 := h9.symm; subst h8; clear h9)
        go_ret
        exact ⟨ret_bool (unhide HF).symm, unhide HW⟩
      | true =>
      cases hq2 : inB sl 0 19 with
      | false =>
        have HF : Hid (pB (RadsOk L) = false) := pB_false fun hh => by
          obtain ⟨k1, k2⟩ := (hh.2.2.1 i hin).2.1
          rw [e2] at k1 k2
          rw [inB_mk k1 k2] at hq2
          cases hq2
        clear HD e1 e2 e3
        go_wp2_with (first | (go_at_call 55; refine (within_any _ _ _ _).mono ?_; rintro e w' ⟨rfl, h9⟩; have h8 := h9.symm; subst h8; clear h9) | (go_at_call 56; refine (isSlot_any _ _).mono ?_; rintro e w' ⟨rfl, h9⟩; have h8 := h9.symm; subst h8; clear h9))
        go_ret
        exact ⟨ret_bool (unhide HF).symm, unhide HW⟩
      | true =>
      cases hq3 : pB (HeOk H i L.length) with
      | false =>
        have HF : Hid (pB (RadsOk L) = false) := pB_false fun hh => by
          have k1 := (hh.2.2.1 i hin).2.2
          rw [e3] at k1
          exact not_pB hq3 k1
        rw [hq3] at HHE
        clear HD e1 e2 e3 hq3
        go_wp2_with (first | (go_at_call 55; refine (within_any _ _ _ _).mono ?_; rintro e w' ⟨rfl, h9⟩; have h8 := h9.symm; subst h8; clear h9) | (go_at_call 56; refine (isSlot_any _ _).mono ?_; rintro e w' ⟨rfl, h9⟩; have h8 := h9.symm; subst h8; clear h9) | (go_at_call 66; refine (unhide HHE).mono ?_; rintro e w' ⟨rfl, h9⟩; have h8 := h9.symm; subst h8; clear h9))
        go_ret
        exact ⟨ret_bool (unhide HF).symm, unhide HW⟩
      | true =>
        obtain ⟨k1, k2⟩ := inB_true hq1
        have HD' : Hid (∀ r, r < i + 1 → IdOk L r ∧ SlOk L r ∧ HeOk (rHe L r) r L.length) := fun r hr => by
          by_cases e : r = i
          · subst e
            have ea := unhide HA
            refine ⟨⟨by rw [e1]; omega, by rw [e1]; omega, fun h0 => ?_⟩, ⟨by rw [e2]; exact (inB_true hq2).1, by rw [e2]; exact (inB_true hq2).2⟩, by rw [e3]; exact of_pB hq3⟩
            rw [if_neg (by omega)] at ea
            rw [e1, ← ea]
            omega
          · exact HD.out r (by omega)
        have EA : Hid (id = if i + 1 = 0 then 0 else rId L (i + 1 - 1)) := by show _ = _; rw [if_neg (by omega)]; exact e1.symm
        rw [hq3] at HHE
        clear HD e1 e2 e3 hq3
        go_wp2_with (first | (go_at_call 55; refine (within_any _ _ _ _).mono ?_; rintro e w' ⟨rfl, h9⟩; have h8 := h9.symm; subst h8; clear h9) | (go_at_call 56; refine (isSlot_any _ _).mono ?_; rintro e w' ⟨rfl, h9⟩; have h8 := h9.symm; subst h8; clear h9) | (go_at_call 66; refine (unhide HHE).mono ?_; rintro e w' ⟨rfl, h9⟩; have h8 := h9.symm; subst h8; clear h9))
        go_roundg (L.length - (i + 1))
        case measure => omega
        case rel => exact ⟨unhide HW, i + 1, by omega, rfl, by go_num, ⟨id, rfl, by omega, by omega, EA⟩, HD'⟩
    · have HH : Hid (∀ r, r < L.length → IdOk L r ∧ SlOk L r ∧ HeOk (rHe L r) r L.length) := fun r hr => HD.out r (by omega)
      have HM := hide (areMutual_any _ L wr ((unhide HV).below hW) (fun r hr => (unhide HH r hr).2.2))
      have HW := hide hW
      clear HD hW
      have HEQ : Hid (pB (RadsOk L) = pB (MuOk L)) := by
        show _ = _
        cases hq : pB (MuOk L) with
        | false => exact pB_false fun hh => not_pB hq hh.2.2.2
        | true => exact pB_true ⟨by omega, by omega, fun r hr => unhide HH r hr, of_pB hq⟩
      go_wp2_with fail
      refine (unhide HM).mono ?_
      rintro e w2 ⟨rfl, hb⟩
      have HW2 := hide (Below.step (unhide HW) hb)
      clear hb
      go_wp2
      go_ret
      exact ⟨ret_bool (unhide HEQ).symm, unhide HW2⟩

end Go.Proofs.Ytkjikjeecjendaa

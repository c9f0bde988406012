/- Contracts of the specification's l21Mark, l21Seg. -/
import Derived.Test.YtjpogaidcmndoaaEdM
import Derived.Test.YtjpogaidcmndoaaWalkE
import Derived.Deep.DeepCutAuto
namespace Go.Proofs.Ytjpogaidcmndoaa
open Go.RowKit

theorem specMark_any (b : Int) (w : World) (h0 : 0 ≤ b) (h1 : b < 256) : Calls Try.prog 41 #[.int .u8 b] w fun e w' => e = .returned (.bool (mkB b)) ∧ w' = w := by
  by_cases e1 : b = 43
  · subst e1
    go_enter Try.func41, Try.ntmps41
    go_wp2
    go_ret
    exact ⟨rfl, rfl⟩
  by_cases e2 : b = 58
  · subst e2
    go_enter Try.func41, Try.ntmps41
    go_wp2
    go_ret
    exact ⟨rfl, rfl⟩
  by_cases e3 : b = 39
  · subst e3
    go_enter Try.func41, Try.ntmps41
    go_wp2
    go_ret
    exact ⟨rfl, rfl⟩
  by_cases e4 : b = 63
  · subst e4
    go_enter Try.func41, Try.ntmps41
    go_wp2
    go_ret
    exact ⟨rfl, rfl⟩
  have HV : Hid (mkB b = false) := by show _ = _; unfold mkB; simp [e1, e2, e3, e4]
  have d1 : (b == 43) = false := by simp [e1]
  have d2 : (b == 58) = false := by simp [e2]
  have d3 : (b == 39) = false := by simp [e3]
  have d4 : (b == 63) = false := by simp [e4]
  go_enter Try.func41, Try.ntmps41
  go_wp2
  go_ret
  exact ⟨by rw [unhide HV]; rfl, rfl⟩

theorem txC_true {t : ByteArray} (h1 : t.size ≤ 40) (h2 : ∀ j, j < t.size → 32 ≤ byY t j ∧ byY t j ≤ 126) : txC t = true := by unfold txC; rw [decide_eq_true h1, decide_eq_true h2]; rfl
theorem txC_far {t : ByteArray} (h1 : ¬ t.size ≤ 40) : txC t = false := by unfold txC; rw [decide_eq_false h1]; rfl
theorem txC_bad {t : ByteArray} {j : Nat} (hj : j < t.size) (h : ¬ (32 ≤ byY t j ∧ byY t j ≤ 126)) : txC t = false := by unfold txC; rw [decide_eq_false (fun h2 : ∀ j, j < t.size → 32 ≤ byY t j ∧ byY t j ≤ 126 => h (h2 j hj)), Bool.and_false]
theorem paC_true {T : List ByteArray} (h1 : inB T.length 1 10 = true) (h2 : ∀ k, k < T.length → txC (T.getD k default) = true) : paC T = true := by unfold paC; rw [h1, decide_eq_true h2]; rfl
theorem paC_many {T : List ByteArray} (h1 : inB T.length 1 10 = false) : paC T = false := by unfold paC; rw [h1]; rfl
theorem paC_bad {T : List ByteArray} {k : Nat} (hk : k < T.length) (h : txC (T.getD k default) = false) : paC T = false := by unfold paC; rw [decide_eq_false (fun h2 : ∀ k, k < T.length → txC (T.getD k default) = true => by have := h2 k hk; rw [h] at this; cases this), Bool.and_false]
theorem sgC_true {t : ByteArray} {P : PartsT} (h1 : t.size = 3) (h2 : ∀ j, j < t.size → 65 ≤ byY t j ∧ byY t j ≤ 90) (h3 : P.length ≤ 20) (h4 : ∀ p, p < P.length → paC (P.getD p default) = true) : sgC (t, P) = true := by unfold sgC tgC; rw [decide_eq_true h1, decide_eq_true h2, decide_eq_true h3, decide_eq_true h4]; rfl
theorem sgC_tag {t : ByteArray} {P : PartsT} (h1 : ¬ t.size = 3) : sgC (t, P) = false := by unfold sgC tgC; rw [decide_eq_false h1]; rfl
theorem sgC_many {t : ByteArray} {P : PartsT} (h1 : ¬ P.length ≤ 20) : sgC (t, P) = false := by unfold sgC; rw [decide_eq_false h1, Bool.and_false]; rfl
theorem sgC_byte {t : ByteArray} {P : PartsT} {j : Nat} (hj : j < t.size) (h : ¬ (65 ≤ byY t j ∧ byY t j ≤ 90)) : sgC (t, P) = false := by unfold sgC tgC; rw [decide_eq_false (fun h2 : ∀ j, j < t.size → 65 ≤ byY t j ∧ byY t j ≤ 90 => h (h2 j hj)), Bool.and_false]; rfl
theorem sgC_part {t : ByteArray} {P : PartsT} {p : Nat} (hp : p < P.length) (h : paC (P.getD p default) = false) : sgC (t, P) = false := by unfold sgC; rw [decide_eq_false (fun h2 : ∀ p, p < P.length → paC (P.getD p default) = true => by have := h2 p hp; rw [h] at this; cases this), Bool.and_false]

set_option maxRecDepth 10000 in
set_option maxHeartbeats 4000000 in
theorem specSeg_any (t : ByteArray) (na : Option Addr) (n nc : Nat) (P : PartsT) (w : World) (h : SsIn w (.slice na n nc) P) (ht : t.size ≤ maxLen) (hx : TxSs P) :
    Calls Try.prog 30 #[vSeg t (.slice na n nc)] w fun e w' => e = .returned (.bool (sgC (t, P))) ∧ Below w.heap.size w w' := by
  have HW := hide (Below.alloc1 w (.cells #[.string t, .slice na n nc] 33))
  have HB := hide (ownV_alloc w #[.string t, .slice na n nc] 33)
  have HI := hide (h.below (unhide HW))
  have hn := h.slice
  have HX := hide hx
  have HIX := hide fun p hp => ixY_any t p hp ht
  obtain ⟨V, eV⟩ : ∃ z, z = sgC (t, P) := ⟨_, rfl⟩
  have F1 : Hid (¬ t.size = 3 → V = false) := by show _ → _; intro h; rw [eV]; exact sgC_tag h
  have F2 : Hid (¬ P.length ≤ 20 → V = false) := by show _ → _; intro h; rw [eV]; exact sgC_many h
  have F3 : Hid (∀ j, j < t.size → ¬ (65 ≤ byY t j ∧ byY t j ≤ 90) → V = false) := by show ∀ j, _; intro j hj h; rw [eV]; exact sgC_byte hj h
  have F4 : Hid (∀ p, p < P.length → paC (P.getD p default) = false → V = false) := by show ∀ p, _; intro p hp h; rw [eV]; exact sgC_part hp h
  have FT : Hid (t.size = 3 → (∀ j, j < t.size → 65 ≤ byY t j ∧ byY t j ≤ 90) → P.length ≤ 20 → (∀ p, p < P.length → paC (P.getD p default) = true) → V = true) := by show _ → _; intro h1 h2 h3 h4; rw [eV]; exact sgC_true h1 h2 h3 h4
  rw [← eV]
  clear eV h hx
  obtain ⟨g0, eg0⟩ : ∃ z, z = w.heap.size := ⟨_, rfl⟩
  obtain ⟨W, eW⟩ : ∃ z, z = w.alloc (.cells #[.string t, .slice na n nc] 33) := ⟨_, rfl⟩
  have hg0 : g0 < W.heap.size := by have := (unhide HB).lt; rw [eW, eg0]; exact this
  rw [← eW] at HW HB HI
  rw [← eg0] at HB
  obtain ⟨m, em⟩ : ∃ m : Nat, t.size = m := ⟨_, rfl⟩
  obtain ⟨hpl, -, hpn⟩ := hn
  unfold maxLen at ht
  rw [em] at ht F1 F3 FT HIX
  have hm0 : n ≤ 9223372036854775807 := by have := (unhide HI).slice.2; unfold maxLen at this; omega
  clear hpn
  unfold vSeg
  go_enter Try.func30, Try.ntmps30
  go_upto_region 1 with (fail)
  rw [← eW, ← eg0]
  have HGE : Hid (Below w.heap.size w W) := HW
  clear eW eg0 HW
  have b0 := (unhide HB).cell (i := 0) rfl
  have b1 := (unhide HB).cell (i := 1) rfl
  by_cases h3 : m = 3
  case neg =>
    have hv := unhide F1 h3
    have d3 : ((m : Int) != 3) = true := by simp; omega
    have h3i : ¬ ((m : Int) = 3) := by omega
    go_wp2
    go_ret
    first | exact ⟨rfl, unhide HGE⟩ | exact ⟨by rw [hv]; rfl, unhide HGE⟩
  subst h3
  by_cases h20 : n ≤ 20
  case neg =>
    have hv := unhide F2 (by omega)
    have d20 : decide ((20 : Int) < (n : Int)) = true := decide_eq_true (by omega)
    have h20i : ((20 : Int) < (n : Int)) := by omega
    go_wp2
    go_ret
    first | exact ⟨rfl, unhide HGE⟩ | exact ⟨by rw [hv]; rfl, unhide HGE⟩
  have d20 : decide ((20 : Int) < (n : Int)) = false := decide_eq_false (by omega)
  have h20i : ¬ ((20 : Int) < (n : Int)) := by omega
  go_wp2
  go_loopg [3] 3 (fun g iv wr => ∃ k : Nat, k ≤ 3 ∧ g = 3 - k ∧ iv = .int .i64 k ∧ Hid (∀ j, j < k → 65 ≤ byY t j ∧ byY t j ≤ 90) ∧ W = wr)
  case atStart => exact ⟨0, Nat.zero_le _, rfl, rfl, hide (fun j hj => absurd hj (by omega)), rfl⟩
  case round =>
    obtain ⟨k, hk, rfl, rfl, HP, rfl⟩ := hrel
    by_cases hkn : k < 3
    case pos =>
      have hki : (k : Int) < 3 := by omega
      have hix := unhide HIX k hkn
      have hbb := byY_bd t k
      have HF := hide (unhide F3 k hkn)
      have HPN : Hid ((65 ≤ byY t k ∧ byY t k ≤ 90) → ∀ j, j < k + 1 → 65 ≤ byY t j ∧ byY t j ≤ 90) := by
        show _ → _
        intro h j hj
        by_cases e : j = k
        · rw [e]; exact h
        · exact unhide HP j (by omega)
      generalize byY t k = b at hix hbb HF HPN
      cases hin : inB b 65 90
      case false =>
        have hv := unhide HF (fun h => by rw [inB_mk h.1 h.2] at hin; cases hin)
        clear HF HPN
        go_wp2_with (go_at_call 42; refine (l1In_any _ _ _ _).mono ?_; rintro e w9 ⟨rfl, h9⟩; have h8 := h9.symm; subst h8; clear h9)
        go_ret
        first | exact ⟨rfl, unhide HGE⟩ | exact ⟨by rw [hv]; rfl, unhide HGE⟩
      case true =>
        have HP2 := hide (unhide HPN (inB_true hin))
        clear HF HPN
        go_wp2_with (go_at_call 42; refine (l1In_any _ _ _ _).mono ?_; rintro e w9 ⟨rfl, h9⟩; have h8 := h9.symm; subst h8; clear h9)
        go_roundg (3 - (k + 1))
        case measure => omega
        case rel => exact ⟨k + 1, by omega, rfl, by go_num, HP2, rfl⟩
    case neg =>
    have hki : ¬ (k : Int) < 3 := by omega
    have HTG : Hid (∀ j, j < 3 → 65 ≤ byY t j ∧ byY t j ≤ 90) := by show ∀ j, _; intro j hj; exact unhide HP j (by omega)
    clear HP F1 F3 HIX
    go_wp2
    go_loopg [4] n (fun g iv wr => ∃ p : Nat, p ≤ n ∧ g = n - p ∧ iv = .int .i64 p ∧ Hid (∀ q, q < p → paC (P.getD q default) = true) ∧ W = wr)
    case atStart => exact ⟨0, Nat.zero_le _, rfl, rfl, hide (fun j hj => absurd hj (by omega)), rfl⟩
    case round =>
      obtain ⟨p, hp, rfl, rfl, HP, rfl⟩ := hrel
      by_cases hpn : p < n
      case neg =>
        have hpi : ¬ (p : Int) < (n : Int) := by omega
        have hv := unhide FT (by first | rfl | trivial) (unhide HTG) (by omega) (fun q hq => unhide HP q (by omega))
        go_wp2
        go_ret
        first | exact ⟨rfl, unhide HGE⟩ | exact ⟨by rw [hv]; rfl, unhide HGE⟩
      have hpi : (p : Int) < (n : Int) := by omega
      have hpp : p < P.length := by omega
      obtain ⟨bo, of, ta, tc, tn, T, rfl, hc, hr, EX, EM, htn⟩ := (unhide HI).at hpp
      have HXT := hide (unhide HX p hpp)
      have HF := hide (unhide F4 p hpp)
      have HPN : Hid (paC (P.getD p default) = true → ∀ q, q < p + 1 → paC (P.getD q default) = true) := by
        show _ → _
        intro h j hj
        by_cases e : j = p
        · rw [e]; exact h
        · exact unhide HP j (by omega)
      rw [unhide EX] at HXT HF HPN
      have EM2 := unhide EM
      cases hin : inB (tn : Int) 1 10
      case false =>
        have hv := unhide HF (paC_many (by rw [EM2]; exact hin))
        clear HF HPN EM2
        go_wp2_with (go_at_call 42; refine (l1In_any _ _ _ _).mono ?_; rintro e w9 ⟨rfl, h9⟩; have h8 := h9.symm; subst h8; clear h9)
        go_ret
        first | exact ⟨rfl, unhide HGE⟩ | exact ⟨by rw [hv]; rfl, unhide HGE⟩
      have HTX := hide hr
      clear EM2 hr
      go_wp2_with (go_at_call 42; refine (l1In_any _ _ _ _).mono ?_; rintro e w9 ⟨rfl, h9⟩; have h8 := h9.symm; subst h8; clear h9)
      go_loopg [5] tn (fun g iv wr => ∃ k : Nat, k ≤ tn ∧ g = tn - k ∧ iv = .int .i64 k ∧ Hid (∀ q, q < k → txC (T.getD q default) = true) ∧ W = wr)
      case atStart => exact ⟨0, Nat.zero_le _, rfl, rfl, hide (fun j hj => absurd hj (by omega)), rfl⟩
      case round =>
        obtain ⟨k, hk2, rfl, rfl, HQ, rfl⟩ := hrel
        by_cases hkt : k < tn
        case neg =>
          have hkti : ¬ (k : Int) < (tn : Int) := by omega
          have HP2 := hide (unhide HPN (paC_true (by rw [unhide EM]; exact hin) (fun q hq => unhide HQ q (by have := unhide EM; omega))))
          clear HPN HF
          go_wp2
          go_roundg (n - (p + 1))
          case measure => omega
          case rel => exact ⟨p + 1, by omega, rfl, by go_num, HP2, rfl⟩
        have hkti : (k : Int) < (tn : Int) := by omega
        have hkl : k < T.length := by have := unhide EM; omega
        obtain ⟨bq, oq, rfl, hcq⟩ := (unhide HTX).cells k hkl
        have hsz := unhide HXT k hkl
        have HFX : Hid (txC (T.getD k default) = false → V = false) := by show _ → _; intro h; exact unhide HF (paC_bad hkl h)
        have HQN : Hid (txC (T.getD k default) = true → ∀ q, q < k + 1 → txC (T.getD q default) = true) := by
          show _ → _
          intro h j hj
          by_cases e : j = k
          · rw [e]; exact h
          · exact unhide HQ j (by omega)
        generalize T.getD k default = x at hcq hsz HFX HQN
        have HJX := hide fun p hp => ixY_any x p hp hsz
        have HB2 := hide fun j (hj : j < x.size) h => unhide HFX (txC_bad hj h)
        have HB3 := hide fun h => unhide HFX (txC_far (t := x) h)
        have HB4 := hide fun h1 h2 => unhide HQN (txC_true (t := x) h1 h2)
        clear HFX HQN
        obtain ⟨xm, exm⟩ : ∃ m : Nat, x.size = m := ⟨_, rfl⟩
        unfold maxLen at hsz
        rw [exm] at hsz HJX HB2 HB3 HB4
        go_wp2
        go_loopg [7] xm (fun g iv wr => ∃ j : Nat, j ≤ xm ∧ g = xm - j ∧ iv = .int .i64 j ∧ Hid (∀ q, q < j → 32 ≤ byY x q ∧ byY x q ≤ 126) ∧ W = wr)
        case atStart => exact ⟨0, Nat.zero_le _, rfl, rfl, hide (fun j hj => absurd hj (by omega)), rfl⟩
        case round =>
          obtain ⟨j, hj, rfl, rfl, HR, rfl⟩ := hrel
          by_cases hjx : j < xm
          case pos =>
            have hji : (j : Int) < (xm : Int) := by omega
            have hix := unhide HJX j hjx
            have hbb := byY_bd x j
            have HF5 := hide (unhide HB2 j hjx)
            have HPN5 : Hid ((32 ≤ byY x j ∧ byY x j ≤ 126) → ∀ q, q < j + 1 → 32 ≤ byY x q ∧ byY x q ≤ 126) := by
              show _ → _
              intro h q hq
              by_cases e : q = j
              · rw [e]; exact h
              · exact unhide HR q (by omega)
            generalize byY x j = b at hix hbb HF5 HPN5
            cases hin2 : inB b 32 126
            case false =>
              have hv := unhide HF5 (fun h => by rw [inB_mk h.1 h.2] at hin2; cases hin2)
              clear HF5 HPN5
              go_wp2_with (go_at_call 42; refine (l1In_any _ _ _ _).mono ?_; rintro e w9 ⟨rfl, h9⟩; have h8 := h9.symm; subst h8; clear h9)
              go_ret
              first | exact ⟨rfl, unhide HGE⟩ | exact ⟨by rw [hv]; rfl, unhide HGE⟩
            case true =>
              have HR2 := hide (unhide HPN5 (inB_true hin2))
              clear HF5 HPN5
              go_wp2_with (go_at_call 42; refine (l1In_any _ _ _ _).mono ?_; rintro e w9 ⟨rfl, h9⟩; have h8 := h9.symm; subst h8; clear h9)
              go_roundg (xm - (j + 1))
              case measure => omega
              case rel => exact ⟨j + 1, by omega, rfl, by go_num, HR2, rfl⟩
          case neg =>
          have hji : ¬ (j : Int) < (xm : Int) := by omega
          by_cases h40 : xm ≤ 40
          case neg =>
            have hv := unhide HB3 h40
            have d40 : decide ((40 : Int) < (xm : Int)) = true := decide_eq_true (by omega)
            have h40i : ((40 : Int) < (xm : Int)) := by omega
            go_wp2
            go_ret
            first | exact ⟨rfl, unhide HGE⟩ | exact ⟨by rw [hv]; rfl, unhide HGE⟩
          have d40 : decide ((40 : Int) < (xm : Int)) = false := decide_eq_false (by omega)
          have h40i : ¬ ((40 : Int) < (xm : Int)) := by omega
          have HQ2 := hide (unhide HB4 h40 (fun q hq => unhide HR q (by omega)))
          clear HB2 HB3 HB4 HJX HR
          go_wp2
          go_roundg (tn - (k + 1))
          case measure => omega
          case rel => exact ⟨k + 1, by omega, rfl, by go_num, HQ2, rfl⟩

end Go.Proofs.Ytjpogaidcmndoaa

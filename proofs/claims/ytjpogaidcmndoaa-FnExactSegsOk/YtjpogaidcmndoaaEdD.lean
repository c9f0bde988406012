/- The landed program: isTag, isPlain, isWrongText, isWrongPart, isWrongSeg. Written by wip/mkedd.py. -/
import Derived.Test.YtjpogaidcmndoaaEdS
import Derived.Test.YtjpogaidcmndoaaPbD
namespace Go.Proofs.Ytjpogaidcmndoaa
open Go.RowKit

theorem tgC_true {t : ByteArray} (h1 : t.size = 3) (h2 : ∀ j, j < t.size → 65 ≤ byY t j ∧ byY t j ≤ 90) : tgC t = true := by unfold tgC; rw [decide_eq_true h1, decide_eq_true h2]; rfl
theorem tgC_far {t : ByteArray} (h1 : ¬ t.size = 3) : tgC t = false := by unfold tgC; rw [decide_eq_false h1]; rfl
theorem tgC_bad {t : ByteArray} {j : Nat} (hj : j < t.size) (h : ¬ (65 ≤ byY t j ∧ byY t j ≤ 90)) : tgC t = false := by unfold tgC; rw [decide_eq_false (fun h2 : ∀ j, j < t.size → 65 ≤ byY t j ∧ byY t j ≤ 90 => h (h2 j hj)), Bool.and_false]

set_option maxHeartbeats 1600000 in
theorem isTag_any (t : ByteArray) (w : World) (ht : t.size ≤ maxLen) : Calls Try.prog 59 #[.string t] w fun e w' => e = .returned (.bool (tgC t)) ∧ w' = w := by
  have HIX := hide fun p hp => ixY_any t p hp ht
  obtain ⟨V, eV⟩ : ∃ z, z = tgC t := ⟨_, rfl⟩
  have F1 : Hid (¬ t.size = 3 → V = false) := by show _ → _; intro h; rw [eV]; exact tgC_far h
  have F3 : Hid (∀ j, j < t.size → ¬ (65 ≤ byY t j ∧ byY t j ≤ 90) → V = false) := by show ∀ j, _; intro j hj h; rw [eV]; exact tgC_bad hj h
  have FT : Hid (t.size = 3 → (∀ j, j < t.size → 65 ≤ byY t j ∧ byY t j ≤ 90) → V = true) := by show _ → _; intro h1 h2; rw [eV]; exact tgC_true h1 h2
  rw [← eV]
  obtain ⟨m, em⟩ : ∃ m : Nat, t.size = m := ⟨_, rfl⟩
  unfold maxLen at ht
  rw [em] at ht F1 F3 FT HIX
  clear eV
  by_cases h3 : m = 3
  case neg =>
    have d3 : ((m : Int) != 3) = true := by simp; omega
    have h3i : ¬ ((m : Int) = 3) := by omega
    have hv := unhide F1 h3
    clear F1 F3 FT HIX
    go_enter Try.func59, Try.ntmps59
    go_wp2
    go_ret
    first | exact ⟨rfl, rfl⟩ | exact ⟨by rw [hv]; rfl, rfl⟩
  subst h3
  go_enter Try.func59, Try.ntmps59
  go_wp2
  go_loopg [9] 3 (fun g iv wr => ∃ k : Nat, k ≤ 3 ∧ g = 3 - k ∧ iv = .int .i64 k ∧ Hid (∀ j, j < k → 65 ≤ byY t j ∧ byY t j ≤ 90) ∧ w = wr)
  case atStart => exact ⟨0, Nat.zero_le _, rfl, rfl, hide (fun j hj => absurd hj (by omega)), rfl⟩
  case round =>
    obtain ⟨k, hk, rfl, rfl, HP, rfl⟩ := hrel
    by_cases hkn : k < 3
    case neg =>
      have hki : ¬ (k : Int) < 3 := by omega
      have hv := unhide FT (by first | rfl | trivial) (fun j hj => unhide HP j (by omega))
      go_wp2
      go_ret
      first | exact ⟨rfl, rfl⟩ | exact ⟨by rw [hv]; rfl, rfl⟩
    have hki : (k : Int) < 3 := by omega
    have hix := unhide HIX k hkn
    have hbb := byY_bd t k
    have HF := hide (unhide F3 k hkn)
    have HPN : Hid ((65 ≤ byY t k ∧ byY t k ≤ 90) → ∀ j, j < k + 1 → 65 ≤ byY t j ∧ byY t j ≤ 90) := by
      show _ → _
      intro h j hj
      by_cases e : j = k
      · rw [e]; exact h
      · exact unhide HP j (by omega)
    generalize byY t k = b at hix hbb HF HPN
    by_cases h1 : b < 65
    · have d1 : decide (b < 65) = true := decide_eq_true h1
      have hv := unhide HF (by omega)
      clear HF HPN F1 F3 FT
      go_wp2
      go_ret
      first | exact ⟨rfl, rfl⟩ | exact ⟨by rw [hv]; rfl, rfl⟩
    have d1 : decide (b < 65) = false := decide_eq_false h1
    by_cases h2 : 90 < b
    · have d2 : decide (90 < b) = true := decide_eq_true h2
      have hv := unhide HF (by omega)
      clear HF HPN F1 F3 FT
      go_wp2
      go_ret
      first | exact ⟨rfl, rfl⟩ | exact ⟨by rw [hv]; rfl, rfl⟩
    have d2 : decide (90 < b) = false := decide_eq_false h2
    have HP2 := hide (unhide HPN (by omega))
    clear HF HPN
    go_wp2
    go_roundg (3 - (k + 1))
    case measure => omega
    case rel => exact ⟨k + 1, by omega, rfl, by go_num, HP2, rfl⟩

theorem isPlain_any (b : Int) (w : World) : Calls Try.prog 82 #[.int .u8 b] w fun e w' => e = .returned (.bool (inB b 32 126)) ∧ w' = w := by
  by_cases h2 : 32 ≤ b
  · by_cases h3 : b ≤ 126
    · have e : inB b 32 126 = true := inB_mk h2 h3
      rw [e]
      have d1 : decide (32 ≤ b) = true := decide_eq_true h2
      have d2 : decide (b ≤ 126) = true := decide_eq_true h3
      go_enter Try.func82, Try.ntmps82
      go_wp2
      go_ret
      exact ⟨rfl, rfl⟩
    · have e : inB b 32 126 = false := by unfold inB; simp [h3]
      rw [e]
      have d1 : decide (32 ≤ b) = true := decide_eq_true h2
      have d2 : decide (b ≤ 126) = false := decide_eq_false h3
      go_enter Try.func82, Try.ntmps82
      go_wp2
      go_ret
      exact ⟨rfl, rfl⟩
  · have e : inB b 32 126 = false := by unfold inB; simp [h2]
    rw [e]
    have d1 : decide (32 ≤ b) = false := decide_eq_false h2
    go_enter Try.func82, Try.ntmps82
    go_wp2
    go_ret
    exact ⟨rfl, rfl⟩

/-- A text that is not right. -/
def wtB (t : ByteArray) : Bool := !txC t
theorem wtB_no {t : ByteArray} (h : wtB t = false) : txC t = true := by unfold wtB at h; simpa using h
theorem wtB_yes {t : ByteArray} (h : wtB t = true) : txC t = false := by unfold wtB at h; simpa using h

set_option maxHeartbeats 1600000 in
theorem isWrongText_any (t : ByteArray) (w : World) (ht : t.size ≤ maxLen) : Calls Try.prog 81 #[.string t] w fun e w' => e = .returned (.bool (wtB t)) ∧ w' = w := by
  have HIX := hide fun p hp => ixY_any t p hp ht
  obtain ⟨V, eV⟩ : ∃ z, z = wtB t := ⟨_, rfl⟩
  have F1 : Hid (¬ t.size ≤ 40 → V = true) := by show _ → _; intro h; rw [eV, wtB, txC_far h]; rfl
  have F3 : Hid (∀ j, j < t.size → ¬ (32 ≤ byY t j ∧ byY t j ≤ 126) → V = true) := by show ∀ j, _; intro j hj h; rw [eV, wtB, txC_bad hj h]; rfl
  have FT : Hid (t.size ≤ 40 → (∀ j, j < t.size → 32 ≤ byY t j ∧ byY t j ≤ 126) → V = false) := by show _ → _; intro h1 h2; rw [eV, wtB, txC_true h1 h2]; rfl
  rw [← eV]
  obtain ⟨m, em⟩ : ∃ m : Nat, t.size = m := ⟨_, rfl⟩
  unfold maxLen at ht
  rw [em] at ht F1 F3 FT HIX
  clear eV
  by_cases h3 : m ≤ 40
  case neg =>
    have d3 : decide ((40 : Int) < (m : Int)) = true := decide_eq_true (by omega)
    have hv := unhide F1 h3
    clear F1 F3 FT HIX
    go_enter Try.func81, Try.ntmps81
    go_wp2
    go_ret
    first | exact ⟨rfl, rfl⟩ | exact ⟨by rw [hv]; rfl, rfl⟩
  have d3 : decide ((40 : Int) < (m : Int)) = false := decide_eq_false (by omega)
  go_enter Try.func81, Try.ntmps81
  go_wp2
  go_loopg [9] m (fun g iv wr => ∃ k : Nat, k ≤ m ∧ g = m - k ∧ iv = .int .i64 k ∧ Hid (∀ j, j < k → 32 ≤ byY t j ∧ byY t j ≤ 126) ∧ w = wr)
  case atStart => exact ⟨0, Nat.zero_le _, rfl, rfl, hide (fun j hj => absurd hj (by omega)), rfl⟩
  case round =>
    obtain ⟨k, hk, rfl, rfl, HP, rfl⟩ := hrel
    by_cases hkn : k < m
    case neg =>
      have hki : ¬ (k : Int) < (m : Int) := by omega
      have hv := unhide FT h3 (fun j hj => unhide HP j (by omega))
      go_wp2
      go_ret
      first | exact ⟨rfl, rfl⟩ | exact ⟨by rw [hv]; rfl, rfl⟩
    have hki : (k : Int) < (m : Int) := by omega
    have hix := unhide HIX k hkn
    have hbb := byY_bd t k
    have HF := hide (unhide F3 k hkn)
    have HPN : Hid ((32 ≤ byY t k ∧ byY t k ≤ 126) → ∀ j, j < k + 1 → 32 ≤ byY t j ∧ byY t j ≤ 126) := by
      show _ → _
      intro h j hj
      by_cases e : j = k
      · rw [e]; exact h
      · exact unhide HP j (by omega)
    generalize byY t k = b at hix hbb HF HPN
    have HQ := hide (isPlain_any b w)
    cases hin : inB b 32 126
    case false =>
      have hv := unhide HF (fun h => by rw [inB_mk h.1 h.2] at hin; cases hin)
      rw [hin] at HQ
      clear HF HPN hin F1 F3 FT
      go_wp2_with fail
      refine (unhide HQ).mono ?_
      rintro e w1 ⟨rfl, h9⟩
      have h8 := h9.symm
      subst h8
      clear h9
      go_wp2
      go_ret
      first | exact ⟨rfl, rfl⟩ | exact ⟨by rw [hv]; rfl, rfl⟩
    case true =>
      have HP2 := hide (unhide HPN (inB_true hin))
      rw [hin] at HQ
      clear HF HPN hin
      go_wp2_with fail
      refine (unhide HQ).mono ?_
      rintro e w1 ⟨rfl, h9⟩
      have h8 := h9.symm
      subst h8
      clear h9
      go_wp2
      go_roundg (m - (k + 1))
      case measure => omega
      case rel => exact ⟨k + 1, by omega, rfl, by go_num, HP2, rfl⟩

theorem egWt (args : Array Value) (w : World) : (callFunc 81 args).run Try.prog w = .ok (.enter 81 args) w := by simp [go_sem]

set_option maxHeartbeats 1600000 in
theorem idxWt_any (v : Value) (L : List ByteArray) (w : World) (h : SIn w v L) (hx : ∀ k, k < L.length → (L.getD k default).size ≤ maxLen) :
    Calls Try.prog 84 #[v, .func (.func 81) #[] #[]] w fun e w' => (∃ r : Int, e = .returned (.int .i64 r) ∧ ((r = -1 ∧ ∀ k, k < L.length → wtB (L.getD k default) = false) ∨ (0 ≤ r ∧ ∃ k, k < L.length ∧ wtB (L.getD k default) = true))) ∧ w = w' := by
  obtain ⟨ao, cap, rfl, hl, hm, hc⟩ := h
  unfold maxLen at hm
  have HC := hide hc
  have HX := hide hx
  have eg := egWt
  clear hc hx
  go_enter Try.func84, Try.ntmps84
  go_wp2
  go_loopg [8] L.length (fun g iv wr => ∃ k : Nat, k ≤ L.length ∧ g = L.length - k ∧ iv = .int .i64 k ∧ Hid (∀ i, i < k → wtB (L.getD i default) = false) ∧ w = wr)
  case atStart => exact ⟨0, Nat.zero_le _, rfl, rfl, hide (fun i hi => absurd hi (by omega)), rfl⟩
  case round =>
    obtain ⟨k, hk, rfl, rfl, HP, rfl⟩ := hrel
    by_cases hkn : k < L.length
    · obtain ⟨b, o, rfl, hcell⟩ := unhide HC k hkn
      have HPN : Hid (wtB (L.getD k default) = false → ∀ i, i < k + 1 → wtB (L.getD i default) = false) := by
        show _ → _
        intro h i hi
        by_cases e : i = k
        · rw [e]; exact h
        · exact unhide HP i (by omega)
      have HFK : Hid (wtB (L.getD k default) = true → ∃ j, j < L.length ∧ wtB (L.getD j default) = true) := by show _ → _; exact fun h => ⟨k, hkn, h⟩
      have HQ := hide (isWrongText_any (L.getD k default) w (unhide HX k hkn))
      generalize L.getD k default = s at hcell HPN HFK HQ
      have hki : (k : Int) < L.length := by omega
      cases hr : wtB s
      case false =>
        have HP2 := hide (unhide HPN hr)
        rw [hr] at HQ
        clear HPN HFK hr
        go_wp2_with fail
        refine (unhide HQ).mono ?_
        rintro e w1 ⟨rfl, h9⟩
        have h8 := h9.symm
        subst h8
        clear h9
        go_wp2
        go_roundg (L.length - (k + 1))
        case measure => omega
        case rel => exact ⟨k + 1, by omega, rfl, by go_num, HP2, rfl⟩
      case true =>
        have HT := hide (unhide HFK hr)
        rw [hr] at HQ
        clear HPN HFK hr
        go_wp2_with fail
        refine (unhide HQ).mono ?_
        rintro e w1 ⟨rfl, h9⟩
        have h8 := h9.symm
        subst h8
        clear h9
        go_wp2
        go_ret
        exact ⟨⟨_, rfl, Or.inr ⟨by omega, unhide HT⟩⟩, rfl⟩
    · have hki : ¬ (k : Int) < L.length := by omega
      have HE := hide (fun i (hi : i < L.length) => unhide HP i (by omega))
      go_wp2
      go_ret
      exact ⟨⟨_, rfl, Or.inl ⟨rfl, unhide HE⟩⟩, rfl⟩

set_option maxHeartbeats 800000 in
theorem conWt_any (v : Value) (L : List ByteArray) (w : World) (h : SIn w v L) (hx : ∀ k, k < L.length → (L.getD k default).size ≤ maxLen) :
    Calls Try.prog 75 #[v, .func (.func 81) #[] #[]] w fun e w' => (∃ c : Bool, e = .returned (.bool c) ∧ ((c = false ∧ ∀ k, k < L.length → wtB (L.getD k default) = false) ∨ (c = true ∧ ∃ k, k < L.length ∧ wtB (L.getD k default) = true))) ∧ w = w' := by
  have HQ := hide (idxWt_any v L w h hx)
  obtain ⟨ao, cap, rfl, -⟩ := h
  clear hx
  go_enter Try.func75, Try.ntmps75
  go_wp2_with fail
  refine (unhide HQ).mono ?_
  rintro e w1 ⟨⟨r, rfl, hr⟩, rfl⟩
  rcases hr with ⟨hr, h2⟩ | ⟨hr, h2⟩
  · subst hr
    have H2 := hide h2
    clear h2
    go_wp2
    go_ret
    exact ⟨⟨_, rfl, Or.inl ⟨rfl, unhide H2⟩⟩, rfl⟩
  · have d1 : decide (0 ≤ r) = true := decide_eq_true hr
    have H2 := hide h2
    clear h2
    go_wp2
    go_ret
    exact ⟨⟨_, rfl, Or.inr ⟨rfl, unhide H2⟩⟩, rfl⟩

set_option maxHeartbeats 1600000 in
theorem isWrongPart_any (v : Value) (T : List ByteArray) (w : World) (h : SIn w v T) (hx : ∀ k, k < T.length → (T.getD k default).size ≤ maxLen) :
    Calls Try.prog 61 #[v] w fun e w' => e = .returned (.bool (!paC T)) ∧ w = w' := by
  have HQ := hide (conWt_any v T w h hx)
  obtain ⟨V, eV⟩ : ∃ z, z = !paC T := ⟨_, rfl⟩
  have F1 : Hid (inB T.length 1 10 = false → V = true) := by show _ → _; intro h; rw [eV, paC_many h]; rfl
  have F2 : Hid (∀ k, k < T.length → txC (T.getD k default) = false → V = true) := by show ∀ k, _; intro k hk h; rw [eV, paC_bad hk h]; rfl
  have F3 : Hid (inB T.length 1 10 = true → (∀ k, k < T.length → txC (T.getD k default) = true) → V = false) := by show _ → _; intro h1 h2; rw [eV, paC_true h1 h2]; rfl
  rw [← eV]
  obtain ⟨ao, cap, rfl, hl, hm, -⟩ := h
  unfold maxLen at hm
  have HWI := hide (within_any (T.length : Int) 1 10 w)
  clear eV hx
  cases hin : inB T.length 1 10
  case false =>
    have hv := unhide F1 hin
    rw [hin] at HWI
    clear HQ F1 F2 F3 hin
    go_enter Try.func61, Try.ntmps61
    go_wp2_with fail
    refine (unhide HWI).mono ?_
    rintro e w1 ⟨rfl, h9⟩
    have h8 := h9.symm
    subst h8
    clear h9
    go_wp2
    go_ret
    first | exact ⟨rfl, rfl⟩ | exact ⟨by rw [hv]; rfl, rfl⟩
  case true =>
    have F4 := hide (unhide F3 hin)
    rw [hin] at HWI
    clear F1 F3 hin
    go_enter Try.func61, Try.ntmps61
    go_wp2_with fail
    refine (unhide HWI).mono ?_
    rintro e w1 ⟨rfl, h9⟩
    have h8 := h9.symm
    subst h8
    clear h9
    go_wp2_with fail
    refine (unhide HQ).mono ?_
    rintro e w1 ⟨⟨c, rfl, hr⟩, h9⟩
    subst h9
    rcases hr with ⟨rfl, h3⟩ | ⟨rfl, h3⟩
    · have hv : V = false := unhide F4 (fun k hk => wtB_no (h3 k hk))
      clear h3 HQ F2 F4
      go_wp2
      go_ret
      first | exact ⟨rfl, rfl⟩ | exact ⟨by rw [hv]; rfl, rfl⟩
    · have hv : V = true := by obtain ⟨k, hk, h4⟩ := h3; exact unhide F2 k hk (wtB_yes h4)
      clear h3 HQ F2 F4
      go_wp2
      go_ret
      first | exact ⟨rfl, rfl⟩ | exact ⟨by rw [hv]; rfl, rfl⟩
theorem isWrongPart_b (v : Value) (T : List ByteArray) (w : World) (h : SIn w v T) (hx : ∀ k, k < T.length → (T.getD k default).size ≤ maxLen) :
    Calls Try.prog 61 #[v] w fun e w' => e = .returned (.bool (!paC T)) ∧ Below w.heap.size w w' := (isWrongPart_any v T w h hx).mono fun _ _ ⟨h1, h2⟩ => ⟨h1, by rw [← h2]; exact Below.refl _ _⟩

theorem egPt (args : Array Value) (w : World) : (callFunc 61 args).run Try.prog w = .ok (.enter 61 args) w := by simp [go_sem]

set_option maxHeartbeats 1600000 in
theorem idxPt_any (v : Value) (L : PartsT) (w : World) (h : SsIn w v L) (hx : TxSs L) :
    Calls Try.prog 80 #[v, .func (.func 61) #[] #[]] w fun e w' => (∃ r : Int, e = .returned (.int .i64 r) ∧ ((r = -1 ∧ ∀ k, k < L.length → paC (L.getD k default) = true) ∨ (0 ≤ r ∧ ∃ k, k < L.length ∧ paC (L.getD k default) = false))) ∧ Below w.heap.size w w' := by
  have HI := hide h
  have HX := hide hx
  obtain ⟨ao, cap, rfl, hl, hm, -⟩ := h
  unfold maxLen at hm
  have eg := egPt
  have HW0 := hide (Below.refl w.heap.size w)
  clear hx
  go_enter Try.func80, Try.ntmps80
  go_wp2
  go_loopg [8] L.length (fun g iv wr => ∃ k : Nat, k ≤ L.length ∧ g = L.length - k ∧ iv = .int .i64 k ∧ Hid (∀ i, i < k → paC (L.getD i default) = true) ∧ Hid (Below w.heap.size w wr))
  case atStart => exact ⟨0, Nat.zero_le _, rfl, rfl, hide (fun i hi => absurd hi (by omega)), HW0⟩
  case round =>
    clear HW0
    obtain ⟨k, hk, rfl, rfl, HP, HW⟩ := hrel
    by_cases hkn : k < L.length
    · obtain ⟨b, o, na, nc, n, T, rfl, hc0, hr0, EX, EM, hn⟩ := (unhide HI).at hkn
      have hxk := unhide HX k hkn
      rw [unhide EX] at hxk
      have HPN : Hid (paC (L.getD k default) = true → ∀ i, i < k + 1 → paC (L.getD i default) = true) := by
        show _ → _
        intro h i hi
        by_cases e : i = k
        · rw [e]; exact h
        · exact unhide HP i (by omega)
      have HFK : Hid (paC (L.getD k default) = false → ∃ j, j < L.length ∧ paC (L.getD j default) = false) := by show _ → _; exact fun h => ⟨k, hkn, h⟩
      have HQ := hide (fun V (hV : Below w.heap.size w V) => isWrongPart_b (.slice na n nc) T V (hr0.below hV) hxk)
      rw [unhide EX] at HPN HFK
      have g0 := wcell3 hc0 (unhide HW)
      have hki : (k : Int) < L.length := by omega
      cases hr : paC T
      case true =>
        have HP2 := hide (unhide HPN hr)
        rw [hr] at HQ
        clear HPN HFK hr hc0 hr0 hxk
        go_wp2_with fail
        refine (unhide HQ _ (unhide HW)).mono ?_
        rintro e w1 ⟨rfl, hb⟩
        have HW1 := hide (Below.step (unhide HW) hb)
        clear hb
        go_wp2
        go_roundg (L.length - (k + 1))
        case measure => omega
        case rel => exact ⟨k + 1, by omega, rfl, by go_num, HP2, HW1⟩
      case false =>
        have HT := hide (unhide HFK hr)
        rw [hr] at HQ
        clear HPN HFK hr hc0 hr0 hxk
        go_wp2_with fail
        refine (unhide HQ _ (unhide HW)).mono ?_
        rintro e w1 ⟨rfl, hb⟩
        have HW1 := hide (Below.step (unhide HW) hb)
        clear hb
        go_wp2
        go_ret
        exact ⟨⟨_, rfl, Or.inr ⟨by omega, unhide HT⟩⟩, unhide HW1⟩
    · have hki : ¬ (k : Int) < L.length := by omega
      have HE := hide (fun i (hi : i < L.length) => unhide HP i (by omega))
      go_wp2
      go_ret
      exact ⟨⟨_, rfl, Or.inl ⟨rfl, unhide HE⟩⟩, unhide HW⟩

set_option maxHeartbeats 800000 in
theorem conPt_any (v : Value) (L : PartsT) (w : World) (h : SsIn w v L) (hx : TxSs L) :
    Calls Try.prog 60 #[v, .func (.func 61) #[] #[]] w fun e w' => (∃ c : Bool, e = .returned (.bool c) ∧ ((c = false ∧ ∀ k, k < L.length → paC (L.getD k default) = true) ∨ (c = true ∧ ∃ k, k < L.length ∧ paC (L.getD k default) = false))) ∧ Below w.heap.size w w' := by
  have HQ := hide (idxPt_any v L w h hx)
  obtain ⟨ao, cap, rfl, -⟩ := h
  clear hx
  go_enter Try.func60, Try.ntmps60
  go_wp2_with fail
  refine (unhide HQ).mono ?_
  rintro e w1 ⟨⟨r, rfl, hr⟩, hb⟩
  have HB := hide hb
  clear hb
  rcases hr with ⟨hr, h2⟩ | ⟨hr, h2⟩
  · subst hr
    have H2 := hide h2
    clear h2
    go_wp2
    go_ret
    exact ⟨⟨_, rfl, Or.inl ⟨rfl, unhide H2⟩⟩, unhide HB⟩
  · have d1 : decide (0 ≤ r) = true := decide_eq_true hr
    have H2 := hide h2
    clear h2
    go_wp2
    go_ret
    exact ⟨⟨_, rfl, Or.inr ⟨rfl, unhide H2⟩⟩, unhide HB⟩

set_option maxHeartbeats 3200000 in
theorem isWrongSeg_any (t : ByteArray) (na : Option Addr) (n nc : Nat) (P : PartsT) (w : World) (h : SsIn w (.slice na n nc) P) (ht : t.size ≤ maxLen) (hx : TxSs P) :
    Calls Try.prog 33 #[vSeg t (.slice na n nc)] w fun e w' => e = .returned (.bool (!sgC (t, P))) ∧ Below w.heap.size w w' := by
  have HW := hide (Below.alloc1 w (.cells #[.string t, .slice na n nc] 33))
  have HB := hide (ownV_alloc w #[.string t, .slice na n nc] 33)
  have HQ := hide fun V (hV : Below w.heap.size w V) => conPt_any _ P V (h.below hV) hx
  have HTG := hide fun V => isTag_any t V ht
  have hn := h.slice
  obtain ⟨V, eV⟩ : ∃ z, z = !sgC (t, P) := ⟨_, rfl⟩
  have E0 : sgC (t, P) = (tgC t && decide (P.length ≤ 20) && decide (∀ p, p < P.length → paC (P.getD p default) = true)) := rfl
  have F1 : Hid (tgC t = false → V = true) := by show _ → _; intro h; rw [eV, E0, h]; rfl
  have F2 : Hid (¬ P.length ≤ 20 → V = true) := by show _ → _; intro h; rw [eV, sgC_many h]; rfl
  have F4 : Hid (∀ p, p < P.length → paC (P.getD p default) = false → V = true) := by show ∀ p, _; intro p hp h; rw [eV, sgC_part hp h]; rfl
  have FT : Hid (tgC t = true → P.length ≤ 20 → (∀ p, p < P.length → paC (P.getD p default) = true) → V = false) := by show _ → _; intro h1 h3 h4; rw [eV, E0, h1, decide_eq_true h3, decide_eq_true h4]; rfl
  rw [← eV]
  clear eV h hx E0
  obtain ⟨g0, eg0⟩ : ∃ z, z = w.heap.size := ⟨_, rfl⟩
  obtain ⟨W, eW⟩ : ∃ z, z = w.alloc (.cells #[.string t, .slice na n nc] 33) := ⟨_, rfl⟩
  rw [← eW] at HW HB
  rw [← eg0] at HB
  obtain ⟨hpl, -, hpn⟩ := hn
  unfold maxLen at ht hpn
  unfold vSeg
  go_enter Try.func33, Try.ntmps33
  go_upto_region 1 with (fail)
  rw [← eW, ← eg0]
  clear eW eg0
  have b0 := (unhide HB).cell (i := 0) rfl
  have b1 := (unhide HB).cell (i := 1) rfl
  go_wp2_with fail
  refine (unhide HTG W).mono ?_
  rintro e w1 ⟨rfl, h9⟩
  have h8 := h9.symm
  subst h8
  clear h9
  cases h1 : tgC t
  case false =>
    have hv := unhide F1 h1
    clear F1 F2 F4 FT HQ
    go_wp2
    go_ret
    first | exact ⟨rfl, unhide HW⟩ | exact ⟨by rw [hv]; rfl, unhide HW⟩
  by_cases h20 : n ≤ 20
  case neg =>
    have hv := unhide F2 (by omega)
    have d20 : decide ((20 : Int) < (n : Int)) = true := decide_eq_true (by omega)
    clear F1 F2 F4 FT HQ
    go_wp2
    go_ret
    first | exact ⟨rfl, unhide HW⟩ | exact ⟨by rw [hv]; rfl, unhide HW⟩
  have d20 : decide ((20 : Int) < (n : Int)) = false := decide_eq_false (by omega)
  have FT2 := hide (unhide FT h1 (by omega))
  clear F1 F2 FT
  go_wp2_with fail
  refine (unhide HQ _ (unhide HW)).mono ?_
  rintro e w1 ⟨⟨c, rfl, hr⟩, hb⟩
  have HW1 := hide (Below.step (unhide HW) hb)
  clear hb
  rcases hr with ⟨rfl, h3⟩ | ⟨rfl, h3⟩
  · have hv : V = false := unhide FT2 h3
    clear h3 HQ F4 FT2
    go_wp2
    go_ret
    first | exact ⟨rfl, unhide HW1⟩ | exact ⟨by rw [hv]; rfl, unhide HW1⟩
  · have hv : V = true := by obtain ⟨k, hk, h4⟩ := h3; exact unhide F4 k hk h4
    clear h3 HQ F4 FT2
    go_wp2
    go_ret
    first | exact ⟨rfl, unhide HW1⟩ | exact ⟨by rw [hv]; rfl, unhide HW1⟩

theorem egSg (args : Array Value) (w : World) : (callFunc 33 args).run Try.prog w = .ok (.enter 33 args) w := by simp [go_sem]

set_option maxHeartbeats 1600000 in
theorem idxSg_any (v : Value) (L : List SegT) (w : World) (h : SgsIn w v L) (hx : TxSg L) :
    Calls Try.prog 58 #[v, .func (.func 33) #[] #[]] w fun e w' => (∃ r : Int, e = .returned (.int .i64 r) ∧ ((r = -1 ∧ ∀ k, k < L.length → sgC (L.getD k default) = true) ∨ (0 ≤ r ∧ ∃ k, k < L.length ∧ sgC (L.getD k default) = false))) ∧ Below w.heap.size w w' := by
  have HI := hide h
  have HX := hide hx
  obtain ⟨ao, cap, rfl, hl, hm, -⟩ := h
  unfold maxLen at hm
  have eg := egSg
  have HW0 := hide (Below.refl w.heap.size w)
  clear hx
  go_enter Try.func58, Try.ntmps58
  go_wp2
  go_loopg [8] L.length (fun g iv wr => ∃ k : Nat, k ≤ L.length ∧ g = L.length - k ∧ iv = .int .i64 k ∧ Hid (∀ i, i < k → sgC (L.getD i default) = true) ∧ Hid (Below w.heap.size w wr))
  case atStart => exact ⟨0, Nat.zero_le _, rfl, rfl, hide (fun i hi => absurd hi (by omega)), HW0⟩
  case round =>
    clear HW0
    obtain ⟨k, hk, rfl, rfl, HP, HW⟩ := hrel
    by_cases hkn : k < L.length
    · obtain ⟨b, o, na, nc, n, t, P, rfl, hc0, hc1, hr0, EX, EM, hn⟩ := (unhide HI).at hkn
      have hxk := unhide HX k hkn
      rw [unhide EX] at hxk
      have HPN : Hid (sgC (L.getD k default) = true → ∀ i, i < k + 1 → sgC (L.getD i default) = true) := by
        show _ → _
        intro h i hi
        by_cases e : i = k
        · rw [e]; exact h
        · exact unhide HP i (by omega)
      have HFK : Hid (sgC (L.getD k default) = false → ∃ j, j < L.length ∧ sgC (L.getD j default) = false) := by show _ → _; exact fun h => ⟨k, hkn, h⟩
      have HQ := hide (fun V (hV : Below w.heap.size w V) => isWrongSeg_any t na n nc P V (hr0.below hV) hxk.1 hxk.2)
      rw [unhide EX] at HPN HFK
      have g0 := wcell3 hc0 (unhide HW)
      have g1 := wcell3 hc1 (unhide HW)
      unfold vSeg at HQ
      have hki : (k : Int) < L.length := by omega
      cases hr : sgC (t, P)
      case true =>
        have HP2 := hide (unhide HPN hr)
        rw [hr] at HQ
        clear HPN HFK hr hc0 hc1 hr0 hxk
        go_wp2_with fail
        refine (unhide HQ _ (unhide HW)).mono ?_
        rintro e w1 ⟨rfl, hb⟩
        have HW1 := hide (Below.step (unhide HW) hb)
        clear hb
        go_wp2
        go_roundg (L.length - (k + 1))
        case measure => omega
        case rel => exact ⟨k + 1, by omega, rfl, by go_num, HP2, HW1⟩
      case false =>
        have HT := hide (unhide HFK hr)
        rw [hr] at HQ
        clear HPN HFK hr hc0 hc1 hr0 hxk
        go_wp2_with fail
        refine (unhide HQ _ (unhide HW)).mono ?_
        rintro e w1 ⟨rfl, hb⟩
        have HW1 := hide (Below.step (unhide HW) hb)
        clear hb
        go_wp2
        go_ret
        exact ⟨⟨_, rfl, Or.inr ⟨by omega, unhide HT⟩⟩, unhide HW1⟩
    · have hki : ¬ (k : Int) < L.length := by omega
      have HE := hide (fun i (hi : i < L.length) => unhide HP i (by omega))
      go_wp2
      go_ret
      exact ⟨⟨_, rfl, Or.inl ⟨rfl, unhide HE⟩⟩, unhide HW⟩

set_option maxHeartbeats 800000 in
theorem conSg_any (v : Value) (L : List SegT) (w : World) (h : SgsIn w v L) (hx : TxSg L) :
    Calls Try.prog 32 #[v, .func (.func 33) #[] #[]] w fun e w' => (∃ c : Bool, e = .returned (.bool c) ∧ ((c = false ∧ ∀ k, k < L.length → sgC (L.getD k default) = true) ∨ (c = true ∧ ∃ k, k < L.length ∧ sgC (L.getD k default) = false))) ∧ Below w.heap.size w w' := by
  have HQ := hide (idxSg_any v L w h hx)
  obtain ⟨ao, cap, rfl, -⟩ := h
  clear hx
  go_enter Try.func32, Try.ntmps32
  go_wp2_with fail
  refine (unhide HQ).mono ?_
  rintro e w1 ⟨⟨r, rfl, hr⟩, hb⟩
  have HB := hide hb
  clear hb
  rcases hr with ⟨hr, h2⟩ | ⟨hr, h2⟩
  · subst hr
    have H2 := hide h2
    clear h2
    go_wp2
    go_ret
    exact ⟨⟨_, rfl, Or.inl ⟨rfl, unhide H2⟩⟩, unhide HB⟩
  · have d1 : decide (0 ≤ r) = true := decide_eq_true hr
    have H2 := hide h2
    clear h2
    go_wp2
    go_ret
    exact ⟨⟨_, rfl, Or.inr ⟨rfl, unhide H2⟩⟩, unhide HB⟩

end Go.Proofs.Ytjpogaidcmndoaa

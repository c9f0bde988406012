/- The landed program: posts' texts, PartyOk. Written by wip/mkpb.py. -/
import Derived.Test.YtjpogaidcmndoaaPaB
import Derived.Test.YtjpogaidcmndoaaWalkD
namespace Go.Proofs.Ytjpogaidcmndoaa
open Go.RowKit

/-- A text of a post that is too long. -/
def lgB (t : ByteArray) : Bool := !decide (t.size ≤ 40)
theorem lgB_no {t : ByteArray} (h : lgB t = false) : t.size ≤ 40 := by unfold lgB at h; simpa using h
theorem lgB_yes {t : ByteArray} (h : lgB t = true) : ¬ t.size ≤ 40 := by unfold lgB at h; simpa using h
theorem isLong_any (t : ByteArray) (w : World) : Calls Try.prog 76 #[.string t] w fun e w' => e = .returned (.bool (lgB t)) ∧ w' = w := by
  obtain ⟨m, em⟩ : ∃ m : Nat, t.size = m := ⟨_, rfl⟩
  have EV : lgB t = !decide (m ≤ 40) := by unfold lgB; rw [em]
  rw [EV]
  clear EV
  by_cases h : m ≤ 40
  · have d : decide ((40 : Int) < (m : Int)) = false := decide_eq_false (by omega)
    rw [decide_eq_true h]
    go_enter Try.func76, Try.ntmps76
    go_wp2
    go_ret
    exact ⟨rfl, rfl⟩
  · have d : decide ((40 : Int) < (m : Int)) = true := decide_eq_true (by omega)
    rw [decide_eq_false h]
    go_enter Try.func76, Try.ntmps76
    go_wp2
    go_ret
    exact ⟨rfl, rfl⟩

theorem egLg (args : Array Value) (w : World) : (callFunc 76 args).run Try.prog w = .ok (.enter 76 args) w := by simp [go_sem]

set_option maxHeartbeats 1600000 in
theorem idxLg_any (v : Value) (L : List ByteArray) (w : World) (h : SIn w v L) :
    Calls Try.prog 84 #[v, .func (.func 76) #[] #[]] w fun e w' => (∃ r : Int, e = .returned (.int .i64 r) ∧ ((r = -1 ∧ ∀ k, k < L.length → lgB (L.getD k default) = false) ∨ (0 ≤ r ∧ ∃ k, k < L.length ∧ lgB (L.getD k default) = true))) ∧ w = w' := by
  obtain ⟨ao, cap, rfl, hl, hm, hc⟩ := h
  unfold maxLen at hm
  have HC := hide hc
  have eg := egLg
  clear hc
  go_enter Try.func84, Try.ntmps84
  go_wp2
  go_loopg [8] L.length (fun g iv wr => ∃ k : Nat, k ≤ L.length ∧ g = L.length - k ∧ iv = .int .i64 k ∧ Hid (∀ i, i < k → lgB (L.getD i default) = false) ∧ w = wr)
  case atStart => exact ⟨0, Nat.zero_le _, rfl, rfl, hide (fun i hi => absurd hi (by omega)), rfl⟩
  case round =>
    obtain ⟨k, hk, rfl, rfl, HP, rfl⟩ := hrel
    by_cases hkn : k < L.length
    · obtain ⟨b, o, rfl, hcell⟩ := unhide HC k hkn
      have HPN : Hid (lgB (L.getD k default) = false → ∀ i, i < k + 1 → lgB (L.getD i default) = false) := by
        show _ → _
        intro h i hi
        by_cases e : i = k
        · rw [e]; exact h
        · exact unhide HP i (by omega)
      have HFK : Hid (lgB (L.getD k default) = true → ∃ j, j < L.length ∧ lgB (L.getD j default) = true) := by show _ → _; exact fun h => ⟨k, hkn, h⟩
      have HQ := hide (isLong_any (L.getD k default) w)
      generalize L.getD k default = s at hcell HPN HFK HQ
      have hki : (k : Int) < L.length := by omega
      cases hr : lgB s
      case false =>
        have HP2 := hide (unhide HPN hr)
        rw [hr] at HQ
        clear HPN HFK hr
        go_wp2_with fail
        refine (unhide HQ).mono ?_
        rintro e w1 ⟨rfl, h9⟩
        have h8 := h9.symm
        subst h8
        clear h9
        go_wp2
        go_roundg (L.length - (k + 1))
        case measure => omega
        case rel => exact ⟨k + 1, by omega, rfl, by go_num, HP2, rfl⟩
      case true =>
        have HT := hide (unhide HFK hr)
        rw [hr] at HQ
        clear HPN HFK hr
        go_wp2_with fail
        refine (unhide HQ).mono ?_
        rintro e w1 ⟨rfl, h9⟩
        have h8 := h9.symm
        subst h8
        clear h9
        go_wp2
        go_ret
        exact ⟨⟨_, rfl, Or.inr ⟨by omega, unhide HT⟩⟩, rfl⟩
    · have hki : ¬ (k : Int) < L.length := by omega
      have HE := hide (fun i (hi : i < L.length) => unhide HP i (by omega))
      go_wp2
      go_ret
      exact ⟨⟨_, rfl, Or.inl ⟨rfl, unhide HE⟩⟩, rfl⟩

set_option maxHeartbeats 800000 in
theorem conLg_any (v : Value) (L : List ByteArray) (w : World) (h : SIn w v L) :
    Calls Try.prog 75 #[v, .func (.func 76) #[] #[]] w fun e w' => (∃ c : Bool, e = .returned (.bool c) ∧ ((c = false ∧ ∀ k, k < L.length → lgB (L.getD k default) = false) ∨ (c = true ∧ ∃ k, k < L.length ∧ lgB (L.getD k default) = true))) ∧ w = w' := by
  have HQ := hide (idxLg_any v L w h)
  obtain ⟨ao, cap, rfl, -⟩ := h
  go_enter Try.func75, Try.ntmps75
  go_wp2_with fail
  refine (unhide HQ).mono ?_
  rintro e w1 ⟨⟨r, rfl, hr⟩, rfl⟩
  rcases hr with ⟨hr, h2⟩ | ⟨hr, h2⟩
  · subst hr
    have H2 := hide h2
    clear h2
    go_wp2
    go_ret
    exact ⟨⟨_, rfl, Or.inl ⟨rfl, unhide H2⟩⟩, rfl⟩
  · have d1 : decide (0 ≤ r) = true := decide_eq_true hr
    have H2 := hide h2
    clear h2
    go_wp2
    go_ret
    exact ⟨⟨_, rfl, Or.inr ⟨rfl, unhide H2⟩⟩, rfl⟩

set_option maxHeartbeats 1600000 in
theorem implTexts_any (v : Value) (L : List ByteArray) (w : World) (h : SIn w v L) :
    Calls Try.prog 49 #[v] w fun e w' => e = .returned (.bool (txB L)) ∧ w = w' := by
  have HQ := hide (conLg_any v L w h)
  obtain ⟨V, eV⟩ : ∃ z, z = txB L := ⟨_, rfl⟩
  have HF : Hid (∀ k, k < L.length → lgB (L.getD k default) = true → V = false) := by
    show ∀ k, _
    intro k hk h
    rw [eV]; exact txB_false hk (lgB_yes h)
  have HE : Hid ((∀ i, i < L.length → lgB (L.getD i default) = false) → V = decide (L.length ≤ 200)) := by
    show _ → _
    intro h
    rw [eV]; exact txB_end fun i hi => lgB_no (h i hi)
  have HL : Hid (¬ L.length ≤ 200 → V = false) := by
    show _ → _
    intro h
    rw [eV]; unfold txB; simp [h]
  rw [← eV]
  obtain ⟨ao, cap, rfl, hl, hm, -⟩ := h
  unfold maxLen at hm
  clear eV
  by_cases h2 : L.length ≤ 200
  · have d : decide ((L.length : Int) ≤ 200) = true := decide_eq_true (by omega)
    go_enter Try.func49, Try.ntmps49
    go_wp2_with fail
    refine (unhide HQ).mono ?_
    rintro e w1 ⟨⟨c, rfl, hr⟩, rfl⟩
    rcases hr with ⟨rfl, h3⟩ | ⟨rfl, h3⟩
    · have hv : V = true := by rw [unhide HE h3, decide_eq_true h2]
      clear h3 HQ HF HE HL
      go_wp2
      go_ret
      exact ⟨by rw [hv]; rfl, rfl⟩
    · have hv : V = false := by obtain ⟨k, hk, h4⟩ := h3; exact unhide HF k hk h4
      clear h3 HQ HF HE HL
      go_wp2
      go_ret
      exact ⟨by rw [hv]; rfl, rfl⟩
  · have d : decide ((L.length : Int) ≤ 200) = false := decide_eq_false (by omega)
    have hv := unhide HL h2
    clear HQ HF HE HL
    go_enter Try.func49, Try.ntmps49
    go_wp2_with fail
    go_ret
    exact ⟨by rw [hv]; rfl, rfl⟩

set_option maxHeartbeats 1600000 in
theorem implPartyOk_any (sv gv : Value) (S : List ByteArray) (a : Int) (G : List ByteArray) (w : World) (h : PtIn w sv gv S G) :
    Calls Try.prog 25 #[vParty sv a gv] w fun e w' => e = .returned (.bool (ptB (S, a, G))) ∧ Below w.heap.size w w' := by
  have hA := Below.alloc1 w (.cells #[sv, .int .i64 a, gv] 47)
  have H1 := hide (h.1.below hA)
  have H2 := hide (h.2.below hA)
  have HW := hide hA
  have HT := hide fun v L V hv => implTexts_any v L V hv
  obtain ⟨⟨so, sc, rfl, -⟩, ⟨go, gc, rfl, -⟩⟩ := h
  obtain ⟨V, eV⟩ : ∃ z, z = ptB (S, a, G) := ⟨_, rfl⟩
  have EV : Hid (V = (txB S && txB G && inB a 0 S.length)) := eV
  rw [← eV]
  clear eV hA
  unfold vParty
  go_enter Try.func25, Try.ntmps25
  go_wp2_with fail
  refine (unhide HT _ S _ (unhide H1)).mono ?_
  rintro e w1 ⟨rfl, rfl⟩
  cases h1 : txB S
  case false =>
    have hv : V = false := by rw [unhide EV, h1]; rfl
    go_wp2
    go_ret
    exact ⟨by rw [hv]; rfl, unhide HW⟩
  go_wp2_with fail
  refine (unhide HT _ G _ (unhide H2)).mono ?_
  rintro e w1 ⟨rfl, rfl⟩
  cases h2 : txB G
  case false =>
    have hv : V = false := by rw [unhide EV, h1, h2]; rfl
    go_wp2
    go_ret
    exact ⟨by rw [hv]; rfl, unhide HW⟩
  have hv : V = inB a 0 S.length := by rw [unhide EV, h1, h2]; rfl
  have HV := hide hv
  clear EV hv
  go_wp2_with fail
  refine (within_any _ _ _ _).mono ?_
  rintro e w1 ⟨rfl, h9⟩
  subst h9
  go_wp2
  go_ret
  exact ⟨ret_bool (unhide HV).symm, unhide HW⟩

end Go.Proofs.Ytjpogaidcmndoaa

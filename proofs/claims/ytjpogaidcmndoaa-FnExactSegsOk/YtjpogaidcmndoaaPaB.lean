/- Contracts of the specification's l21Texts, PartyOk, l21Copy. Written by wip/mkptb.py. -/
import Derived.Test.YtjpogaidcmndoaaPaM
import Derived.Test.YtjpogaidcmndoaaPaA
import Derived.Test.YtjpogaidcmndoaaStR
import Derived.Test.YtjpogaidcmndoaaWalkE
import Derived.Test.YtjpogaidcmndoaaRgI
import Derived.Deep.DeepCutAuto
namespace Go.Proofs.Ytjpogaidcmndoaa
open Go.RowKit

theorem txB_false {L : List ByteArray} {k : Nat} (hk : k < L.length) (h : ¬ (L.getD k default).size ≤ 40) : txB L = false := by
  cases e : txB L
  · rfl
  · exact absurd (txB_get e hk) h
theorem txB_end {L : List ByteArray} (h : ∀ i, i < L.length → (L.getD i default).size ≤ 40) : txB L = decide (L.length ≤ 200) := by
  by_cases hl : L.length ≤ 200
  · rw [txB_mk h hl, decide_eq_true hl]
  · rw [decide_eq_false hl]
    cases e : txB L
    · rfl
    · exact absurd (txB_len e) hl

set_option maxHeartbeats 1600000 in
theorem specTexts_any (v : Value) (L : List ByteArray) (w : World) (h : SIn w v L) :
    Calls Try.prog 47 #[v] w fun e w' => e = .returned (.bool (txB L)) ∧ w = w' := by
  obtain ⟨ao, cap, rfl, hl, hm, hc⟩ := h
  unfold maxLen at hm
  have HC := hide hc
  obtain ⟨V, eV⟩ : ∃ z, z = txB L := ⟨_, rfl⟩
  have HF : Hid (∀ k, k < L.length → ¬ (L.getD k default).size ≤ 40 → V = false) := by
    show ∀ k, _
    intro k hk h
    rw [eV]; exact txB_false hk h
  have HE : Hid ((∀ i, i < L.length → (L.getD i default).size ≤ 40) → V = decide (L.length ≤ 200)) := by
    show _ → _
    intro h
    rw [eV]; exact txB_end h
  rw [← eV]
  clear hc eV
  go_enter Try.func47, Try.ntmps47
  go_wp2
  go_loopg [3] L.length (fun g iv wr => ∃ k : Nat, k ≤ L.length ∧ g = L.length - k ∧ iv = .int .i64 k ∧ Hid (∀ i, i < k → (L.getD i default).size ≤ 40) ∧ w = wr)
  case atStart => exact ⟨0, Nat.zero_le _, rfl, rfl, hide (fun i hi => absurd hi (by omega)), rfl⟩
  case round =>
    obtain ⟨k, hk, rfl, rfl, HP, rfl⟩ := hrel
    by_cases hkn : k < L.length
    · obtain ⟨b, o, rfl, hcell⟩ := unhide HC k hkn
      have HPN : Hid ((L.getD k default).size ≤ 40 → ∀ i, i < k + 1 → (L.getD i default).size ≤ 40) := by
        show _ → _
        intro h i hi
        by_cases e : i = k
        · rw [e]; exact h
        · exact unhide HP i (by omega)
      have HFK := hide (unhide HF k hkn)
      generalize L.getD k default = s at hcell HPN HFK
      obtain ⟨m, em⟩ : ∃ m : Nat, s.size = m := ⟨_, rfl⟩
      rw [em] at HPN HFK
      have hki : (k : Int) < L.length := by omega
      by_cases hr : m ≤ 40
      · have hr2 : ¬ ((40 : Int) < (m : Int)) := by omega
        have dr : decide ((40 : Int) < (m : Int)) = false := decide_eq_false hr2
        have HP2 := hide (unhide HPN hr)
        clear HPN HFK
        go_wp2
        go_roundg (L.length - (k + 1))
        case measure => omega
        case rel => exact ⟨k + 1, by omega, rfl, by go_num, HP2, rfl⟩
      · have hr2 : ((40 : Int) < (m : Int)) := by omega
        have dr : decide ((40 : Int) < (m : Int)) = true := decide_eq_true hr2
        have hv := unhide HFK hr
        clear HPN HFK
        go_wp2
        go_ret
        exact ⟨by rw [hv]; rfl, rfl⟩
    · have hki : ¬ (k : Int) < L.length := by omega
      have hv := unhide HE (fun i hi => unhide HP i (by omega))
      have hd : decide ((L.length : Int) ≤ 200) = V := by
        rw [hv]
        by_cases h2 : L.length ≤ 200
        · rw [decide_eq_true h2, decide_eq_true (by omega)]
        · rw [decide_eq_false h2, decide_eq_false (by omega)]
      clear hv
      go_wp2
      go_ret
      exact ⟨rfl, rfl⟩

set_option maxHeartbeats 1600000 in
theorem specPartyOk_any (sv gv : Value) (S : List ByteArray) (a : Int) (G : List ByteArray) (w : World) (h : PtIn w sv gv S G) :
    Calls Try.prog 23 #[vParty sv a gv] w fun e w' => e = .returned (.bool (ptB (S, a, G))) ∧ Below w.heap.size w w' := by
  have hA := Below.alloc1 w (.cells #[sv, .int .i64 a, gv] 47)
  have H1 := hide (h.1.below hA)
  have H2 := hide (h.2.below hA)
  have HW := hide hA
  have HT := hide fun v L V hv => specTexts_any v L V hv
  obtain ⟨⟨so, sc, rfl, -⟩, ⟨go, gc, rfl, -⟩⟩ := h
  obtain ⟨V, eV⟩ : ∃ z, z = ptB (S, a, G) := ⟨_, rfl⟩
  have EV : Hid (V = (txB S && txB G && inB a 0 S.length)) := eV
  rw [← eV]
  clear eV hA
  unfold vParty
  go_enter Try.func23, Try.ntmps23
  go_wp2_with fail
  refine (unhide HT _ S _ (unhide H1)).mono ?_
  rintro e w1 ⟨rfl, rfl⟩
  cases h1 : txB S
  case false =>
    have hv : V = false := by rw [unhide EV, h1]; rfl
    go_wp2
    go_ret
    exact ⟨by rw [hv]; rfl, unhide HW⟩
  go_wp2_with fail
  refine (unhide HT _ G _ (unhide H2)).mono ?_
  rintro e w1 ⟨rfl, rfl⟩
  cases h2 : txB G
  case false =>
    have hv : V = false := by rw [unhide EV, h1, h2]; rfl
    go_wp2
    go_ret
    exact ⟨by rw [hv]; rfl, unhide HW⟩
  have hv : V = inB a 0 S.length := by rw [unhide EV, h1, h2]; rfl
  have HV := hide hv
  clear EV hv
  go_wp2_with fail
  refine (l1In_any _ _ _ _).mono ?_
  rintro e w1 ⟨rfl, h9⟩
  subst h9
  go_wp2
  go_ret
  exact ⟨ret_bool (unhide HV).symm, unhide HW⟩

/-- A copy of a party: both rows new. -/
def CpA (w : World) (S : List ByteArray) (a : Int) (G : List ByteArray) (e : Ending) (w' : World) : Prop :=
  ∃ gs cs gg cg, e = .returned (vParty (.slice (some ⟨gs, 0, none⟩) S.length cs) a (.slice (some ⟨gg, 0, none⟩) G.length cg)) ∧ gs ≠ gg ∧ RowB 9 1 eS w.heap.size w' (some ⟨gs, 0, none⟩) S.length cs S ∧ RowB 9 1 eS w.heap.size w' (some ⟨gg, 0, none⟩) G.length cg G ∧ Below w.heap.size w w'

end Go.Proofs.Ytjpogaidcmndoaa

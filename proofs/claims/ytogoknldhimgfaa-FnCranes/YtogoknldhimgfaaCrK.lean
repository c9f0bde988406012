/- What FnCranes asks, in numbers. No statement about the program stands here. -/
import Derived.Test.YtogoknldhimgfaaCrM
namespace Go.Proofs.Ytogoknldhimgfaa

section
variable {L : List CraneT} {gap a t : Int}
theorem mvC_zero : mvC L gap a t = 0 ↔ mvF L gap a t = 0 ∧ CrP (mvS L a.toNat t) gap := by
  unfold mvC
  by_cases h : mvF L gap a t = 0
  · rw [if_pos h]
    by_cases h2 : CrP (mvS L a.toNat t) gap
    · rw [if_pos h2]; exact ⟨fun _ => ⟨h, h2⟩, fun _ => rfl⟩
    · rw [if_neg h2]; exact ⟨fun e => by omega, fun e => absurd e.2 h2⟩
  · rw [if_neg h]; exact ⟨fun e => absurd e h, fun e => absurd e.1 h⟩
theorem mvL_ok (h : CrP L gap) : CrP (mvL L gap a t) gap := by
  unfold mvL
  split
  · rename_i e; exact (mvC_zero.1 e).2
  · exact h
theorem mvL_at (h : mvC L gap a t = 0) : 0 ≤ a ∧ a < L.length ∧ (cr (mvL L gap a t) a.toNat).1 = t := by
  obtain ⟨h1, _⟩ := mvC_zero.1 h
  obtain ⟨⟨_, h2, h3⟩, _⟩ := mvF_zero.1 h1
  refine ⟨h2, h3, ?_⟩
  unfold mvL
  rw [if_pos h]
  unfold mvS
  rw [cr_set (by omega), if_pos rfl]
theorem mvL_ne {k : Nat} (hne : cr (mvL L gap a t) k ≠ cr L k) : mvC L gap a t = 0 ∧ (k : Int) = a ∧ (cr (mvL L gap a t) k).1 = t := by
  by_cases hz : mvC L gap a t = 0
  · obtain ⟨h1, _⟩ := mvC_zero.1 hz
    obtain ⟨⟨_, h2, h3⟩, _⟩ := mvF_zero.1 h1
    have e : mvL L gap a t = mvS L a.toNat t := by unfold mvL; rw [if_pos hz]
    rw [e] at hne ⊢
    unfold mvS at hne ⊢
    rw [cr_set (by omega)] at hne ⊢
    by_cases hk : k = a.toNat
    · rw [if_pos hk]; exact ⟨hz, by omega, rfl⟩
    · rw [if_neg hk] at hne; exact absurd rfl hne
  · refine absurd ?_ hne
    unfold mvL
    rw [if_neg hz]
theorem psV_ok (h : CrP L gap) : CrP (psV L gap a t).1 gap := by
  unfold psV
  split
  · rename_i e; exact e.2
  · exact h
theorem psE_mv {i : Nat} (hi : i < L.length) (h0 : CrP L gap) (h : CrP (mvS L i t) gap) : psE L gap i t = mvS L i t := by
  unfold psE
  split
  · rfl
  · rename_i hne
    have hs : psS L i t = 1 ∨ psS L i t = -1 := by unfold psS; split <;> simp
    obtain ⟨s, es⟩ : ∃ s, s = psS L i t := ⟨_, rfl⟩
    rw [← es] at hs ⊢
    clear es
    by_cases hN : pN s i L.length = 0
    · rw [hN]; rfl
    · have hst := shL_stop (s := s) (t := t) hs hi h0 (k := 0) (by omega) (by
        have hl := mvS_len L i t
        have p1 := pI_lt (L := L) hs hi (k := 1) (by omega)
        have e0 : pI s i 0 = i := by unfold pI; simp
        rw [e0]
        show ¬ 0 < s * ((cr (mvS L i t) i).1 + s * gap - (cr (mvS L i t) (pI s i 1)).1)
        rcases hs with rfl | rfl
        · have e1 : pI 1 i 1 = i + 1 := by omega
          rw [e1]
          have := (h.2.2 (i + 1) (by omega)).2 (by omega)
          rw [Nat.add_sub_cancel] at this
          omega
        · have e1 : pI (-1) i 1 = i - 1 := by omega
          have hi0 : 0 < i := by
            by_cases e : i = 0
            · have := p1.2; rw [e] at this; omega
            · omega
          rw [e1]
          have := (h.2.2 i (by omega)).2 hi0
          omega) (pN s i L.length) (by omega)
      rw [Nat.zero_add] at hst
      exact hst
theorem psV_mv (h : mvC L gap a t = 0) : psV L gap a t = (mvL L gap a t, true) := by
  obtain ⟨h1, h2⟩ := mvC_zero.1 h
  obtain ⟨⟨h3, h4, h5⟩, _⟩ := mvF_zero.1 h1
  have e := psE_mv (t := t) (i := a.toNat) (by omega) h3 h2
  unfold psV mvL
  rw [e, if_pos ⟨h1, h2⟩, if_pos h]
end
theorem rmL_ok {L : List CraneT} {gap : Int} {M : List MoveT} (h : CrP L gap) : ∀ k, CrP (rmL L gap M k) gap
  | 0 => h
  | k + 1 => mvL_ok (rmL_ok h k)

/-- Cranes while they are drawn: the next one will stand at A. -/
structure CrD (L : List CraneT) (gap A : Int) : Prop where
  len : L.length ≤ 5
  gp : 1 ≤ gap ∧ gap ≤ 6
  ok : ∀ k, k < L.length → CrS L gap k
  last : 0 < L.length → (cr L (L.length - 1)).1 + gap ≤ A
  bd : 0 ≤ A ∧ A ≤ 19 + 17 * (L.length : Int)
theorem CrD.next {L : List CraneT} {gap A z lo hi : Int} (h : CrD L gap A) (hl : L.length < 5) (hz : 0 ≤ z ∧ z < 12) (h1 : 0 ≤ lo ∧ lo ≤ A) (h2 : A ≤ hi ∧ hi ≤ A + 30) : CrD (L ++ [(A, lo, hi)]) gap (A + gap + z) := by
  have e : ∀ k, k < L.length → cr (L ++ [(A, lo, hi)]) k = cr L k := fun k hk => by unfold cr; simp only [List.getD]; rw [List.getElem?_append_left hk]
  have e2 : cr (L ++ [(A, lo, hi)]) L.length = (A, lo, hi) := by unfold cr; simp [List.getD]
  have hb := h.bd
  have hg := h.gp
  have el : (L ++ [(A, lo, hi)]).length = L.length + 1 := by simp
  refine ⟨by rw [el]; omega, hg, fun k hk => ?_, fun _ => ?_, ?_⟩
  · rw [el] at hk
    by_cases c : k < L.length
    · have hs := h.ok k c
      unfold CrS at hs ⊢
      rw [e k c]
      refine ⟨hs.1, fun h0 => ?_⟩
      rw [e (k - 1) (by omega)]
      exact hs.2 h0
    · obtain rfl : k = L.length := by omega
      unfold CrS CrG
      rw [e2]
      refine ⟨⟨⟨h1.1, h1.2⟩, h2.1, ?_⟩, fun h0 => ?_⟩
      · show hi ≤ 1000
        omega
      · rw [e (L.length - 1) (by omega)]
        exact h.last h0
  · rw [el, Nat.add_sub_cancel, e2]
    show A + gap ≤ A + gap + z
    omega
  · rw [el]
    push_cast
    omega
theorem CrD.done {L : List CraneT} {gap A : Int} (h : CrD L gap A) (h1 : 1 ≤ L.length) : CrP L gap := ⟨⟨h1, by have := h.len; omega⟩, ⟨h.gp.1, by have := h.gp; omega⟩, h.ok⟩

end Go.Proofs.Ytogoknldhimgfaa

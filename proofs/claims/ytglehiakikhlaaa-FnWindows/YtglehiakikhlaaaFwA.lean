/- FnWindows in numbers: windows are apart, hold at each minute, and no minute beyond them is deep enough. No statement about the program stands here. -/
import Derived.Test.YtglehiakikhlaaaTdE
import Derived.Test.YtglehiakikhlaaaTdH
namespace Go.Proofs.Ytglehiakikhlaaa
open Go.RowKit

abbrev fr (L : List I2) (i : Nat) : Int := (L.getD i default).1
abbrev til (L : List I2) (i : Nat) : Int := (L.getD i default).2
/-- A minute lies in a window. -/
def inW (L : List I2) (i m : Nat) : Prop := fr L i ≤ (m : Int) ∧ (m : Int) ≤ til L i

structure WInv (es : Nat → Bool) (k : Nat) (s : WS) : Prop where
  bd : ∀ i, i < s.L.length → 0 ≤ fr s.L i ∧ fr s.L i ≤ til s.L i ∧ til s.L i < (k : Int)
  ap : ∀ i, i + 1 < s.L.length → til s.L i + 2 ≤ fr s.L (i + 1)
  on : s.o = true → 0 < s.L.length ∧ til s.L (s.L.length - 1) = (k : Int) - 1
  off : s.o = false → 0 < s.L.length → til s.L (s.L.length - 1) ≤ (k : Int) - 2
  all : ∀ m, m < k → (es m = true ↔ ∃ i, i < s.L.length ∧ inW s.L i m)

theorem getD_snoc_lt (L : List I2) (p : I2) {i : Nat} (h : i < L.length) : (L ++ [p]).getD i default = L.getD i default := by simp [List.getD, List.getElem?_append, h]
theorem getD_snoc_eq (L : List I2) (p : I2) : (L ++ [p]).getD L.length default = p := by simp [List.getD]
theorem getD_set_eq (L : List I2) (p : I2) {i : Nat} (h : i < L.length) : (L.set i p).getD i default = p := by simp [List.getD, h]
theorem getD_set_ne (L : List I2) (p : I2) {i j : Nat} (h : ¬ i = j) : (L.set i p).getD j default = L.getD j default := by simp [List.getD, h]

theorem wInv (es : Nat → Bool) : ∀ k, WInv es k (winTo es k)
  | 0 => ⟨fun i hi => by simp [winTo] at hi, fun i hi => by simp [winTo] at hi, fun h => (by cases h), fun _ h => by simp [winTo] at h, fun m hm => by omega⟩
  | k + 1 => by
    obtain ⟨h1, h2, h3, h4, h5⟩ := wInv es k
    rw [winTo]
    generalize winTo es k = s at *
    obtain ⟨L, o⟩ := s
    dsimp only at h1 h2 h3 h4 h5
    unfold WS.step
    cases he : es k with
    | false =>
      rw [if_neg (by simp)]
      refine ⟨fun i hi => ?_, h2, fun h => (by cases h), fun _ hl => ?_, fun m hm => ?_⟩
      · dsimp only at hi ⊢
        obtain ⟨a, b, c⟩ := h1 i hi
        exact ⟨a, b, by omega⟩
      · dsimp only at hl ⊢
        cases ho : o with
        | true => have := (h3 ho).2; omega
        | false => have := h4 ho hl; omega
      · by_cases e : m = k
        · subst e
          rw [he]
          refine ⟨fun h => (by cases h), fun ⟨i, hi, hw⟩ => ?_⟩
          have := (h1 i hi).2.2
          unfold inW at hw
          dsimp only at hw
          omega
        · exact h5 m (by omega)
    | true =>
      rw [if_pos rfl]
      cases ho : o with
      | true =>
        rw [if_pos rfl]
        obtain ⟨hl, ht⟩ := h3 ho
        have hlt : L.length - 1 < L.length := by omega
        unfold WS.last
        dsimp only
        obtain ⟨j, ej⟩ : ∃ j, j = L.length - 1 := ⟨_, rfl⟩
        rw [← ej] at ht hlt ⊢
        obtain ⟨p, ep⟩ : ∃ p : I2, p = ((L.getD j default).1, (k : Int)) := ⟨_, rfl⟩
        rw [← ep]
        have p1 : p.1 = fr L j := by rw [ep]
        have p2 : p.2 = (k : Int) := by rw [ep]
        have hj := h1 j hlt
        refine ⟨fun i hi => ?_, fun i hi => ?_, fun _ => ?_, fun h => (by cases h), fun m hm => ?_⟩
        · dsimp only at hi ⊢
          rw [List.length_set] at hi
          by_cases e : j = i
          · subst e
            unfold fr til
            rw [getD_set_eq L p hlt, p1, p2]
            exact ⟨hj.1, by omega, by omega⟩
          · unfold fr til
            rw [getD_set_ne L p e]
            obtain ⟨a, b, c⟩ := h1 i hi
            exact ⟨a, b, by unfold til at c; omega⟩
        · dsimp only at hi ⊢
          rw [List.length_set] at hi
          unfold fr til
          have e1 : ¬ j = i := by omega
          rw [getD_set_ne L p e1]
          by_cases e : j = i + 1
          · rw [← e, getD_set_eq L p hlt, p1, e]
            exact h2 i hi
          · rw [getD_set_ne L p e]
            exact h2 i hi
        · dsimp only
          rw [List.length_set]
          refine ⟨hl, ?_⟩
          unfold til
          rw [← ej, getD_set_eq L p hlt, p2]
          omega
        · dsimp only
          by_cases e : m = k
          · subst e
            rw [he]
            refine ⟨fun _ => ⟨j, by rw [List.length_set]; exact hlt, ?_⟩, fun _ => rfl⟩
            unfold inW fr til
            rw [getD_set_eq L p hlt, p1, p2]
            exact ⟨by omega, by omega⟩
          · rw [h5 m (by omega)]
            refine ⟨fun ⟨i, hi, hw⟩ => ⟨i, by rw [List.length_set]; exact hi, ?_⟩, fun ⟨i, hi, hw⟩ => ⟨i, by rw [List.length_set] at hi; exact hi, ?_⟩⟩
            · unfold inW fr til at hw ⊢
              by_cases e2 : j = i
              · subst e2
                rw [getD_set_eq L p hlt, p1, p2]
                exact ⟨hw.1, by omega⟩
              · rw [getD_set_ne L p e2]
                exact hw
            · unfold inW fr til at hw ⊢
              by_cases e2 : j = i
              · subst e2
                rw [getD_set_eq L p hlt, p1, p2] at hw
                unfold til at ht
                exact ⟨hw.1, by omega⟩
              · rw [getD_set_ne L p e2] at hw
                exact hw
      | false =>
        rw [if_neg (by simp)]
        have ho4 := h4 ho
        refine ⟨fun i hi => ?_, fun i hi => ?_, fun _ => ?_, fun h => (by cases h), fun m hm => ?_⟩
        · dsimp only at hi ⊢
          unfold fr til
          by_cases e : i < L.length
          · rw [getD_snoc_lt L _ e]
            obtain ⟨a, b, c⟩ := h1 i e
            exact ⟨a, b, by unfold til at c; omega⟩
          · have e1 : i = L.length := by simp at hi; omega
            subst e1
            rw [getD_snoc_eq]
            dsimp only
            omega
        · dsimp only at hi ⊢
          unfold fr til
          have hi' : i < L.length := by simp at hi; omega
          rw [getD_snoc_lt L _ hi']
          by_cases e : i + 1 < L.length
          · rw [getD_snoc_lt L _ e]
            exact h2 i e
          · have e1 : i + 1 = L.length := by simp at hi; omega
            rw [e1, getD_snoc_eq]
            dsimp only
            have := ho4 (by omega)
            rw [show L.length - 1 = i by omega] at this
            unfold til at this
            omega
        · dsimp only
          refine ⟨by simp, ?_⟩
          unfold til
          rw [show (L ++ [((k : Int), (k : Int))]).length - 1 = L.length by simp, getD_snoc_eq]
          dsimp only
          omega
        · dsimp only
          by_cases e : m = k
          · subst e
            rw [he]
            refine ⟨fun _ => ⟨L.length, by simp, ?_⟩, fun _ => rfl⟩
            unfold inW fr til
            rw [getD_snoc_eq]
            exact ⟨Int.le_refl _, Int.le_refl _⟩
          · rw [h5 m (by omega)]
            refine ⟨fun ⟨i, hi, hw⟩ => ⟨i, by simp; omega, ?_⟩, fun ⟨i, hi, hw⟩ => ?_⟩
            · unfold inW fr til at hw ⊢
              rw [getD_snoc_lt L _ hi]
              exact hw
            · by_cases e2 : i < L.length
              · refine ⟨i, e2, ?_⟩
                unfold inW fr til at hw ⊢
                rw [getD_snoc_lt L _ e2] at hw
                exact hw
              · exfalso
                have e1 : i = L.length := by simp at hi; omega
                subst e1
                unfold inW fr til at hw
                rw [getD_snoc_eq] at hw
                dsimp only at hw
                omega

/-- What WindowFor tells lies in one window. -/
theorem wfGo_in {L : List I2} {f m : Int} : ∀ (n k : Nat), k + n = L.length → (wfGo L f m n k).2 = true → ∃ i, i < L.length ∧ f ≤ (wfGo L f m n k).1 ∧ fr L i ≤ (wfGo L f m n k).1 ∧ (wfGo L f m n k).1 + m - 1 ≤ til L i
  | 0, k, _, h => by cases h
  | n + 1, k, hk, h => by
    rw [wfGo] at h ⊢
    by_cases hc : wfAt (L.getD k default) f + m - 1 ≤ (L.getD k default).2
    · rw [if_pos hc]
      refine ⟨k, by omega, ?_, ?_, hc⟩
      · dsimp only; unfold wfAt; split <;> omega
      · dsimp only; unfold fr wfAt; split <;> omega
    · rw [if_neg hc] at h ⊢
      exact wfGo_in n (k + 1) (by omega) h

theorem windowFor_in {L : List I2} {f m : Int} (h : (windowFor L f m).2 = true) : ∃ i, i < L.length ∧ f ≤ (windowFor L f m).1 ∧ fr L i ≤ (windowFor L f m).1 ∧ (windowFor L f m).1 + m - 1 ≤ til L i := by
  unfold windowFor at h ⊢
  by_cases hc : wfArgs L f m = true
  · rw [if_pos hc] at h ⊢
    exact wfGo_in L.length 0 (by omega) h
  · rw [if_neg hc] at h
    cases h

theorem windowFor_one : windowFor [(2, 9)] 4 3 = (4, true) := by decide

end Go.Proofs.Ytglehiakikhlaaa

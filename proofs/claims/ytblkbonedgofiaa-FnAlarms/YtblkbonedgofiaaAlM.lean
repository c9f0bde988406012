/- Alarms in numbers: a count is the length of the row of high (low) numbers that ends here. -/
import Derived.Test.YtblkbonedgofiaaEnF
namespace Go.Proofs.Ytblkbonedgofiaa
open Go.RowKit

theorem alS_high (hi lo ho : Int) (xs : List Int) : ∀ (i c : Nat), (c : Int) ≤ (alS hi lo ho xs i).2.1 ↔ c ≤ i ∧ ∀ k, i ≤ k + c → k < i → hi ≤ xs.getD k 0 := by
  intro i
  induction i with
  | zero => intro c; simp only [alS]; exact ⟨fun h => ⟨by omega, fun k _ h => by omega⟩, fun h => by omega⟩
  | succ i ih =>
    intro c
    have hb := (alS_bd hi lo ho xs i).1
    cases c with
    | zero =>
      refine ⟨fun _ => ⟨by omega, fun k h1 h2 => by omega⟩, fun _ => ?_⟩
      have := (alS_bd hi lo ho xs (i + 1)).1
      omega
    | succ c =>
      by_cases h : hi ≤ xs.getD i 0
      · have e : (alS hi lo ho xs (i + 1)).2.1 = (alS hi lo ho xs i).2.1 + 1 := by simp only [alS, alNext]; rw [if_pos h]
        rw [e]
        have := ih c
        constructor
        · intro h1
          obtain ⟨a, b⟩ := this.1 (by omega)
          refine ⟨by omega, fun k k1 k2 => ?_⟩
          by_cases ek : k = i
          · rw [ek]; exact h
          · exact b k (by omega) (by omega)
        · rintro ⟨a, b⟩
          have := this.2 ⟨by omega, fun k k1 k2 => b k (by omega) (by omega)⟩
          omega
      · have e : (alS hi lo ho xs (i + 1)).2.1 = 0 := by simp only [alS, alNext]; rw [if_neg h]
        rw [e]
        constructor
        · intro h1; omega
        · rintro ⟨a, b⟩
          exact absurd (b i (by omega) (by omega)) h
theorem alS_low (hi lo ho : Int) (xs : List Int) : ∀ (i c : Nat), (c : Int) ≤ (alS hi lo ho xs i).2.2 ↔ c ≤ i ∧ ∀ k, i ≤ k + c → k < i → xs.getD k 0 ≤ lo := by
  intro i
  induction i with
  | zero => intro c; simp only [alS]; exact ⟨fun h => ⟨by omega, fun k _ h => by omega⟩, fun h => by omega⟩
  | succ i ih =>
    intro c
    have hb := (alS_bd hi lo ho xs i).2.2.1
    cases c with
    | zero =>
      refine ⟨fun _ => ⟨by omega, fun k h1 h2 => by omega⟩, fun _ => ?_⟩
      have := (alS_bd hi lo ho xs (i + 1)).2.2.1
      omega
    | succ c =>
      by_cases h : xs.getD i 0 ≤ lo
      · have e : (alS hi lo ho xs (i + 1)).2.2 = (alS hi lo ho xs i).2.2 + 1 := by simp only [alS, alNext]; rw [if_pos h]
        rw [e]
        have := ih c
        constructor
        · intro h1
          obtain ⟨a, b⟩ := this.1 (by omega)
          refine ⟨by omega, fun k k1 k2 => ?_⟩
          by_cases ek : k = i
          · rw [ek]; exact h
          · exact b k (by omega) (by omega)
        · rintro ⟨a, b⟩
          have := this.2 ⟨by omega, fun k k1 k2 => b k (by omega) (by omega)⟩
          omega
      · have e : (alS hi lo ho xs (i + 1)).2.2 = 0 := by simp only [alS, alNext]; rw [if_neg h]
        rw [e]
        constructor
        · intro h1; omega
        · rintro ⟨a, b⟩
          exact absurd (b i (by omega) (by omega)) h

/-- The inner loop's word behind j rounds. -/
def backB (ok : Int → Bool) (ho : Int) (xs : List Int) (i j : Nat) : Bool := decide (ho ≤ (i : Int) + 1) && (List.range j).all fun t => ok (xs.getD (i - t) 0)
theorem backB_zero (ok : Int → Bool) (ho : Int) (xs : List Int) (i : Nat) : backB ok ho xs i 0 = decide (ho ≤ (i : Int) + 1) := by simp [backB]
theorem backB_next (ok : Int → Bool) (ho : Int) (xs : List Int) (i j : Nat) : backB ok ho xs i (j + 1) = (backB ok ho xs i j && ok (xs.getD (i - j) 0)) := by
  simp [backB, List.range_succ, List.all_append, Bool.and_assoc]
theorem backB_true (ok : Int → Bool) (ho : Int) (xs : List Int) (i j : Nat) : backB ok ho xs i j = true ↔ ho ≤ (i : Int) + 1 ∧ ∀ t, t < j → ok (xs.getD (i - t) 0) = true := by
  simp [backB]
theorem back_high (hi lo ho : Int) (xs : List Int) (i j : Nat) (h0 : 1 ≤ ho) (hj : (j : Int) = ho ∨ (j = i + 1 ∧ (i : Int) + 1 < ho)) :
    backB (fun x => decide (hi ≤ x)) ho xs i j = decide (ho ≤ (alS hi lo ho xs (i + 1)).2.1) := by
  obtain ⟨c, rfl⟩ : ∃ c : Nat, ho = (c : Int) := ⟨ho.toNat, by omega⟩
  rw [Bool.eq_iff_iff, backB_true, decide_eq_true_eq, alS_high]
  simp only [decide_eq_true_eq]
  constructor
  · rintro ⟨a, b⟩
    refine ⟨by omega, fun k k1 k2 => ?_⟩
    have := b (i - k) (by omega)
    rwa [show i - (i - k) = k by omega] at this
  · rintro ⟨a, b⟩
    exact ⟨by omega, fun t ht => b (i - t) (by omega) (by omega)⟩
theorem back_low (hi lo ho : Int) (xs : List Int) (i j : Nat) (h0 : 1 ≤ ho) (hj : (j : Int) = ho ∨ (j = i + 1 ∧ (i : Int) + 1 < ho)) :
    backB (fun x => decide (x ≤ lo)) ho xs i j = decide (ho ≤ (alS hi lo ho xs (i + 1)).2.2) := by
  obtain ⟨c, rfl⟩ : ∃ c : Nat, ho = (c : Int) := ⟨ho.toNat, by omega⟩
  rw [Bool.eq_iff_iff, backB_true, decide_eq_true_eq, alS_low]
  simp only [decide_eq_true_eq]
  constructor
  · rintro ⟨a, b⟩
    refine ⟨by omega, fun k k1 k2 => ?_⟩
    have := b (i - k) (by omega)
    rwa [show i - (i - k) = k by omega] at this
  · rintro ⟨a, b⟩
    exact ⟨by omega, fun t ht => b (i - t) (by omega) (by omega)⟩
theorem alS_step (hi lo ho : Int) (xs : List Int) (i : Nat) (H L : Bool) (hH : H = decide (ho ≤ (alS hi lo ho xs (i + 1)).2.1)) (hL : L = decide (ho ≤ (alS hi lo ho xs (i + 1)).2.2)) :
    (alS hi lo ho xs (i + 1)).1 = if (alS hi lo ho xs i).1 then !L else H := by
  subst hH hL
  simp only [alS, alNext]
  cases (alS hi lo ho xs i).1
  · rfl
  · simp only [if_true]
    rw [Bool.eq_iff_iff]
    simp

end Go.Proofs.Ytblkbonedgofiaa

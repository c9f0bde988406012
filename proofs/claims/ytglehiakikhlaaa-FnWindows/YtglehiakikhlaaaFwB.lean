/- Words for FnWindows' walk: the minutes that are marked. No statement about the program stands here. -/
import Derived.Test.YtglehiakikhlaaaFwA
import Derived.Test.YtglehiakikhlaaaOwC
namespace Go.Proofs.Ytglehiakikhlaaa
open Go.RowKit

def inWB (L : List I2) (j m : Nat) : Bool := decide (fr L j ≤ (m : Int)) && decide ((m : Int) ≤ til L j)
theorem inWB_iff (L : List I2) (j m : Nat) : inWB L j m = true ↔ inW L j m := by simp [inWB, inW]
/-- The minute m lies in one of the first i windows, or in the next one ahead of p. -/
def cov (L : List I2) (i : Nat) (p : Int) (m : Nat) : Bool := (List.range i).any (fun j => inWB L j m) || (decide (fr L i ≤ (m : Int)) && decide ((m : Int) < p))
def covL (L : List I2) (i : Nat) (p : Int) (n : Nat) : List Bool := (List.range n).map (cov L i p)
theorem covL_len (L : List I2) (i : Nat) (p : Int) (n : Nat) : (covL L i p n).length = n := by simp [covL]
theorem covL_at (L : List I2) (i : Nat) (p : Int) {n m : Nat} (h : m < n) : (covL L i p n).getD m default = cov L i p m := by simp [covL, List.getD, h]
theorem covL_set (L : List I2) (i : Nat) {p : Int} {n q : Nat} (hq : (q : Int) = p) (hf : fr L i ≤ p) : (covL L i p n).set q true = covL L i (p + 1) n := by
  apply List.ext_getElem
  · simp [covL]
  · intro m h1 h2
    have hm : m < n := by simpa [covL] using h2
    rw [List.getElem_set]
    by_cases e : q = m
    · subst e
      rw [if_pos rfl]
      simp only [covL, List.getElem_map, List.getElem_range, cov]
      rw [decide_eq_true (show fr L i ≤ (q : Int) by omega), decide_eq_true (show (q : Int) < p + 1 by omega)]
      simp
    · rw [if_neg e]
      simp only [covL, List.getElem_map, List.getElem_range, cov]
      have : decide ((m : Int) < p) = decide ((m : Int) < p + 1) := by
        by_cases h : (m : Int) < p
        · rw [decide_eq_true h, decide_eq_true (by omega)]
        · rw [decide_eq_false h, decide_eq_false (by omega)]
      rw [this]
theorem covL_open (L : List I2) (i n : Nat) (p : Int) (hp : p ≤ fr L i) (p' : Int) (hp' : p' ≤ fr L i) : covL L i p n = covL L i p' n := by
  unfold covL
  apply List.map_congr_left
  intro m _
  unfold cov
  have e1 : (decide (fr L i ≤ (m : Int)) && decide ((m : Int) < p)) = false := by
    by_cases h : fr L i ≤ (m : Int)
    · rw [decide_eq_false (show ¬ (m : Int) < p by omega), Bool.and_false]
    · rw [decide_eq_false h, Bool.false_and]
  have e2 : (decide (fr L i ≤ (m : Int)) && decide ((m : Int) < p')) = false := by
    by_cases h : fr L i ≤ (m : Int)
    · rw [decide_eq_false (show ¬ (m : Int) < p' by omega), Bool.and_false]
    · rw [decide_eq_false h, Bool.false_and]
  rw [e1, e2]
theorem covL_close (L : List I2) (i n : Nat) (q : Int) (hq : q ≤ fr L (i + 1)) : covL L i (til L i + 1) n = covL L (i + 1) q n := by
  unfold covL
  apply List.map_congr_left
  intro m _
  unfold cov
  rw [List.range_succ, List.any_append]
  have e2 : (decide (fr L (i + 1) ≤ (m : Int)) && decide ((m : Int) < q)) = false := by
    by_cases h : fr L (i + 1) ≤ (m : Int)
    · rw [decide_eq_false (show ¬ (m : Int) < q by omega), Bool.and_false]
    · rw [decide_eq_false h, Bool.false_and]
  rw [e2, Bool.or_false]
  congr 1
  simp only [List.any_cons, List.any_nil, Bool.or_false, inWB]
  congr 1
  by_cases h : (m : Int) ≤ til L i
  · rw [decide_eq_true h, decide_eq_true (by omega)]
  · rw [decide_eq_false h, decide_eq_false (by omega)]
/-- All windows marked: just the minutes of a window. -/
theorem cov_iff (L : List I2) (m : Nat) (q : Int) (hq : q ≤ 0) : cov L L.length q m = true ↔ ∃ i, i < L.length ∧ inW L i m := by
  unfold cov
  rw [decide_eq_false (show ¬ (m : Int) < q by omega), Bool.and_false, Bool.or_false, List.any_eq_true]
  constructor
  · rintro ⟨i, hi, h⟩
    exact ⟨i, by simpa using hi, (inWB_iff L i m).1 h⟩
  · rintro ⟨i, hi, h⟩
    exact ⟨i, by simpa using hi, (inWB_iff L i m).2 h⟩
theorem fr_out (L : List I2) : fr L L.length = 0 := by unfold fr; rw [show L.getD L.length default = default by simp [List.getD]]; rfl

/-- What FnWindows asks of the windows. -/
structure WinF (xs : List Nat) (need : Nat) (L : List I2) : Prop where
  bd : ∀ i, i < L.length → 0 ≤ fr L i ∧ fr L i ≤ til L i ∧ til L i < (xs.length : Int)
  ap : ∀ i, i + 1 < L.length → til L i + 2 ≤ fr L (i + 1)
  all : xs.length ≤ 1500 → ∀ m, m < xs.length → (geF (xs.getD m 0) need = true ↔ ∃ i, i < L.length ∧ inW L i m)
theorem winF (xs : List Nat) (need : Nat) : WinF xs need (windowsOf xs need) := by
  unfold windowsOf
  split
  · have h := wInv (deepAt xs need) xs.length
    exact ⟨h.bd, h.ap, fun _ m hm => h.all m hm⟩
  · exact ⟨fun i hi => by simp at hi, fun i hi => by simp at hi, fun h => absurd h (by assumption)⟩

end Go.Proofs.Ytglehiakikhlaaa

/- The program's Proves in numbers. No statement about the program stands here. -/
import Derived.Test.YtahgblhmdhjahaaImPr1
namespace Go.Proofs.Ytahgblhmdhjahaa
open Go.RowKit

def placeI (s : Se) (x : Int) (M : List Int) (p : Nat) : Bool := !decide (M.getD p 0 < -1) && (decide (M.getD p 0 = -1) || (sailB s (p : Int) && (bearN s M p && (decide ((p : Int) = x) || !decide (cameOf s M p = -1)))))
theorem sailB_at {s : Se} {p : Nat} (hp : p < s.D.length) : sailB s (p : Int) = !decide (s.D.getD p 0 = 0) := by
  unfold sailB onB costAt
  rw [inB_mk (by omega) (by omega)]
  rfl
theorem bearN_eq {s : Se} (hn : SeaN s) {M : List Int} {p : Nat} (hp : p < s.D.length) : bearN s M p = (List.range s.D.length).all (bearB s M p) := by
  rw [Bool.eq_iff_iff]
  unfold bearN
  rw [List.all_eq_true, List.all_eq_true]
  constructor
  · intro h q hq
    rw [List.mem_range] at hq
    unfold bearB
    cases hx : nextB s.wd (p : Int) (q : Int) with
    | false => simp
    | true =>
      have := h (q : Int) ((nbs_mem hn (by omega) (by omega)).2 ⟨by omega, by omega, hx⟩)
      unfold bear1 mAt costAt at this
      rw [sailB_at hq] at this
      simp only [Int.toNat_natCast] at this
      by_cases hz : s.D.getD q 0 = 0
      · rw [decide_eq_true hz]; rfl
      · simp only [hz, decide_false, Bool.not_false, Bool.not_true, Bool.false_or, Bool.and_eq_true, decide_eq_true_eq] at this ⊢
        omega
  · intro h b hb
    obtain ⟨h0, h1, hx⟩ := (nbs_mem hn (by omega) (by omega)).1 hb
    obtain ⟨q, rfl⟩ : ∃ q : Nat, b = (q : Int) := ⟨b.toNat, by omega⟩
    have := h q (by rw [List.mem_range]; omega)
    unfold bearB at this
    rw [hx] at this
    unfold bear1 mAt costAt
    rw [sailB_at (show q < s.D.length by omega)]
    simp only [Int.toNat_natCast]
    by_cases hz : s.D.getD q 0 = 0
    · rw [decide_eq_true hz]; rfl
    · simp only [hz, decide_false, Bool.not_false, Bool.not_true, Bool.false_or, Bool.and_eq_true, decide_eq_true_eq] at this ⊢
      omega
theorem cameOf_some {s : Se} (hn : SeaN s) {M : List Int} {p : Nat} (hp : p < s.D.length) (h : cameOf s M p ≠ -1) : ∃ q : Nat, q < s.D.length ∧ nextB s.wd (p : Int) (q : Int) = true ∧ 0 ≤ M.getD q 0 ∧ M.getD p 0 - M.getD q 0 = s.D.getD p 0 ∧ cameOf s M p = (q : Int) := by
  unfold cameOf at h ⊢
  cases hf : (nbs s.wd s.D.length (p : Int)).find? (came1 s M p) with
  | none => rw [hf] at h; exact absurd rfl h
  | some a =>
    have h1 := List.mem_of_find?_eq_some hf
    have h2 := List.find?_some hf
    obtain ⟨h3, h4, hx⟩ := (nbs_mem hn (by omega) (by omega)).1 h1
    obtain ⟨q, rfl⟩ : ∃ q : Nat, a = (q : Int) := ⟨a.toNat, by omega⟩
    unfold came1 mAt at h2
    simp only [Int.toNat_natCast, Bool.and_eq_true, decide_eq_true_eq] at h2
    exact ⟨q, by omega, hx, h2.1, h2.2, rfl⟩
theorem cameOf_has {s : Se} (hn : SeaN s) {M : List Int} {p q : Nat} (hp : p < s.D.length) (hq : q < s.D.length) (hx : nextB s.wd (p : Int) (q : Int) = true) (h0 : 0 ≤ M.getD q 0) (h1 : M.getD p 0 - M.getD q 0 = s.D.getD p 0) : cameOf s M p ≠ -1 := by
  unfold cameOf
  cases hf : (nbs s.wd s.D.length (p : Int)).find? (came1 s M p) with
  | none =>
    rw [List.find?_eq_none] at hf
    have := hf (q : Int) ((nbs_mem hn (by omega) (by omega)).2 ⟨by omega, by omega, hx⟩)
    unfold came1 mAt at this
    simp only [Int.toNat_natCast] at this
    rw [decide_eq_true h0, decide_eq_true h1] at this
    exact absurd rfl this
  | some a =>
    have h := (nbs_mem hn (by omega) (by omega)).1 (List.mem_of_find?_eq_some hf)
    simp only [Option.getD_some]
    omega
theorem places_eq {s : Se} (hn : SeaN s) (x : Int) (M : List Int) : ((List.range s.D.length).all (placeI s x M)) = ((List.range s.D.length).all (placeP s x M)) := by
  rw [Bool.eq_iff_iff, List.all_eq_true, List.all_eq_true]
  constructor
  · intro h p hp
    rw [List.mem_range] at hp
    have hI := h p (by rw [List.mem_range]; exact hp)
    unfold placeI at hI
    rw [sailB_at hp, bearN_eq hn hp] at hI
    simp only [Bool.and_eq_true, Bool.or_eq_true, Bool.not_eq_true', decide_eq_true_eq, decide_eq_false_iff_not] at hI
    obtain ⟨h0, h1⟩ := hI
    by_cases hm : M.getD p 0 = -1
    · exact placeP_none hm
    rcases h1 with h1 | ⟨h2, h3, h4⟩
    · exact absurd h1 hm
    refine placeP_yes (by omega) h2 (fun r hr => List.all_eq_true.1 h3 r (by rw [List.mem_range]; exact hr)) ?_
    unfold reachB
    rcases h4 with h4 | h4
    · rw [decide_eq_true h4]; rfl
    obtain ⟨q, hq, hx, hq0, hq1, -⟩ := cameOf_some hn hp h4
    have hqz : s.D.getD q 0 ≠ 0 := by
      intro hz
      have hIq := h q (by rw [List.mem_range]; exact hq)
      unfold placeI at hIq
      rw [sailB_at hq] at hIq
      simp only [Bool.and_eq_true, Bool.or_eq_true, Bool.not_eq_true', decide_eq_true_eq, decide_eq_false_iff_not] at hIq
      rcases hIq.2 with h5 | h5
      · omega
      · exact h5.1 hz
    rw [Bool.or_eq_true]
    right
    rw [List.any_eq_true]
    refine ⟨q, by rw [List.mem_range]; exact hq, ?_⟩
    unfold comeB
    rw [hx, decide_eq_false hqz, decide_eq_true (show M.getD q 0 = M.getD p 0 - s.D.getD p 0 by omega)]
    rfl
  · intro h p hp
    rw [List.mem_range] at hp
    have hP := h p (by rw [List.mem_range]; exact hp)
    unfold placeP at hP
    rw [← bearN_eq hn hp] at hP
    simp only [Bool.and_eq_true, Bool.or_eq_true, Bool.not_eq_true', decide_eq_true_eq, decide_eq_false_iff_not] at hP
    obtain ⟨h0, h1, h2⟩ := hP
    unfold placeI
    rw [sailB_at hp]
    by_cases hm : M.getD p 0 = -1
    · rw [hm]; simp
    rcases h1 with h1 | h1
    case inr => exact absurd h1 hm
    rcases h2 with h2 | ⟨h2, h3⟩
    · omega
    rw [h2, decide_eq_false (show ¬ M.getD p 0 < -1 by omega), decide_eq_false h1]
    simp only [Bool.not_false, Bool.true_and, Bool.or_eq_true, Bool.not_eq_true', decide_eq_true_eq, decide_eq_false_iff_not]
    right
    unfold reachB at h3
    rw [Bool.or_eq_true, decide_eq_true_eq, List.any_eq_true] at h3
    rcases h3 with h3 | ⟨q, hq, hc⟩
    · left; exact h3
    right
    rw [List.mem_range] at hq
    unfold comeB at hc
    simp only [Bool.and_eq_true, Bool.not_eq_true', decide_eq_true_eq, decide_eq_false_iff_not] at hc
    obtain ⟨c1, c2, c3⟩ := hc
    have hb := h2
    rw [bearN_eq hn hp] at hb
    have hbq := List.all_eq_true.1 hb q (by rw [List.mem_range]; exact hq)
    unfold bearB at hbq
    rw [c2] at hbq
    simp only [Bool.and_eq_true, Bool.or_eq_true, Bool.not_true, decide_eq_true_eq] at hbq
    have hq0 : 0 ≤ M.getD q 0 := by
      rcases hbq with h5 | h5 | h5
      · exact absurd h5 c1
      · exact absurd h5 (by simp)
      · exact h5.1
    exact cameOf_has hn hp hq c2 hq0 (by omega)
theorem provesI {s : Se} {x : Int} {M : List Int} (h0 : prov0B s x M = true) : provesB s x M = (List.range s.D.length).all (placeI s x M) := by
  unfold provesB
  rw [h0, Bool.true_and, places_eq (prov0_n h0).1]

theorem provesI_no {s : Se} {x : Int} {M : List Int} (h0 : prov0B s x M = true) {k : Nat} (hk : k < s.D.length) (h : placeI s x M k = false) : provesB s x M = false := by
  rw [provesI h0, all_false (xs := List.range s.D.length) (d := 0) (i := k) (by simpa using hk) (by simpa [List.getD, hk] using h)]
theorem provesI_all {s : Se} {x : Int} {M : List Int} (h0 : prov0B s x M = true) (h : ∀ r, r < s.D.length → placeI s x M r = true) : provesB s x M = true := by
  rw [provesI h0, all_true (xs := List.range s.D.length) (d := 0) (fun r hr => by
    have hr' : r < s.D.length := by simpa using hr
    simpa [List.getD, hr'] using h r hr')]

end Go.Proofs.Ytahgblhmdhjahaa

/- Proofs of costs in numbers; contract of the specification's Proves. Written by wip/mkprov.py. -/
import Derived.Test.YtdpcacfgbjllhaaSeD
namespace Go.Proofs.Ytdpcacfgbjllhaa
open Go.RowKit

def bearB (s : Se) (M : List Int) (p q : Nat) : Bool := decide (s.D.getD q 0 = 0) || (!nextB s.wd (p : Int) (q : Int) || (decide (0 ≤ M.getD q 0) && decide (M.getD q 0 - s.D.getD q 0 ≤ M.getD p 0)))
def comeB (s : Se) (M : List Int) (p q : Nat) : Bool := !decide (s.D.getD q 0 = 0) && (nextB s.wd (p : Int) (q : Int) && decide (M.getD q 0 = M.getD p 0 - s.D.getD p 0))
def reachB (s : Se) (x : Int) (M : List Int) (p k : Nat) : Bool := decide ((p : Int) = x) || (List.range k).any (comeB s M p)
def placeP (s : Se) (x : Int) (M : List Int) (p : Nat) : Bool := decide (-1 ≤ M.getD p 0) && ((!decide (s.D.getD p 0 = 0) || decide (M.getD p 0 = -1)) && (decide (M.getD p 0 < 0) || ((List.range s.D.length).all (bearB s M p) && reachB s x M p s.D.length)))
def prov0B (s : Se) (x : Int) (M : List Int) : Bool := seaB s && (onB s x && (!decide (costAt s x = 0) && (decide (M.length = s.D.length) && decide (M.getD x.toNat 0 = 0))))
def provesB (s : Se) (x : Int) (M : List Int) : Bool := prov0B s x M && (List.range s.D.length).all (placeP s x M)
theorem reachB_succ (s : Se) (x : Int) (M : List Int) (p k : Nat) : reachB s x M p (k + 1) = (reachB s x M p k || comeB s M p k) := by
  unfold reachB
  rw [List.range_succ, List.any_append]
  simp [Bool.or_assoc]
theorem provesB_place {s : Se} {x : Int} {M : List Int} {k : Nat} (hk : k < s.D.length) (h : placeP s x M k = false) : provesB s x M = false := by
  unfold provesB
  rw [all_false (xs := List.range s.D.length) (d := 0) (i := k) (by simpa using hk) (by simpa [List.getD, hk] using h), Bool.and_false]
theorem provesB_all {s : Se} {x : Int} {M : List Int} (h0 : prov0B s x M = true) (h : ∀ r, r < s.D.length → placeP s x M r = true) : provesB s x M = true := by
  unfold provesB
  rw [h0, all_true (xs := List.range s.D.length) (d := 0) (fun r hr => by
    have hr' : r < s.D.length := by simpa using hr
    simpa [List.getD, hr'] using h r hr')]
  rfl
theorem placeP_bear {s : Se} {x : Int} {M : List Int} {p q : Nat} (hq : q < s.D.length) (h0 : ¬ M.getD p 0 < 0) (h : bearB s M p q = false) : placeP s x M p = false := by
  unfold placeP
  rw [all_false (xs := List.range s.D.length) (d := 0) (i := q) (by simpa using hq) (by simpa [List.getD, hq] using h), decide_eq_false h0]
  simp
theorem placeP_yes {s : Se} {x : Int} {M : List Int} {p : Nat} (h0 : 0 ≤ M.getD p 0) (hd : s.D.getD p 0 ≠ 0) (hb : ∀ r, r < s.D.length → bearB s M p r = true) (hr : reachB s x M p s.D.length = true) : placeP s x M p = true := by
  unfold placeP
  rw [hr, all_true (xs := List.range s.D.length) (d := 0) (fun r hr => by
    have hr' : r < s.D.length := by simpa using hr
    simpa [List.getD, hr'] using hb r hr'), decide_eq_true (show -1 ≤ M.getD p 0 by omega), decide_eq_false hd]
  simp
theorem placeP_no {s : Se} {x : Int} {M : List Int} {p : Nat} (h0 : ¬ M.getD p 0 < 0) (hr : reachB s x M p s.D.length = false) : placeP s x M p = false := by
  unfold placeP
  rw [hr, decide_eq_false h0]
  simp
theorem placeP_none {s : Se} {x : Int} {M : List Int} {p : Nat} (h : M.getD p 0 = -1) : placeP s x M p = true := by
  unfold placeP
  rw [h]
  simp
theorem placeP_low {s : Se} {x : Int} {M : List Int} {p : Nat} (h : M.getD p 0 < -1) : placeP s x M p = false := by
  unfold placeP
  rw [decide_eq_false (show ¬ -1 ≤ M.getD p 0 by omega)]
  rfl
theorem placeP_land {s : Se} {x : Int} {M : List Int} {p : Nat} (hd : s.D.getD p 0 = 0) (h : M.getD p 0 ≠ -1) : placeP s x M p = false := by
  unfold placeP
  rw [decide_eq_true hd, decide_eq_false h]
  simp
theorem prov0_n {s : Se} {x : Int} {M : List Int} (h : prov0B s x M = true) : SeaN s ∧ (∃ xi : Nat, x = (xi : Int) ∧ xi < s.D.length ∧ M.getD xi 0 = 0) ∧ M.length = s.D.length := by
  unfold prov0B at h
  simp only [Bool.and_eq_true, decide_eq_true_eq] at h
  obtain ⟨h1, h2, -, h4, h5⟩ := h
  unfold onB at h2
  obtain ⟨a, b⟩ := inB_true h2
  exact ⟨seaB_n h1, ⟨x.toNat, by omega, by omega, h5⟩, h4⟩

end Go.Proofs.Ytdpcacfgbjllhaa

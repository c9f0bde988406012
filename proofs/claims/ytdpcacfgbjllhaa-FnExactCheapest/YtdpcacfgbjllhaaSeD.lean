/- Ways in numbers; contracts of the specification's WayCost and WayShut. Written by wip/mkway.py. -/
import Derived.Test.YtdpcacfgbjllhaaSeC
namespace Go.Proofs.Ytdpcacfgbjllhaa
open Go.RowKit

def costAt (s : Se) (p : Int) : Int := s.D.getD p.toNat 0
def stepB (s : Se) (M : List Int) (k : Nat) : Bool := onB s (M.getD k 0) && !decide (costAt s (M.getD k 0) = 0) && (decide (k = 0) || nextB s.wd (M.getD (k - 1) 0) (M.getD k 0))
def wsum (s : Se) (M : List Int) : Nat → Int
  | 0 => 0
  | k + 1 => wsum s M k + if k = 0 then 0 else costAt s (M.getD k 0)
def way0B (s : Se) (M : List Int) : Bool := seaB s && inB M.length 1 200
def wayB (s : Se) (M : List Int) : Bool := way0B s M && (List.range M.length).all (stepB s M)
def wayCost (s : Se) (M : List Int) : Int × Bool := if wayB s M = true then (wsum s M M.length, true) else (0, false)
theorem cost_bd {s : Se} (hn : SeaN s) (p : Int) : 0 ≤ costAt s p ∧ costAt s p ≤ 1000 := by
  unfold costAt
  by_cases h : p.toNat < s.D.length
  · exact hn.cost _ h
  · rw [List.getD_eq_getElem?_getD, List.getElem?_eq_none (by omega)]; simp
theorem wsum_bd {s : Se} (hn : SeaN s) (M : List Int) : ∀ k, 0 ≤ wsum s M k ∧ wsum s M k ≤ 1000 * (k : Int)
  | 0 => by simp [wsum]
  | k + 1 => by
    have h := wsum_bd hn M k
    have c := cost_bd hn (M.getD k 0)
    show 0 ≤ wsum s M k + (if k = 0 then 0 else costAt s (M.getD k 0)) ∧ wsum s M k + (if k = 0 then 0 else costAt s (M.getD k 0)) ≤ 1000 * ((k + 1 : Nat) : Int)
    split <;> omega
theorem step_on {s : Se} {M : List Int} {k : Nat} (h : stepB s M k = true) : ∃ p : Nat, M.getD k 0 = (p : Int) ∧ p < s.D.length := by
  unfold stepB onB at h
  simp only [Bool.and_eq_true] at h
  obtain ⟨a, b⟩ := inB_true h.1.1
  exact ⟨(M.getD k 0).toNat, by omega, by omega⟩
theorem wayCost_no {s : Se} {M : List Int} (h : wayB s M = false) : wayCost s M = (0, false) := by unfold wayCost; rw [h]; rfl
theorem wayCost_yes {s : Se} {M : List Int} (h : wayB s M = true) : wayCost s M = (wsum s M M.length, true) := by unfold wayCost; rw [if_pos h]
theorem wayB_step {s : Se} {M : List Int} {k : Nat} (hk : k < M.length) (h : stepB s M k = false) : wayB s M = false := by
  unfold wayB
  rw [all_false (xs := List.range M.length) (d := 0) (i := k) (by simpa using hk) (by simpa [List.getD, hk] using h), Bool.and_false]
theorem wayB_all {s : Se} {M : List Int} (h0 : way0B s M = true) (h : ∀ r, r < M.length → stepB s M r = true) : wayB s M = true := by
  unfold wayB
  rw [h0, all_true (xs := List.range M.length) (d := 0) (fun r hr => by
    have hr' : r < M.length := by simpa using hr
    simpa [List.getD, hr'] using h r hr')]
  rfl

def shutAt (s : Se) (M : List Int) (k : Nat) : Bool := shutB s (M.getD k 0) (k : Int)
def shutOf (s : Se) (M : List Int) : Int × Bool := match (List.range M.length).find? (shutAt s M) with
  | some k => ((k : Int), true)
  | none => (-1, false)
def wayShut (s : Se) (M : List Int) : Int × Bool := if wayB s M = true then shutOf s M else (-1, false)
theorem shutOf_yes {s : Se} {M : List Int} {k : Nat} (hk : k < M.length) (h : ∀ r, r < k → shutAt s M r = false) (h' : shutAt s M k = true) : shutOf s M = ((k : Int), true) := by
  have e : (List.range M.length).find? (shutAt s M) = some k := by
    rw [List.find?_range_eq_some]
    exact ⟨h', by simpa using hk, fun j hj => by rw [h j hj]; rfl⟩
  unfold shutOf
  rw [e]
theorem shutOf_no {s : Se} {M : List Int} (h : ∀ r, r < M.length → shutAt s M r = false) : shutOf s M = (-1, false) := by
  have e : (List.range M.length).find? (shutAt s M) = none := by
    rw [List.find?_range_eq_none]
    exact fun j hj => by rw [h j hj]; rfl
  unfold shutOf
  rw [e]
theorem wayShut_yes {s : Se} {M : List Int} (h : wayB s M = true) : wayShut s M = shutOf s M := by unfold wayShut; rw [if_pos h]
theorem wayB_n {s : Se} {M : List Int} (h : wayB s M = true) : SeaN s ∧ M.length ≤ 200 ∧ ∀ r, r < M.length → stepB s M r = true := by
  unfold wayB way0B at h
  simp only [Bool.and_eq_true, List.all_eq_true, List.mem_range] at h
  have := inB_true h.1.2
  exact ⟨seaB_n h.1.1, by omega, h.2⟩

end Go.Proofs.Ytdpcacfgbjllhaa

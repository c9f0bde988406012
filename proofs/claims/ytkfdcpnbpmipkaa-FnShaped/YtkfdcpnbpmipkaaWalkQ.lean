/- Contracts of the laws' own markers and holders: markIntS, heldIntS, markIntSS, heldIntSS, markHull, heldHull. -/
import Derived.Test.YtkfdcpnbpmipkaaWalkL
import Derived.Test.YtkfdcpnbpmipkaaKept
namespace Go.Proofs.Ytkfdcpnbpmipkaa
open Go.RowKit

/-- k, k + 1, .. : n numbers. -/
def marks (k : Int) (n : Nat) : List Int := (List.range n).map fun i : Nat => k + (i : Int)

theorem marks_len (k : Int) (n : Nat) : (marks k n).length = n := by simp [marks]
theorem marks_get (k : Int) {n i : Nat} (h : i < n) : (marks k n).getD i 0 = k + i := by simp [marks, List.getD, h]

/-- i of n numbers are marked. -/
def midway (xs : List Int) (k : Int) (i : Nat) : List Int := (List.range xs.length).map fun j : Nat => if j < i then k + (j : Int) else xs.getD j 0

theorem midway_len (xs : List Int) (k : Int) (i : Nat) : (midway xs k i).length = xs.length := by simp [midway]

theorem midway_zero (xs : List Int) (k : Int) : midway xs k 0 = xs := by
  apply List.ext_getElem
  · simp [midway]
  · intro i h1 h2
    simp [midway, List.getElem?_eq_getElem h2]

theorem midway_step (xs : List Int) (k : Int) (i : Nat) : (midway xs k i).set i (k + i) = midway xs k (i + 1) := by
  apply List.ext_getElem
  · simp [midway]
  · intro j h1 h2
    rw [List.getElem_set]
    simp only [midway, List.getElem_map, List.getElem_range]
    by_cases e : i = j
    · subst e; simp
    · rw [if_neg e]
      by_cases hlt : j < i
      · rw [if_pos hlt, if_pos (by omega)]
      · rw [if_neg hlt, if_neg (by omega)]

theorem midway_done (xs : List Int) (k : Int) : midway xs k xs.length = marks k xs.length := by
  unfold midway marks
  refine List.map_congr_left fun j hj => ?_
  rw [if_pos (List.mem_range.1 hj)]

end Go.Proofs.Ytkfdcpnbpmipkaa

/- How long a holed hull's rows are. -/
import Derived.Test.YticcjdcglfiggaaStHi
namespace Go.Proofs.Yticcjdcglfiggaa
open Go.RowKit

theorem fRows_bd (step rise : Int) (R : List (List Int)) (L : List I3) : (fRows step rise R L).length ≤ 1048576 ∧ ∀ i, i < (fRows step rise R L).length → ((fRows step rise R L).getD i []).length ≤ 1048576 := by
  unfold fRows
  by_cases h : roomsB step rise R L = true
  · rw [if_pos h]
    have hR := hullOk_right (roomsB_at h).1
    have h2 := hR.len2
    have h3 := hR.wat2
    rw [dips_len]
    refine ⟨by omega, fun i hi => ?_⟩
    rw [dips_get R _ hi, dipRow_len, hR.even _ hi]
    omega
  · rw [if_neg h]; simp

end Go.Proofs.Yticcjdcglfiggaa

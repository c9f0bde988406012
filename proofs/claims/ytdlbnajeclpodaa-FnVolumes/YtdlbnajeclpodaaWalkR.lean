/- Contracts of the laws' own markers and holders of lists of rows: markIntSS, heldIntSS, markHull, heldHull. -/
import Derived.Test.YtdlbnajeclpodaaWalkQ
namespace Go.Proofs.Ytdlbnajeclpodaa
open Go.RowKit

/-- How many numbers the first rows hold. -/
def pre (R : List (List Int)) : Nat → Nat
  | 0 => 0
  | r + 1 => pre R r + (R.getD r []).length

theorem pre_le {R : List (List Int)} {n : Nat} (h : ∀ i, i < n → (R.getD i []).length ≤ 1048576) : ∀ r, r ≤ n → pre R r ≤ r * 1048576
  | 0, _ => by simp [pre]
  | r + 1, hr => by
    have h1 := pre_le h r (by omega)
    have h2 := h r (by omega)
    simp only [pre]
    omega

/-- The rows, marked from k on. -/
def mrows (k : Int) (R : List (List Int)) : List (List Int) := (List.range R.length).map fun r : Nat => marks (k + (pre R r : Int)) (R.getD r []).length

theorem mrows_len (k : Int) (R : List (List Int)) : (mrows k R).length = R.length := by simp [mrows]
theorem mrows_get (k : Int) (R : List (List Int)) {r : Nat} (h : r < R.length) : (mrows k R).getD r [] = marks (k + (pre R r : Int)) (R.getD r []).length := by simp [mrows, List.getD, h]
theorem mrows_row (k : Int) (R : List (List Int)) {r : Nat} (h : r < R.length) : ((mrows k R).getD r []).length = (R.getD r []).length := by rw [mrows_get k R h, marks_len]

theorem pre_congr {R R' : List (List Int)} {n : Nat} (h : ∀ r, r < n → (R.getD r []).length = (R'.getD r []).length) : ∀ r, r ≤ n → pre R r = pre R' r
  | 0, _ => rfl
  | r + 1, hr => by simp only [pre]; rw [pre_congr h r (by omega), h r (by omega)]

theorem pre_mrows (k : Int) (R : List (List Int)) {r : Nat} (h : r ≤ R.length) : pre (mrows k R) r = pre R r := pre_congr (fun _ hr => mrows_row k R hr) r h

theorem tops_congr {G C : Nat → Nat} {R R' : List (List Int)} (hl : R.length = R'.length) (h : ∀ r, r < R.length → (R.getD r []).length = (R'.getD r []).length) : tops G C R = tops G C R' := by
  unfold tops
  rw [← hl]
  exact List.map_congr_left fun r hr => by rw [h r (List.mem_range.1 hr)]

theorem ne_nil_of_len {xs : List Int} {n : Nat} (h : xs.length = n) (hn : 0 < n) : xs ≠ [] := fun e => by rw [e] at h; simp at h; omega

end Go.Proofs.Ytdlbnajeclpodaa

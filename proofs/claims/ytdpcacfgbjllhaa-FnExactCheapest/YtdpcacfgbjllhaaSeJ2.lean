/- What Cheapest tells is one thing alone. -/
import Derived.Test.YtdpcacfgbjllhaaSeJ
namespace Go.Proofs.Ytdpcacfgbjllhaa
open Go.RowKit

theorem cheap_ex (s : Se) (x : Int) : ∃ cs : List Int × Bool, cs.1.length ≤ 1048576 ∧ ∀ N c, CheapAns s x N c → N = cs.1 ∧ c = cs.2 := by
  by_cases h : ∃ M b, CheapAns s x M b
  · obtain ⟨M, b, h⟩ := h
    refine ⟨(M, b), ?_, fun N c h' => cheap_one h' h⟩
    rcases h with ⟨h1, -, h3, -⟩ | ⟨-, -, h3⟩
    · rw [Bool.and_eq_true] at h1
      have := (seaB_n h1.1).le
      simp only
      omega
    · rw [h3]; simp
  · exact ⟨([], false), by simp, fun N c h' => absurd ⟨N, c, h'⟩ h⟩
theorem cheap_got {s : Se} {x : Int} {M : List Int} {V : Bool} (h : ∀ N c, CheapAns s x N c → N = M ∧ c = V) {w w' : World} {e : Ending} (hp : CheapPost s x w w' e) :
    ∃ a n cp, e = .returned (.tuple #[.slice a n cp, .bool V]) ∧ OwnSl w.heap.size w' (.slice a n cp) M ∧ Below w.heap.size w w' := by
  obtain ⟨N, c, a, n, cp, hc, he, ho, hb⟩ := hp
  obtain ⟨rfl, rfl⟩ := h N c hc
  exact ⟨a, n, cp, he, ho, hb⟩

end Go.Proofs.Ytdpcacfgbjllhaa

/- Contract of the specification's WindowsOf. -/
import Derived.Test.YtglehiakikhlaaaTdB
import Derived.Test.YtglehiakikhlaaaWiA
import Derived.WalkSmall
namespace Go.Proofs.Ytglehiakikhlaaa
open Go.RowKit

/-- The windows and whether one stands open behind k minutes. -/
structure WS where
  L : List I2
  o : Bool
def WS.last (s : WS) (i : Nat) : List I2 := s.L.set (s.L.length - 1) ((s.L.getD (s.L.length - 1) default).1, (i : Int))
def WS.step (s : WS) (i : Nat) (e : Bool) : WS := if e = true then (if s.o = true then ⟨s.last i, true⟩ else ⟨s.L ++ [((i : Int), (i : Int))], true⟩) else ⟨s.L, false⟩
def winTo (es : Nat → Bool) : Nat → WS
  | 0 => ⟨[], false⟩
  | k + 1 => (winTo es k).step k (es k)
def deepAt (xs : List Nat) (need : Nat) (i : Nat) : Bool := geF (xs.getD i 0) need
def windowsOf (xs : List Nat) (need : Nat) : List I2 := if xs.length ≤ 1500 then (winTo (deepAt xs need) xs.length).L else []

theorem winTo_inv (es : Nat → Bool) : ∀ k, (winTo es k).L.length ≤ k ∧ ((winTo es k).o = true → 0 < (winTo es k).L.length)
  | 0 => ⟨Nat.le_refl _, fun h => by cases h⟩
  | k + 1 => by
    obtain ⟨h1, h2⟩ := winTo_inv es k
    rw [winTo]
    unfold WS.step
    split
    · split
      · rename_i ho
        refine ⟨?_, fun _ => ?_⟩
        · simp only [WS.last, List.length_set]; omega
        · simp only [WS.last, List.length_set]; exact h2 ho
      · refine ⟨by simp; omega, fun _ => by simp⟩
    · exact ⟨by simp only; omega, fun h => by cases h⟩
theorem windowsOf_len (xs : List Nat) (need : Nat) : (windowsOf xs need).length ≤ 1500 := by
  unfold windowsOf
  split
  · have := (winTo_inv (deepAt xs need) xs.length).1; omega
  · simp

theorem recI2_snoc (L : List I2) (p : I2) : recCells 2 e2 (L ++ [p]) = recCells 2 e2 L ++ [.int .i64 p.1, .int .i64 p.2] := by
  have e : (L ++ [p]).length * 2 = L.length * 2 + 1 + 1 := by simp; omega
  unfold recCells
  rw [e, List.range_succ, List.range_succ]
  simp only [List.map_append, List.map_cons, List.map_nil, List.append_assoc, List.cons_append, List.nil_append]
  congr 1
  · apply List.map_congr_left
    intro k hk
    have : k / 2 < L.length := by simp at hk; omega
    simp [List.getD, List.getElem?_append, this]
  · have h0 : L.length * 2 / 2 = L.length := by omega
    have h1 : (L.length * 2 + 1) / 2 = L.length := by omega
    have m0 : L.length * 2 % 2 = 0 := by omega
    have m1 : (L.length * 2 + 1) % 2 = 1 := by omega
    rw [h0, h1, m0, m1]
    simp [List.getD, e2]

theorem recI2_at (M : List I2) {q : Nat} (hq : q < M.length * 2) : (recCells 2 e2 M)[q]? = some (e2 (M.getD (q / 2) default) (q % 2)) := by
  simp [recCells, List.getElem?_range hq]
theorem recI2_set (M : List I2) {j : Nat} (hj : j < M.length) (x : I2) : ((recCells 2 e2 M).set (j * 2) (.int .i64 x.1)).set (j * 2 + 1) (.int .i64 x.2) = recCells 2 e2 (M.set j x) := by
  apply List.ext_getElem?
  intro q
  by_cases hq : q < M.length * 2
  · rw [recI2_at (M.set j x) (by simpa using hq), List.getElem?_set, List.getElem?_set, recI2_at M hq, recCells_length]
    by_cases h1 : j * 2 + 1 = q
    · subst h1
      have e1 : (j * 2 + 1) / 2 = j := by omega
      have e2' : (j * 2 + 1) % 2 = 1 := by omega
      rw [if_pos rfl, if_pos (by simp [recCells_length]; omega), e1, e2']
      simp [List.getD, hj, e2]
    · rw [if_neg h1]
      by_cases h2 : j * 2 = q
      · subst h2
        have e1 : (j * 2) / 2 = j := by omega
        have e2' : (j * 2) % 2 = 0 := by omega
        rw [if_pos rfl, if_pos hq, e1, e2']
        simp [List.getD, hj, e2]
      · rw [if_neg h2]
        have : ¬ j = q / 2 := by omega
        simp [List.getD, this]
  · rw [List.getElem?_eq_none (by simp [recCells_length]; omega), List.getElem?_eq_none (by rw [recCells_length, List.length_set]; omega)]

/-- A row of windows that grows. -/
structure GrowW (w A : World) (v : Value) (L : List I2) : Prop where
  row : A.ownsRow w.heap.size 32 2 v L.length (recCells 2 e2 L)
  below : Below w.heap.size w A
  fv : ∃ g c, v = .slice (some ⟨g, 0, none⟩) L.length c
theorem growW_new (w A : World) (h : Below w.heap.size w A) : GrowW w (A.alloc (.cells #[] 32)) (.slice (some ⟨A.heap.size, 0, none⟩) 0 0) [] :=
  ⟨⟨rfl, Or.inr ⟨A.heap.size, 0, #[], rfl, h.size, Go.Deep.blk_alloc_new _ _, Nat.le_refl _, Nat.zero_le _, rfl, rfl⟩⟩, Below.step h (Below.alloc1 _ _), ⟨_, _, rfl⟩⟩
theorem ownsRow_ownWi {w : World} {base : Nat} {e : TypeId} {v : Value} {n : Nat} {L : List I2} (h : w.ownsRow base e 2 v n (recCells 2 e2 L)) (hn : L.length = n) : OwnWi base w v L := by
  obtain ⟨h1, h2⟩ := h
  rcases h2 with ⟨rfl, h0⟩ | ⟨g, cap, cur, rfl, hg, hh, hc, hm, hs, ht⟩
  · have : L = [] := List.length_eq_zero_iff.1 (by omega)
    subst this
    exact ⟨none, 0, rfl, Nat.le_refl _, Nat.zero_le _, fun h => absurd rfl h⟩
  · subst hn
    refine ⟨_, cap, rfl, hc, hm, fun _ => ⟨g, rfl, hg, cur, e, hh, fun i hi => ?_⟩⟩
    rw [recCells_length] at hi
    rw [← ht]
    simp [hi]
theorem GrowW.done {w A : World} {v : Value} {L : List I2} (h : GrowW w A v L) : OwnWi w.heap.size A v L := ownsRow_ownWi h.row rfl
theorem GrowW.next {w B : World} {g cap : Nat} {L : List I2} {x y : Int} (ho : B.ownsRow w.heap.size 32 2 (.slice (some ⟨g, 0, none⟩) (L.length + 1) cap) (L.length + 1) (recCells 2 e2 L ++ [.int .i64 x, .int .i64 y])) (hb : Below w.heap.size w B) :
    GrowW w B (.slice (some ⟨g, 0, none⟩) (L.length + 1) cap) (L ++ [(x, y)]) := by
  refine ⟨?_, hb, ⟨g, cap, by simp⟩⟩
  rw [recI2_snoc, List.length_append]
  exact ho

end Go.Proofs.Ytglehiakikhlaaa

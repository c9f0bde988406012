/- The contract of the program's ownCopy; a list of rows of the call's own, and how it is filled. -/
import Derived.Test.YtjllilmiloippaaWalkR
import Derived.Test.YtjllilmiloippaaExactKit
import Derived.Test.YtjllilmiloippaaCpInt
import Derived.ArgAppend
import Derived.WideShapes
namespace Go.Proofs.Ytjllilmiloippaa
open Go.RowKit

theorem ownCopy_any (ar : Option Addr) (m cr : Nat) (xs : List Int) (w : World) (h : IntsIn w (.slice ar m cr) xs) (hpos : 0 < m) (hm : m ≤ 1048576) :
    Calls Try.prog 79 #[.slice ar m cr] w fun e w' => ∃ g cap, e = .returned (.slice (some ⟨g, 0, none⟩) m cap) ∧ w.heap.size ≤ g ∧ m ≤ cap ∧ cap ≤ maxLen ∧ OwnV w' g (ints xs) ∧ Below w.heap.size w w' :=
  (ownCopyInt_any ar m cr xs w h hm).mono fun e w' ⟨he, hO, hb⟩ => ⟨w.heap.size, m, he, Nat.le_refl _, Nat.le_refl _, by unfold maxLen; omega, hO, hb⟩

/-- A list of rows of the call's own, or nothing. -/
def OwnRowsV (B : Nat) (w : World) (v : Value) (R : List (List Int)) : Prop :=
  (R = [] ∧ v = .slice none 0 0) ∨ ∃ g G C cap, v = .slice (some ⟨g, 0, none⟩) R.length cap ∧ R.length ≤ cap ∧ cap ≤ maxLen ∧ OwnRows B w g G C R

/-- The new list of rows, k of them made. -/
structure FillM (w wr : World) (M : List (List Int)) (k : Nat) (G C : Nat → Nat) : Prop where
  below : Below w.heap.size w wr
  top : wr.rowIs w.heap.size 30 M.length (fun r => if r < k then .slice (some ⟨G r, 0, none⟩) (M.getD r []).length (C r) else .slice none 0 0)
  rows : ∀ r, r < k → OwnV wr (G r) (ints (M.getD r []))
  caps : ∀ r, r < k → (M.getD r []).length ≤ C r ∧ C r ≤ maxLen
  above : ∀ r, r < k → w.heap.size < G r
  apart : ∀ r s, r < k → s < k → r ≠ s → G r ≠ G s

theorem fillM_start (w : World) (M : List (List Int)) (n : Nat) (hn : n = M.length) : FillM w (w.alloc (.cells (madeCells #[.slice none 0 0] n) 30)) M 0 (fun _ => 0) (fun _ => 0) := by
  subst hn
  exact ⟨(Below.refl _ _).alloc (Nat.le_refl _) _, (World.rowIs_made w _ M.length 30).congr (fun j _ => by simp), fun r hr => by omega, fun r hr => by omega, fun r hr => by omega, fun r s hr => by omega⟩

theorem fillM_step {w wr w2 w3 : World} {M : List (List Int)} {k g cap : Nat} {G C : Nat → Nat} (h : FillM w wr M k G C) (hb2 : Below wr.heap.size wr w2) (hg : w2.heap.size ≤ g) (ho : OwnV w3 g (ints (M.getD k []))) (hb3 : Below w2.heap.size w2 w3)
    (hc1 : (M.getD k []).length ≤ cap) (hc2 : cap ≤ maxLen) :
    FillM w (w3.setCell ⟨w.heap.size, k, none⟩ (.slice (some ⟨g, 0, none⟩) (M.getD k []).length cap)) M (k + 1) (fun r => if r = k then g else G r) (fun r => if r = k then cap else C r) := by
  have hlt := h.top.lt
  have hs2 := hb2.size
  have hB : Below wr.heap.size wr w3 := Below.step hb2 hb3
  have old : ∀ r, r < k → G r < wr.heap.size := fun r hr => (h.rows r hr).lt
  refine ⟨(Below.step h.below hB).setCell (Nat.le_refl _) _, ((h.top.of_block (hB.block _ hlt)).set k _).congr (fun i _ => ?_), fun r hr => ?_, fun r hr => ?_, fun r hr => ?_, fun r s hr hs hne => ?_⟩
  · by_cases e : i = k
    · subst e; simp
    · rw [if_neg e]
      by_cases hi : i < k
      · rw [if_pos hi, if_pos (by omega), if_neg e, if_neg e]
      · rw [if_neg hi, if_neg (by omega)]
  · by_cases e : r = k
    · subst e
      simp only [if_true]
      exact ho.other (by show g ≠ w.heap.size; omega) _
    · have hr' : r < k := by omega
      rw [if_neg e]
      exact ((h.rows r hr').below hB (h.rows r hr').lt).other (by have := h.above r hr'; show G r ≠ w.heap.size; omega) _
  · by_cases e : r = k
    · subst e; simp only [if_true]; exact ⟨hc1, hc2⟩
    · rw [if_neg e]; exact h.caps r (by omega)
  · by_cases e : r = k
    · subst e; simp only [if_true]; omega
    · rw [if_neg e]; exact h.above r (by omega)
  · by_cases er : r = k
    · subst er
      rw [if_pos rfl, if_neg (fun e => hne e.symm)]
      have := old s (by omega)
      omega
    · rw [if_neg er]
      by_cases es : s = k
      · subst es
        rw [if_pos rfl]
        have := old r (by omega)
        omega
      · rw [if_neg es]
        exact h.apart r s (by omega) (by omega) hne

theorem fillM_done {w wr : World} {M : List (List Int)} {G C : Nat → Nat} (h : FillM w wr M M.length G C) : OwnRows w.heap.size wr w.heap.size G C M :=
  ⟨Nat.le_refl _, rowIs_ownV h.top (tops_length _ _ M) (fun i hi => by rw [tops_get _ _ M hi, if_pos hi]), h.rows, h.caps, fun r hr => ⟨by have := h.above r hr; omega, by have := h.above r hr; omega⟩, h.apart⟩

end Go.Proofs.Ytjllilmiloippaa

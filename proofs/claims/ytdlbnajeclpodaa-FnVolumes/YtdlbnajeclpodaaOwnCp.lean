/- The contract of the program's ownCopy; a list of rows of the call's own, and how it is filled. -/
import Derived.Test.YtdlbnajeclpodaaWalkR
import Derived.Test.YtdlbnajeclpodaaExactKit
import Derived.ArgAppend
import Derived.WideShapes
namespace Go.Proofs.Ytdlbnajeclpodaa
open Go.RowKit

set_option maxHeartbeats 800000 in
theorem ownCopy_any (ar : Option Addr) (m cr : Nat) (xs : List Int) (w : World) (h : IntsIn w (.slice ar m cr) xs) (hpos : 0 < m) (hm : m ≤ 1048576) :
    Calls Try.prog 17 #[.slice ar m cr] w fun e w' => ∃ g cap, e = .returned (.slice (some ⟨g, 0, none⟩) m cap) ∧ w.heap.size ≤ g ∧ m ≤ cap ∧ cap ≤ maxLen ∧ OwnV w' g (ints xs) ∧ Below w.heap.size w w' := by
  obtain ⟨el, hmc, hcm⟩ := h.len
  obtain ⟨b, o, rfl, hx0⟩ := intAt h hpos
  have hcells : ∀ j u, (ints xs)[j]? = some u → w.cell? ((⟨b, o, none⟩ : Addr).add j) = some u := fun j u hu => by
    have hj : j < xs.length := by
      rcases Nat.lt_or_ge j xs.length with h | h
      · exact h
      · rw [List.getElem?_eq_none (by rw [ints_length]; exact h)] at hu; cases hu
    obtain ⟨b', o', e, hx⟩ := intAt h (by omega : j < m)
    simp only [Option.some.injEq, Addr.mk.injEq, and_true] at e
    obtain ⟨rfl, rfl⟩ := e
    rw [Go.WideShapes.add_plain, hx, ← hu, ints_get xs hj]
  have h1c : ∀ u ∈ ints xs, u.oneCell' = true := fun u hu => by
    obtain ⟨x, _, rfl⟩ := List.mem_map.1 hu
    rfl
  obtain ⟨i0, hi, hz0, hz1, hz2⟩ := info_parts Try.info3
  have EL := hide el
  have HC := hide hcells
  have H1 := hide h1c
  have hil := ints_length xs
  rw [el] at hil
  have HI := hide hil
  clear h hx0 hcells h1c el hil
  unfold maxLen at hcm
  go_enter Try.func17, Try.ntmps17
  go_wp2_with (at_builtin; refine wpList_append_grows _ rfl _ _ 31 rfl 3 i0 (.int .i64 0) 1 8 Try.underlying31 hi hz0 hz1 hz2 rfl (by decide) (some ⟨b, o, none⟩) 0 0 [] ?q1 (fun e => by cases e) rfl (fun _ _ j u hu => by simp at hu) ⟨b, o, none⟩ m cr (ints xs) ?q2 (by rw [unhide HI]; omega) (unhide HC) (unhide H1) (by omega) (by unfold maxLen; omega) (by omega) ?_)
  case q1 => rfl
  case q2 => rfl
  intro v' w' hown hgrow
  have hb : Below w.heap.size w w' := (Below.refl _ _).grown hgrow (Nat.le_refl _) (fun k hk => by cases hk)
  obtain ⟨g, cap, hv, hg, hc1, hc2, hov⟩ : ∃ g cap, v' = .slice (some ⟨g, 0, none⟩) m cap ∧ w.heap.size ≤ g ∧ m ≤ cap ∧ cap ≤ maxLen ∧ OwnV w' g (ints xs) := by
    obtain ⟨_, h2⟩ := hown
    rcases h2 with ⟨_, h0⟩ | ⟨g, cap, cur, hv, hg, hh, hc, hm', hs, ht⟩
    · omega
    · refine ⟨g, cap, by simpa using hv, hg, by simpa using hc, hm', cur, _, hh, fun i hi => ?_⟩
      rw [← ht]
      rw [unhide HI] at hi
      simp [hi]
  have HB := hide hb
  have HO := hide hov
  clear hown hgrow hb hov HC H1
  rw [hv]
  clear hv
  go_wp2
  go_ret
  exact ⟨g, cap, rfl, hg, hc1, hc2, unhide HO, unhide HB⟩

/-- A list of rows of the call's own, or nothing. -/
def OwnRowsV (B : Nat) (w : World) (v : Value) (R : List (List Int)) : Prop :=
  (R = [] ∧ v = .slice none 0 0) ∨ ∃ g G C cap, v = .slice (some ⟨g, 0, none⟩) R.length cap ∧ R.length ≤ cap ∧ cap ≤ maxLen ∧ OwnRows B w g G C R

/-- The new list of rows, k of them made. -/
structure FillM (w wr : World) (M : List (List Int)) (k : Nat) (G C : Nat → Nat) : Prop where
  below : Below w.heap.size w wr
  top : wr.rowIs w.heap.size 31 M.length (fun r => if r < k then .slice (some ⟨G r, 0, none⟩) (M.getD r []).length (C r) else .slice none 0 0)
  rows : ∀ r, r < k → OwnV wr (G r) (ints (M.getD r []))
  caps : ∀ r, r < k → (M.getD r []).length ≤ C r ∧ C r ≤ maxLen
  above : ∀ r, r < k → w.heap.size < G r
  apart : ∀ r s, r < k → s < k → r ≠ s → G r ≠ G s

theorem fillM_start (w : World) (M : List (List Int)) (n : Nat) (hn : n = M.length) : FillM w (w.alloc (.cells (madeCells #[.slice none 0 0] n) 31)) M 0 (fun _ => 0) (fun _ => 0) := by
  subst hn
  exact ⟨(Below.refl _ _).alloc (Nat.le_refl _) _, (World.rowIs_made w _ M.length 31).congr (fun j _ => by simp), fun r hr => by omega, fun r hr => by omega, fun r hr => by omega, fun r s hr => by omega⟩

theorem fillM_step {w wr w2 w3 : World} {M : List (List Int)} {k g cap : Nat} {G C : Nat → Nat} (h : FillM w wr M k G C) (hb2 : Below wr.heap.size wr w2) (hg : w2.heap.size ≤ g) (ho : OwnV w3 g (ints (M.getD k []))) (hb3 : Below w2.heap.size w2 w3)
    (hc1 : (M.getD k []).length ≤ cap) (hc2 : cap ≤ maxLen) :
    FillM w (w3.setCell ⟨w.heap.size, k, none⟩ (.slice (some ⟨g, 0, none⟩) (M.getD k []).length cap)) M (k + 1) (fun r => if r = k then g else G r) (fun r => if r = k then cap else C r) := by
  have hlt := h.top.lt
  have hs2 := hb2.size
  have hB : Below wr.heap.size wr w3 := Below.step hb2 hb3
  have old : ∀ r, r < k → G r < wr.heap.size := fun r hr => (h.rows r hr).lt
  refine ⟨(Below.step h.below hB).setCell (Nat.le_refl _) _, ((h.top.of_block (hB.block _ hlt)).set k _).congr (fun i _ => ?_), fun r hr => ?_, fun r hr => ?_, fun r hr => ?_, fun r s hr hs hne => ?_⟩
  · by_cases e : i = k
    · subst e; simp
    · rw [if_neg e]
      by_cases hi : i < k
      · rw [if_pos hi, if_pos (by omega), if_neg e, if_neg e]
      · rw [if_neg hi, if_neg (by omega)]
  · by_cases e : r = k
    · subst e
      simp only [if_true]
      exact ho.other (by show g ≠ w.heap.size; omega) _
    · have hr' : r < k := by omega
      rw [if_neg e]
      exact ((h.rows r hr').below hB (h.rows r hr').lt).other (by have := h.above r hr'; show G r ≠ w.heap.size; omega) _
  · by_cases e : r = k
    · subst e; simp only [if_true]; exact ⟨hc1, hc2⟩
    · rw [if_neg e]; exact h.caps r (by omega)
  · by_cases e : r = k
    · subst e; simp only [if_true]; omega
    · rw [if_neg e]; exact h.above r (by omega)
  · by_cases er : r = k
    · subst er
      rw [if_pos rfl, if_neg (fun e => hne e.symm)]
      have := old s (by omega)
      omega
    · rw [if_neg er]
      by_cases es : s = k
      · subst es
        rw [if_pos rfl]
        have := old r (by omega)
        omega
      · rw [if_neg es]
        exact h.apart r s (by omega) (by omega) hne

theorem fillM_done {w wr : World} {M : List (List Int)} {G C : Nat → Nat} (h : FillM w wr M M.length G C) : OwnRows w.heap.size wr w.heap.size G C M :=
  ⟨Nat.le_refl _, rowIs_ownV h.top (tops_length _ _ M) (fun i hi => by rw [tops_get _ _ M hi, if_pos hi]), h.rows, h.caps, fun r hr => ⟨by have := h.above r hr; omega, by have := h.above r hr; omega⟩, h.apart⟩

end Go.Proofs.Ytdlbnajeclpodaa

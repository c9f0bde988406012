/- Bills: the specification's passing: words. -/
import Derived.Test.YtdcbonfhakdhhaaBlYw
namespace Go.Proofs.Ytdcbonfhakdhhaa
open Go.RowKit

/-- One bill of a row, written anew. -/
abbrev set5 (w : World) (g k : Nat) (y : EBl) : World := (((((w.setCell ⟨g, k * 5, none⟩ (eBl y 0)).setCell ⟨g, k * 5 + 1, none⟩ (eBl y 1)).setCell ⟨g, k * 5 + 2, none⟩ (eBl y 2)).setCell ⟨g, k * 5 + 3, none⟩ (eBl y 3)).setCell ⟨g, k * 5 + 4, none⟩ (eBl y 4))
theorem kept_set5 (w : World) (g k : Nat) (y : EBl) : Kept (fun b => b = g) w (set5 w g k y) :=
  (((((Kept.refl (fun b => b = g) w).setCell (p := ⟨g, k * 5, none⟩) rfl _).setCell (p := ⟨g, k * 5 + 1, none⟩) rfl _).setCell (p := ⟨g, k * 5 + 2, none⟩) rfl _).setCell (p := ⟨g, k * 5 + 3, none⟩) rfl _).setCell (p := ⟨g, k * 5 + 4, none⟩) rfl _
theorem SBk.put {A : Nat → Prop} {w w1 : World} {g m cap f mf fcap k : Nat} {E : List EBl} {F : List Int} (h : SBk A w (some ⟨g, 0, none⟩) m cap f mf fcap E F) (hk : k < E.length) (y : EBl) (hkp : Kept (fun b => b = (E.getD k default).2.1) w w1)
    (hy : OwnV w1 y.2.1 (strs y.1.2.2.2.2)) (hyl : y.1.2.2.2.2.length ≤ y.2.2) (hym : y.2.2 ≤ maxLen) (hor : y.2.1 = (E.getD k default).2.1 ∨ w.heap.size ≤ y.2.1) (hA : ∀ j, w.heap.size ≤ j → A j) :
    SBk A (set5 w1 g k y) (some ⟨g, 0, none⟩) m cap f mf fcap (E.set k y) F := by
  have ek : E.getD k default = E[k] := by simp [List.getD, hk]
  rw [ek] at hkp hor
  have hmem : E[k] ∈ E := List.getElem_mem _
  obtain ⟨t1, t2, t3, t4⟩ := h.top g rfl
  have hbg : E[k].2.1 ≠ g := t4 _ hmem
  have hbf : E[k].2.1 ≠ f := h.fap _ hmem
  have hbA := (h.hld _ hmem).2.1
  have hfl := (h.frow.ownG (by omega)).2.2.2.1
  have hK5 := kept_set5 w1 g k y
  have hyg : y.2.1 ≠ g := by rcases hor with e | e; rw [e]; exact hbg; omega
  have hyf : y.2.1 ≠ f := by rcases hor with e | e; rw [e]; exact hbf; omega
  have hyA : A y.2.1 := by rcases hor with e | e; rw [e]; exact hbA; exact hA _ e
  have hnd := h.apart
  rw [List.nodup_iff_pairwise_ne, List.pairwise_iff_getElem] at hnd
  have hoth : ∀ j (hj : j < E.length), j ≠ k → E[j].2.1 ≠ E[k].2.1 := by
    intro j hj hne
    rcases Nat.lt_or_ge j k with c | c
    · have := hnd j k (by simpa using hj) (by simpa using hk) c
      simpa using this
    · have := hnd k j (by simpa using hk) (by simpa using hj) (by omega)
      simp only [List.getElem_map] at this
      exact fun e => this e.symm
  have hlt : ∀ j (hj : j < E.length), E[j].2.1 < w.heap.size := fun j hj => (h.hld _ (List.getElem_mem hj)).1.lt
  have hset : ∀ x ∈ E.set k y, x = y ∨ ∃ j, ∃ hj : j < E.length, j ≠ k ∧ x = E[j] := by
    intro x hx
    obtain ⟨j, hj, e⟩ := List.mem_iff_getElem.1 hx
    rw [List.length_set] at hj
    rw [List.getElem_set] at e
    by_cases c : k = j
    · rw [if_pos c] at e; exact Or.inl e.symm
    · rw [if_neg c] at e; exact Or.inr ⟨j, hj, fun e => c e.symm, e.symm⟩
  refine ⟨(h.row.kept hkp (fun g' e _ _ => by simp only [Option.some.injEq, Addr.mk.injEq, and_true] at e; subst e; exact fun e => hbg e.symm)).putBl hk y, fun g' e => ?_, fun x hx => ?_, ?_, (h.frow.kept hkp (fun g' e _ _ => by simp only [Option.some.injEq, Addr.mk.injEq, and_true] at e; subst e; exact fun e => hbf e.symm)).kept hK5 (fun g' e _ _ => by simp only [Option.some.injEq, Addr.mk.injEq, and_true] at e; subst e; exact t3), h.ftop, fun x hx => ?_⟩
  · simp only [Option.some.injEq, Addr.mk.injEq, and_true] at e
    subst e
    refine ⟨t1, Nat.lt_of_lt_of_le t2 (Nat.le_trans hkp.size hK5.size), t3, fun x hx => ?_⟩
    rcases hset x hx with rfl | ⟨j, hj, -, rfl⟩
    · exact hyg
    · exact t4 _ (List.getElem_mem _)
  · rcases hset x hx with rfl | ⟨j, hj, hne, rfl⟩
    · exact ⟨hy.kept hK5 hyg, hyA, hyl, hym⟩
    · have h1 := h.hld _ (List.getElem_mem hj)
      exact ⟨(h1.1.kept hkp (hoth j hj hne)).kept hK5 (t4 _ (List.getElem_mem _)), h1.2⟩
  · rw [List.map_set]
    rcases hor with e | e
    · have e2 : (E.map (·.2.1)).set k y.2.1 = E.map (·.2.1) := by
        apply List.ext_getElem?
        intro j
        rw [List.getElem?_set]
        by_cases c : k = j
        · subst c; simp [hk, e]
        · rw [if_neg c]
      rw [e2]; exact h.apart
    · rw [List.nodup_iff_pairwise_ne, List.pairwise_iff_getElem]
      intro i j hi hj hij
      rw [List.length_set] at hi hj
      rw [List.getElem_set, List.getElem_set]
      have hmem2 : ∀ t (ht : t < (E.map (·.2.1)).length), (E.map (·.2.1))[t] ≠ y.2.1 := fun t ht => by
        rw [List.getElem_map]
        have := hlt t (by simpa using ht)
        omega
      split
      · split
        · omega
        · exact fun e => hmem2 j hj e.symm
      · split
        · exact hmem2 i hi
        · exact hnd i j hi hj hij
  · rcases hset x hx with rfl | ⟨j, hj, -, rfl⟩
    · exact hyf
    · exact h.fap _ (List.getElem_mem _)

section
variable {w X X1 : World} {av fv : Value} {ov : List Value} {G g m cap f mf fcap k : Nat} {E : List EBl} {F : List Int}
/-- What stays while one bill's originals turn. -/
theorem Sd.turn (h : Sd w X av fv ov G (some ⟨g, 0, none⟩) m cap f mf fcap E F) (hk : k < E.length) (hkp : Kept (fun b => b = (E.getD k default).2.1) X X1) :
    Below w.heap.size w X1 ∧ OwnV X1 w.heap.size [av, fv] ∧ OwnV X1 (w.heap.size + 1) ov ∧ OwnV X1 (w.heap.size + 2) [.slice none 0 0, .slice none 0 0] ∧ OwnV X1 G [.slice (some ⟨g, 0, none⟩) m cap, .slice (some ⟨f, 0, none⟩) mf fcap] ∧ OwnV X1 g (recCells 5 eBl E) ∧ OwnV X1 f (recCells 1 eI F) := by
  have ek : E.getD k default = E[k] := by simp [List.getD, hk]
  rw [ek] at hkp
  have hmem : E[k] ∈ E := List.getElem_mem _
  have hA : sA w.heap.size G E[k].2.1 := (h.bk.hld _ hmem).2.1
  have hbg : E[k].2.1 ≠ g := (h.bk.top g rfl).2.2.2 _ hmem
  have hbf : E[k].2.1 ≠ f := h.bk.fap _ hmem
  unfold sA at hA
  exact ⟨h.below.trans (hkp.below h.below.size fun b e => by have e : b = E[k].2.1 := e; omega), h.arg.kept hkp (by omega), h.op.kept hkp (by omega), h.res.kept hkp (by omega), h.box.kept hkp (fun e => hA.2 e.symm), ((h.bk.row.ownG (by omega)).1).kept hkp (fun e => hbg e.symm), ((h.bk.frow.ownG (by omega)).1).kept hkp (fun e => hbf e.symm)⟩
theorem Sd.put (h : Sd w X av fv ov G (some ⟨g, 0, none⟩) m cap f mf fcap E F) (hk : k < E.length) (y : EBl) (hkp : Kept (fun b => b = (E.getD k default).2.1) X X1)
    (hy : OwnV X1 y.2.1 (strs y.1.2.2.2.2)) (hyl : y.1.2.2.2.2.length ≤ y.2.2) (hym : y.2.2 ≤ maxLen) (hor : y.2.1 = (E.getD k default).2.1 ∨ X.heap.size ≤ y.2.1) :
    Sd w (set5 X1 g k y) av fv ov G (some ⟨g, 0, none⟩) m cap f mf fcap (E.set k y) F := by
  obtain ⟨h1, h2, h3, h4, h5, -, -⟩ := h.turn hk hkp
  have hA : sA w.heap.size G g := (h.bk.top g rfl).1
  have hA' := hA
  unfold sA at hA
  have hK5 := kept_set5 X1 g k y
  refine ⟨h1.trans (hK5.below h1.size fun b e => by have e : b = g := e; omega), h2.kept hK5 (by omega), h3.kept hK5 (by omega), h4.kept hK5 (by omega), h5.kept hK5 (fun e => hA.2 e.symm), h.bk.put hk y hkp hy hyl hym hor (fun j hj => ?_), h.ap⟩
  have := h.box.lt
  have := h.ap
  unfold sA
  omega
end

end Go.Proofs.Ytdcbonfhakdhhaa

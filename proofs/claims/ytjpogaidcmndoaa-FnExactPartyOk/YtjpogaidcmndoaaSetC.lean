/- Rows that are stored into in place. No statement about the program stands here. -/
import Derived.Test.YtjpogaidcmndoaaKept
import Derived.Laws.IdiomCopy
import Derived.Lib.SliceRun
namespace Go.Proofs.Ytjpogaidcmndoaa
open Go.RowKit

theorem OwnV.pre {w : World} {g : Nat} {a b : List Value} (h : OwnV w g (a ++ b)) : OwnV w g a := by
  obtain ⟨c, t, hh, hc⟩ := h
  refine ⟨c, t, hh, fun i hi => ?_⟩
  rw [hc i (by rw [List.length_append]; omega), List.getElem?_append_left hi]
theorem set_take {cs : List Value} {off : Nat} (h : off < cs.length) (v : Value) : (cs.set off v).take (off + 1) = cs.take off ++ [v] := by
  apply List.ext_getElem?
  intro i
  by_cases h1 : i < off
  · rw [List.getElem?_take, if_pos (by omega), List.getElem?_set_ne (by omega), List.getElem?_append_left (by rw [List.length_take]; omega), List.getElem?_take, if_pos h1]
  · by_cases h2 : i = off
    · subst h2
      rw [List.getElem?_take, if_pos (by omega), List.getElem?_set_self h, List.getElem?_append_right (by rw [List.length_take]; omega), List.length_take, show i - min i cs.length = 0 by omega]
      rfl
    · rw [List.getElem?_take, if_neg (by omega), List.getElem?_eq_none (by rw [List.length_append, List.length_take]; simp; omega)]
theorem set_drop {cs : List Value} {off m : Nat} (h : off < m) (v : Value) : (cs.set off v).drop m = cs.drop m := by
  apply List.ext_getElem?
  intro i
  rw [List.getElem?_drop, List.getElem?_drop, List.getElem?_set_ne (by omega)]
theorem own_setCells {g : Nat} : ∀ (news : List Value) (off : Nat) (cs : List Value) (w : World), OwnV w g cs → off + news.length ≤ cs.length → OwnV (w.setCells g off news) g (cs.take off ++ news ++ cs.drop (off + news.length)) := by
  intro news
  induction news with
  | nil =>
    intro off cs w h hl
    have e : cs.take off ++ ([] : List Value) ++ cs.drop (off + ([] : List Value).length) = cs := by simp
    rw [e]
    exact h
  | cons v vs ih =>
    intro off cs w h hl
    simp only [List.length_cons] at hl
    have h1 := ih (off + 1) (cs.set off v) (w.setCell ⟨g, off, none⟩ v) (h.set off v (by omega)) (by rw [List.length_set]; omega)
    rw [set_take (by omega), set_drop (by omega)] at h1
    have e : cs.take off ++ (v :: vs) ++ cs.drop (off + (v :: vs).length) = cs.take off ++ [v] ++ vs ++ cs.drop (off + 1 + vs.length) := by
      simp only [List.length_cons, List.append_assoc, List.cons_append, List.nil_append]
      rw [show off + (vs.length + 1) = off + 1 + vs.length by omega]
    rw [e]
    exact h1
theorem kept_setCells {g : Nat} : ∀ (news : List Value) (off : Nat) (w : World), Kept (fun b => b = g) w (w.setCells g off news) := by
  intro news
  induction news with
  | nil => intro off w; exact Kept.refl _ _
  | cons v vs ih =>
    intro off w
    exact (Kept.setCell (T := fun b => b = g) (Kept.refl _ w) (p := ⟨g, off, none⟩) rfl v).trans (ih (off + 1) _)

end Go.Proofs.Ytjpogaidcmndoaa

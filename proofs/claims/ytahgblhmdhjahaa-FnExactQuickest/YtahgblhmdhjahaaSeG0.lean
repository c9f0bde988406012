/- Quickest ways in numbers; rows of bools of the call's own. No statement about the program stands here. Written by wip/mkquick.py. -/
import Derived.Test.YtahgblhmdhjahaaSeD
import Derived.Test.YtahgblhmdhjahaaBlkA
namespace Go.Proofs.Ytahgblhmdhjahaa
open Go.RowKit

def openB (s : Se) (p t : Nat) : Bool := !decide (s.D.getD p 0 = 0) && !shutB s (p : Int) (t : Int)
def adjB (s : Se) (p q : Nat) : Bool := decide (q = p) || nextB s.wd (p : Int) (q : Int)
def nextH (s : Se) (H : Nat → Bool) (t q : Nat) : Bool := openB s q (t + 1) && (List.range s.D.length).any (fun p => H p && adjB s p q)
def hereN (s : Se) (x : Nat) : Nat → Nat → Bool
  | 0 => fun p => decide (p = x) && openB s p 0
  | t + 1 => nextH s (hereN s x t) t
def quickOf (s : Se) (x y z : Nat) : Int × Bool := match (List.range (z + 1)).find? (fun t => hereN s x t y) with
  | some t => ((t : Int), true)
  | none => (-1, false)
def quick0B (s : Se) (x y z : Int) : Bool := seaB s && (onB s x && (onB s y && inB z 0 200))
def quickest (s : Se) (x y z : Int) : Int × Bool := if quick0B s x y z = true then quickOf s x.toNat y.toNat z.toNat else (-1, false)
theorem quickest_no {s : Se} {x y z : Int} (h : quick0B s x y z = false) : quickest s x y z = (-1, false) := by unfold quickest; rw [h]; rfl
theorem quickOf_yes {s : Se} {x y z t : Nat} (ht : t ≤ z) (h : ∀ r, r < t → hereN s x r y = false) (h' : hereN s x t y = true) : quickOf s x y z = ((t : Int), true) := by
  have e : (List.range (z + 1)).find? (fun t => hereN s x t y) = some t := by
    rw [List.find?_range_eq_some]
    exact ⟨h', by simp; omega, fun j hj => by simp [h j hj]⟩
  unfold quickOf
  rw [e]
theorem quickOf_no {s : Se} {x y z : Nat} (h : ∀ r, r ≤ z → hereN s x r y = false) : quickOf s x y z = (-1, false) := by
  have e : (List.range (z + 1)).find? (fun t => hereN s x t y) = none := by
    rw [List.find?_range_eq_none]
    exact fun j hj => by simp [h j (by omega)]
  unfold quickOf
  rw [e]

/-- A row of n bools. -/
def bo (n : Nat) (H : Nat → Bool) : List Value := (List.range n).map (fun i => Value.bool (H i))
theorem bo_len (n : Nat) (H : Nat → Bool) : (bo n H).length = n := by simp [bo]
theorem bo_at {n i : Nat} {H : Nat → Bool} (h : i < n) : (bo n H)[i]? = some (.bool (H i)) := by simp [bo, h]
theorem bo_congr {n : Nat} {H H' : Nat → Bool} (h : ∀ i, i < n → H i = H' i) : bo n H = bo n H' := by
  unfold bo
  apply List.map_congr_left
  intro i hi
  rw [h i (List.mem_range.1 hi)]
theorem bo_set {n k : Nat} {H : Nat → Bool} (b : Bool) (h : k < n) : (bo n H).set k (.bool b) = bo n (fun i => if i = k then b else H i) := by
  apply List.ext_getElem?
  intro i
  by_cases hi : i < n
  · rw [List.getElem?_set, bo_at (H := fun i => if i = k then b else H i) hi]
    by_cases e : k = i
    · subst e; rw [if_pos rfl, if_pos (by rw [bo_len]; exact h), if_pos rfl]
    · rw [if_neg e, bo_at hi, if_neg (fun e' => e e'.symm)]
  · rw [List.getElem?_eq_none (by rw [List.length_set, bo_len]; omega), List.getElem?_eq_none (by rw [bo_len]; omega)]
theorem bo_made (n : Nat) : (madeCells #[Value.bool false] (n * 1)).toList = bo n (fun _ => false) := by
  unfold bo madeCells
  simp [Nat.mod_one]

theorem bo_made' (n : Nat) : (madeCells #[Value.bool false] n).toList = bo n (fun _ => false) := by
  unfold bo madeCells
  simp [Nat.mod_one]

/-- The box of the sea and the row here. -/
structure Q2 (w W : World) (box : List Value) (gh n : Nat) (H : Nat → Bool) : Prop where
  below : Below w.heap.size w W
  ob : OwnV W w.heap.size box
  oh : OwnV W gh (bo n H)
  h1 : w.heap.size < gh
theorem Q2.step {w W W' : World} {box : List Value} {gh n : Nat} {H : Nat → Bool} (h : Q2 w W box gh n H) (hb : Below W.heap.size W W') : Q2 w W' box gh n H := ⟨Below.step h.below hb, h.ob.step hb, h.oh.step hb, h.h1⟩
theorem Q2.cong {w W : World} {box : List Value} {gh n : Nat} {H H' : Nat → Bool} (h : Q2 w W box gh n H) (e : ∀ i, i < n → H i = H' i) : Q2 w W box gh n H' := ⟨h.below, h.ob, by rw [← bo_congr e]; exact h.oh, h.h1⟩
theorem Q2.put {w W : World} {box : List Value} {gh n : Nat} {H : Nat → Bool} (h : Q2 w W box gh n H) {q : Nat} (hq : q < n) (b : Bool) : Q2 w (W.setCell ⟨gh, q, none⟩ (.bool b)) box gh n (fun i => if i = q then b else H i) :=
  ⟨h.below.setCell (p := ⟨gh, q, none⟩) (Nat.le_of_lt h.h1) _, h.ob.other (a := ⟨gh, q, none⟩) (by show w.heap.size ≠ gh; have := h.h1; omega) _, by rw [← bo_set b hq]; exact h.oh.set q _ (by rw [bo_len]; exact hq), h.h1⟩

/-- The box of the sea, the row here and the row next. -/
structure Q3 (w W : World) (box : List Value) (gh gn n : Nat) (H N : Nat → Bool) : Prop where
  below : Below w.heap.size w W
  ob : OwnV W w.heap.size box
  oh : OwnV W gh (bo n H)
  on : OwnV W gn (bo n N)
  h1 : w.heap.size < gh
  h2 : w.heap.size < gn
  ne : gh ≠ gn
theorem Q2.made {w W : World} {box : List Value} {gh n : Nat} {H : Nat → Bool} (h : Q2 w W box gh n H) (t : TypeId) : Q3 w (W.alloc (.cells (madeCells #[.bool false] n) t)) box gh W.heap.size n H (fun _ => false) :=
  ⟨Below.step h.below (Below.alloc1 _ _), h.ob.alloc _, h.oh.alloc _, by rw [← bo_made']; exact ownV_alloc _ _ _, h.h1, h.ob.lt, by have := h.oh.lt; omega⟩
theorem Q3.last {w W : World} {box : List Value} {gh gn n : Nat} {H N : Nat → Bool} (h : Q3 w W box gh gn n H N) : Q2 w W box gn n N := ⟨h.below, h.ob, h.on, h.h2⟩
theorem Q3.step {w W W' : World} {box : List Value} {gh gn n : Nat} {H N : Nat → Bool} (h : Q3 w W box gh gn n H N) (hb : Below W.heap.size W W') : Q3 w W' box gh gn n H N := ⟨Below.step h.below hb, h.ob.step hb, h.oh.step hb, h.on.step hb, h.h1, h.h2, h.ne⟩
theorem Q3.put {w W : World} {box : List Value} {gh gn n : Nat} {H N : Nat → Bool} (h : Q3 w W box gh gn n H N) {q : Nat} (hq : q < n) (b : Bool) : Q3 w (W.setCell ⟨gn, q, none⟩ (.bool b)) box gh gn n H (fun i => if i = q then b else N i) :=
  ⟨h.below.setCell (p := ⟨gn, q, none⟩) (Nat.le_of_lt h.h2) _, h.ob.other (a := ⟨gn, q, none⟩) (by show w.heap.size ≠ gn; have := h.h2; omega) _, h.oh.other (a := ⟨gn, q, none⟩) (by show gh ≠ gn; exact h.ne) _, by rw [← bo_set b hq]; exact h.on.set q _ (by rw [bo_len]; exact hq), h.h1, h.h2, h.ne⟩
theorem Q3.cong {w W : World} {box : List Value} {gh gn n : Nat} {H N N' : Nat → Bool} (h : Q3 w W box gh gn n H N) (e : ∀ i, i < n → N i = N' i) : Q3 w W box gh gn n H N' := ⟨h.below, h.ob, h.oh, by rw [← bo_congr e]; exact h.on, h.h1, h.h2, h.ne⟩

def nx (s : Se) (H : Nat → Bool) (t p q r : Nat) : Bool := openB s r (t + 1) && ((List.range p).any (fun p' => H p' && adjB s p' r) || (decide (r < q) && (H p && adjB s p r)))
theorem nx_none (s : Se) (H : Nat → Bool) (t r : Nat) : nx s H t 0 0 r = false := by unfold nx; simp
theorem nx_row (s : Se) (H : Nat → Bool) (t p q : Nat) {r : Nat} (h : H p = true → r < q) : nx s H t p q r = nx s H t (p + 1) 0 r := by
  unfold nx
  rw [List.range_succ, List.any_append]
  cases hp : H p with
  | false => simp [hp]
  | true => simp [hp, h hp]
theorem nx_no (s : Se) (H : Nat → Bool) (t p q : Nat) (h : (openB s q (t + 1) && adjB s p q) = false) (r : Nat) : nx s H t p q r = nx s H t p (q + 1) r := by
  unfold nx
  by_cases e : r = q
  · subst e
    cases ho : openB s r (t + 1) with
    | false => rfl
    | true => rw [ho, Bool.true_and] at h; rw [h]; simp
  · by_cases hl : r < q
    · simp [hl, show r < q + 1 by omega]
    · simp [hl, show ¬ r < q + 1 by omega]
theorem nx_yes (s : Se) (H : Nat → Bool) (t p q : Nat) (hp : H p = true) (ho : openB s q (t + 1) = true) (ha : adjB s p q = true) (r : Nat) : (if r = q then true else nx s H t p q r) = nx s H t p (q + 1) r := by
  by_cases e : r = q
  · subst e
    rw [if_pos rfl]
    unfold nx
    simp [ho, hp, ha]
  · rw [if_neg e]
    unfold nx
    by_cases hl : r < q
    · simp [hl, show r < q + 1 by omega]
    · simp [hl, show ¬ r < q + 1 by omega]
theorem nx_all (s : Se) (x t : Nat) (r : Nat) : nx s (hereN s x t) t s.D.length 0 r = hereN s x (t + 1) r := by
  unfold nx
  show _ = nextH s (hereN s x t) t r
  unfold nextH
  simp

end Go.Proofs.Ytahgblhmdhjahaa

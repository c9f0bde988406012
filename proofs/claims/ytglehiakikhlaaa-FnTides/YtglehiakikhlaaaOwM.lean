/- Rows that are made at their whole length and filled from the first cell on. No statement about the program stands here. -/
import Derived.Test.YtglehiakikhlaaaFvA
namespace Go.Proofs.Ytglehiakikhlaaa
open Go.RowKit

section
variable {α : Type} {E : α → Value}

/-- The cells of a row of n, its first ones ys, the rest z. -/
def rowTo (E : α → Value) (z : Value) (n : Nat) (ys : List α) : List Value := ys.map E ++ List.replicate (n - ys.length) z
theorem rowTo_len {z : Value} {n : Nat} {ys : List α} (h : ys.length ≤ n) : (rowTo E z n ys).length = n := by simp [rowTo]; omega
theorem rowTo_get {z : Value} {n : Nat} {ys : List α} (h : ys.length < n) : (rowTo E z n ys)[ys.length]? = some z := by
  have h0 : 0 < n - ys.length := by omega
  simp [rowTo, h0]
theorem rowTo_set {z : Value} {n : Nat} {ys : List α} (h : ys.length < n) (x : α) : (rowTo E z n ys).set ys.length (E x) = rowTo E z n (ys ++ [x]) := by
  obtain ⟨d, hd⟩ : ∃ d, n - ys.length = d + 1 := ⟨n - ys.length - 1, by omega⟩
  have hd' : n - (ys ++ [x]).length = d := by simp; omega
  unfold rowTo
  rw [hd, hd', List.replicate_succ, List.map_append, List.set_append]
  simp
theorem rowTo_full {z : Value} {n : Nat} {ys : List α} (h : ys.length = n) : rowTo E z n ys = ys.map E := by simp [rowTo, h]
theorem rowTo_made (E : α → Value) (w : World) (z : Value) (n : Nat) (t : TypeId) : OwnV (w.alloc (.cells (madeCells #[z] n) t)) w.heap.size (rowTo E z n []) := by
  have h : (w.alloc (.cells (madeCells #[z] n) t)).rowIs w.heap.size t n (fun _ => z) := (World.rowIs_made w _ n t).congr (fun j _ => by simp)
  exact rowIs_ownV h (by simp [rowTo]) (fun i hi => by simp [rowTo, hi])

/-- The row as it stands behind k rounds. -/
structure FilE (E : α → Value) (z : Value) (n g : Nat) (w A : World) (ys : List α) : Prop where
  own : OwnV A g (rowTo E z n ys)
  below : Below w.heap.size w A
  from_ : w.heap.size ≤ g
theorem FilE.lt {z : Value} {n g : Nat} {w A : World} {ys : List α} (h : FilE E z n g w A ys) (hk : ys.length < n) : A.cell? ⟨g, ys.length, none⟩ = some z := h.own.cell (rowTo_get hk)
theorem FilE.drewN {z : Value} {n g : Nat} {w A : World} {ys : List α} (h : FilE E z n g w A ys) (m : Nat) : FilE E z n g w (A.drewN m) ys := ⟨h.own, below_drewN h.below m, h.from_⟩
theorem FilE.step {z : Value} {n g : Nat} {w A B : World} {ys : List α} (h : FilE E z n g w A ys) (hb : Below A.heap.size A B) : FilE E z n g w B ys := ⟨h.own.step hb, Below.step h.below hb, h.from_⟩
theorem FilE.next {z : Value} {n g : Nat} {w A : World} {ys : List α} (h : FilE E z n g w A ys) (hk : ys.length < n) (x : α) : FilE E z n g w (A.setCell ⟨g, ys.length, none⟩ (E x)) (ys ++ [x]) :=
  ⟨by rw [← rowTo_set hk]; exact h.own.set _ _ (by rw [rowTo_len (by omega)]; exact hk), h.below.setCell (p := ⟨g, ys.length, none⟩) h.from_ _, h.from_⟩
theorem FilE.done {z : Value} {n g : Nat} {w A : World} {ys : List α} (h : FilE E z n g w A ys) (hn : ys.length = n) (hm : n ≤ maxLen) : OwnC E w.heap.size A (.slice (some ⟨g, 0, none⟩) n n) ys :=
  ⟨_, n, by rw [hn], by omega, hm, fun _ => ⟨g, rfl, h.from_, by rw [← rowTo_full hn]; exact h.own⟩⟩
theorem fill_made (E : α → Value) (w : World) (z : Value) (n : Nat) (t : TypeId) : FilE E z n w.heap.size w (w.alloc (.cells (madeCells #[z] n) t)) [] := ⟨rowTo_made E w z n t, Below.alloc1 _ _, Nat.le_refl _⟩
theorem ownC_nil (E : α → Value) (B : Nat) (w : World) : OwnC E B w (.slice none 0 0) [] := ⟨none, 0, rfl, Nat.le_refl _, Nat.zero_le _, fun h => absurd rfl h⟩
end

end Go.Proofs.Ytglehiakikhlaaa

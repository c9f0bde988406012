/- The contract of the specification's Strip. -/
import Derived.Test.YtokmkhflfbkgjaaFlH
import Derived.Test.YtokmkhflfbkgjaaFlL
import Derived.BigRegion
namespace Go.Proofs.Ytokmkhflfbkgjaa
open Go.RowKit

attribute [local go_sem] run_store_float run_store_complex unary_neg_float

/-- Sum and phase. -/
structure SP where
  sr : Nat
  si : Nat
  pr : Nat
  pi : Nat
def SP.step (tr ti : Nat) (s : SP) (amp : Nat) : SP := ⟨fop .add .f64 s.sr (fop .mul .f64 amp s.pr), fop .add .f64 s.si (fop .mul .f64 amp s.pi), tRe s.pr s.pi tr ti, tIm s.pr s.pi tr ti⟩
def stripTo (tr ti : Nat) (xs : List Nat) : SP := xs.foldl (SP.step tr ti) ⟨0, 0, one64, 0⟩
theorem stripTo_snoc (tr ti : Nat) (xs : List Nat) {k : Nat} (hk : k < xs.length) : stripTo tr ti (xs.take (k + 1)) = (stripTo tr ti (xs.take k)).step tr ti (xs.getD k 0) := by
  have : xs.take (k + 1) = xs.take k ++ [xs.getD k 0] := by rw [List.take_add_one]; simp [List.getD, hk]
  rw [this]; simp [stripTo]
def stOk (xs : List Nat) : Bool := decide (xs.length ≤ 60)
def stRe (tr ti : Nat) (xs : List Nat) : Nat := if stOk xs = true then (stripTo tr ti xs).sr else 0
def stIm (tr ti : Nat) (xs : List Nat) : Nat := if stOk xs = true then (stripTo tr ti xs).si else 0

/-- The four boxes of Strip. -/
structure SBox (w W : World) (tr ti a b c d : Nat) : Prop where
  o1 : OwnV W w.heap.size [.float .f64 tr, .float .f64 ti]
  o2 : OwnV W (w.heap.size + 1) [.float .f64 0, .float .f64 0]
  o3 : OwnV W (w.heap.size + 1 + 1) [.float .f64 a, .float .f64 b]
  o4 : OwnV W (w.heap.size + 1 + 1 + 1) [.float .f64 c, .float .f64 d]
  below : Below w.heap.size w W

theorem SBox.step {w W W' : World} {tr ti a b c d : Nat} (h : SBox w W tr ti a b c d) (hb : Below W.heap.size W W') : SBox w W' tr ti a b c d := ⟨h.o1.step hb, h.o2.step hb, h.o3.step hb, h.o4.step hb, Below.step h.below hb⟩

theorem SBox.sum {w W : World} {tr ti a b c d a' b' : Nat} (h : SBox w W tr ti a b c d) : SBox w ((W.setCell ⟨w.heap.size + 1 + 1, 0, none⟩ (.float .f64 a')).setCell ⟨w.heap.size + 1 + 1, 1, none⟩ (.float .f64 b')) tr ti a' b' c d :=
  ⟨(h.o1.other (by show w.heap.size ≠ w.heap.size + 1 + 1; omega) _).other (by show w.heap.size ≠ w.heap.size + 1 + 1; omega) _, (h.o2.other (by show w.heap.size + 1 ≠ w.heap.size + 1 + 1; omega) _).other (by show w.heap.size + 1 ≠ w.heap.size + 1 + 1; omega) _, (h.o3.set 0 _ (by simp)).set 1 _ (by simp),
    (h.o4.other (by show w.heap.size + 1 + 1 + 1 ≠ w.heap.size + 1 + 1; omega) _).other (by show w.heap.size + 1 + 1 + 1 ≠ w.heap.size + 1 + 1; omega) _, (h.below.setCell (p := ⟨w.heap.size + 1 + 1, 0, none⟩) (by show w.heap.size ≤ w.heap.size + 1 + 1; omega) _).setCell (p := ⟨w.heap.size + 1 + 1, 1, none⟩) (by show w.heap.size ≤ w.heap.size + 1 + 1; omega) _⟩

theorem SBox.phase {w W : World} {tr ti a b c d c' d' : Nat} (h : SBox w W tr ti a b c d) : SBox w ((W.setCell ⟨w.heap.size + 1 + 1 + 1, 0, none⟩ (.float .f64 c')).setCell ⟨w.heap.size + 1 + 1 + 1, 1, none⟩ (.float .f64 d')) tr ti a b c' d' :=
  ⟨(h.o1.other (by show w.heap.size ≠ w.heap.size + 1 + 1 + 1; omega) _).other (by show w.heap.size ≠ w.heap.size + 1 + 1 + 1; omega) _, (h.o2.other (by show w.heap.size + 1 ≠ w.heap.size + 1 + 1 + 1; omega) _).other (by show w.heap.size + 1 ≠ w.heap.size + 1 + 1 + 1; omega) _,
    (h.o3.other (by show w.heap.size + 1 + 1 ≠ w.heap.size + 1 + 1 + 1; omega) _).other (by show w.heap.size + 1 + 1 ≠ w.heap.size + 1 + 1 + 1; omega) _, (h.o4.set 0 _ (by simp)).set 1 _ (by simp), (h.below.setCell (p := ⟨w.heap.size + 1 + 1 + 1, 0, none⟩) (by show w.heap.size ≤ w.heap.size + 1 + 1 + 1; omega) _).setCell (p := ⟨w.heap.size + 1 + 1 + 1, 1, none⟩) (by show w.heap.size ≤ w.heap.size + 1 + 1 + 1; omega) _⟩

theorem sbox_new (w : World) (tr ti a b c d : Nat) (t1 t2 t3 t4 : TypeId) : SBox w ((((w.alloc (.cells #[.float .f64 tr, .float .f64 ti] t1)).alloc (.cells #[.float .f64 0, .float .f64 0] t2)).alloc (.cells #[.float .f64 a, .float .f64 b] t3)).alloc (.cells #[.float .f64 c, .float .f64 d] t4)) tr ti a b c d := by
  have B := box6 w (.float .f64 tr) (.float .f64 ti) (.float .f64 0) (.float .f64 0) (.float .f64 a) (.float .f64 b) t1 t2 t3 0
  have h := ownV_alloc (((w.alloc (.cells #[.float .f64 tr, .float .f64 ti] t1)).alloc (.cells #[.float .f64 0, .float .f64 0] t2)).alloc (.cells #[.float .f64 a, .float .f64 b] t3)) #[.float .f64 c, .float .f64 d] t4
  simp only [World.size_alloc] at h
  exact ⟨B.o1.alloc _, B.o2.alloc _, B.o3.alloc _, h, Below.step B.below (Below.alloc1 _ _)⟩

end Go.Proofs.Ytokmkhflfbkgjaa

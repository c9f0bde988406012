/- Own words of this claim's proofs: of what was there only some blocks have turned. -/
import Derived.Test.YtjpogaidcmndoaaBase
namespace Go.Proofs.Ytjpogaidcmndoaa
open Go.RowKit

/-- Of what was there only blocks of T have turned. -/
structure Kept (T : Nat → Prop) (w w' : World) : Prop where
  os : w'.os = w.os
  tape : w'.tape = w.tape
  output : w'.output = w.output
  size : w.heap.size ≤ w'.heap.size
  block : ∀ k, k < w.heap.size → ¬ T k → w'.heap[k]? = w.heap[k]?

theorem Kept.refl (T : Nat → Prop) (w : World) : Kept T w w := ⟨rfl, rfl, rfl, Nat.le_refl _, fun _ _ _ => rfl⟩

theorem Kept.trans {T : Nat → Prop} {a b c : World} (h : Kept T a b) (k : Kept T b c) : Kept T a c :=
  ⟨k.os.trans h.os, k.tape.trans h.tape, k.output.trans h.output, Nat.le_trans h.size k.size, fun i hi ht => (k.block i (Nat.lt_of_lt_of_le hi h.size) ht).trans (h.block i hi ht)⟩

theorem Kept.mono {T T' : Nat → Prop} {w w' : World} (h : Kept T w w') (ht : ∀ k, k < w.heap.size → T k → T' k) : Kept T' w w' := ⟨h.os, h.tape, h.output, h.size, fun k hk hn => h.block k hk (fun x => hn (ht k hk x))⟩

theorem Kept.below {T : Nat → Prop} {w w' : World} {B : Nat} (h : Kept T w w') (hB : B ≤ w.heap.size) (ht : ∀ k, T k → B ≤ k) : Below B w w' :=
  ⟨h.os, h.tape, h.output, h.size, fun k hk => h.block k (by omega) (fun x => by have := ht k x; omega)⟩

theorem kept_of_below {T : Nat → Prop} {w w' : World} (h : Below w.heap.size w w') : Kept T w w' := ⟨h.os, h.tape, h.output, h.size, fun k hk _ => h.block k hk⟩

theorem Kept.setCell {T : Nat → Prop} {a w : World} (h : Kept T a w) {p : Addr} (hp : T p.block) (u : Value) : Kept T a (w.setCell p u) :=
  h.trans ⟨rfl, rfl, rfl, by simp [World.setCell], fun k _ hk => Below.heap_setCell _ _ _ _ (fun e => hk (e ▸ hp))⟩

theorem OwnV.kept {T : Nat → Prop} {w w' : World} {g : Nat} {vs : List Value} (h : OwnV w g vs) (hk : Kept T w w') (hg : ¬ T g) : OwnV w' g vs := h.of_block (hk.block g h.lt hg)

theorem Box3.kept {T : Nat → Prop} {w w' : World} {g : Nat} {x y z : Value} (h : Box3 w g x y z) (hk : Kept T w w') (hg : ¬ T g) : Box3 w' g x y z := by
  have e := hk.block g (lt_of_cell h.c0) hg
  exact ⟨(World.cell?_of_block (w := w) (a := ⟨g, 0, none⟩) e).trans h.c0, (World.cell?_of_block (w := w) (a := ⟨g, 1, none⟩) e).trans h.c1, (World.cell?_of_block (w := w) (a := ⟨g, 2, none⟩) e).trans h.c2⟩

end Go.Proofs.Ytjpogaidcmndoaa

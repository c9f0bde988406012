/- Contract of the specification's Send21. Written by wip/mkptc.py. -/
import Derived.Test.YtjpogaidcmndoaaPaB
import Derived.BigRegion
namespace Go.Proofs.Ytjpogaidcmndoaa
open Go.RowKit

theorem RowB.txP {A : Nat → Prop} {B g m cap : Nat} {w : World} {L : List ByteArray} (h : RowB 9 1 eS B w (some ⟨g, 0, none⟩) m cap L) (hA : A g) : TxP A g w (.slice (some ⟨g, 0, none⟩) m cap) L := by
  obtain ⟨_, _, h1, h2, ho, hl⟩ := h.lo (by omega)
  subst hl
  rw [recS] at ho
  exact txP_own ho hA h1 h2
theorem keptDr {a w : World} {T : Nat → Prop} (h : Kept T a w) : Kept T a w.drew := ⟨h.os, h.tape, h.output, h.size, h.block⟩
/-- Blocks made since w. -/
abbrev rg (a b : Nat) : Nat → Prop := fun k => a ≤ k ∧ k < b
abbrev newA (w w' : World) : Nat → Prop := rg w.heap.size w'.heap.size
theorem rows_ptP {B gs cs gg cg n m : Nat} {w w' : World} {S G : List ByteArray} (hs : RowB 9 1 eS B w' (some ⟨gs, 0, none⟩) n cs S) (hg : RowB 9 1 eS B w' (some ⟨gg, 0, none⟩) m cg G) (hne : gs ≠ gg) (hB : w.heap.size ≤ B) :
    PtP (newA w w') w' (.slice (some ⟨gs, 0, none⟩) n cs) (.slice (some ⟨gg, 0, none⟩) m cg) S G := by
  have h1 := hs.lo (by omega)
  have h2 := hg.lo (by omega)
  exact ⟨gs, gg, hne, hs.txP ⟨by omega, h1.2.1⟩, hg.txP ⟨by omega, h2.2.1⟩⟩
/-- What Send21 answers. -/
def SdA (w : World) (r : PtyT × PostT × Int) (e : Ending) (w' : World) : Prop :=
  ∃ sv gv, e = .returned (.tuple #[vParty sv r.1.2.1 gv, vPost r.2.1.1 r.2.1.2.1 r.2.1.2.2.1 r.2.1.2.2.2, .int .i64 r.2.2]) ∧ PtP (newA w w') w' sv gv r.1.1 r.1.2.2 ∧ Below w.heap.size w w'

end Go.Proofs.Ytjpogaidcmndoaa

/- Own words for the walks of the exact laws. No statement about the program stands here. -/
import Derived.Test.YtjpogaidcmndoaaRecs
namespace Go.Proofs.Ytjpogaidcmndoaa
open Go.RowKit

theorem OwnV.step {w w' : World} {g : Nat} {vs : List Value} (h : OwnV w g vs) (hb : Below w.heap.size w w') : OwnV w' g vs := h.below hb h.lt

theorem ownV_alloc (w : World) (c : Array Value) (t : TypeId) : OwnV (w.alloc (.cells c t)) w.heap.size c.toList :=
  ⟨c, t, Deep.blk_alloc_new _ _, fun i _ => by simp⟩

end Go.Proofs.Ytjpogaidcmndoaa

/- Contract of the specification's Again21. Written by wip/mkpte.py. -/
import Derived.Test.YtjpogaidcmndoaaPaC
import Derived.Test.YtjpogaidcmndoaaRwI
import Derived.Deep.RegionHeld3
namespace Go.Proofs.Ytjpogaidcmndoaa
open Go.RowKit

/-- What Again21 answers. -/
def AgA (w : World) (r : List PostT × Bool) (e : Ending) (w' : World) : Prop :=
  ∃ ao n cap, e = .returned (.tuple #[.slice ao n cap, .bool r.2]) ∧ OwnR 4 ePost w.heap.size w' (.slice ao n cap) r.1 ∧ Below w.heap.size w w'

end Go.Proofs.Ytjpogaidcmndoaa

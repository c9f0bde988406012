/- Contract of the specification's Take21. Written by wip/mkptd.py. -/
import Derived.Test.YtjpogaidcmndoaaPaC
namespace Go.Proofs.Ytjpogaidcmndoaa
open Go.RowKit

/-- What Take21 answers. -/
def TkA (w : World) (r : PtyT × Bool) (e : Ending) (w' : World) : Prop :=
  ∃ sv gv, e = .returned (.tuple #[vParty sv r.1.2.1 gv, .bool r.2]) ∧ PtP (newA w w') w' sv gv r.1.1 r.1.2.2 ∧ Below w.heap.size w w'

end Go.Proofs.Ytjpogaidcmndoaa

/- A byte of the code told once for all later worlds; at at a place that is a whole number. -/
import Derived.Test.YtjllilmiloippaaAtBig
namespace Go.Proofs.Ytjllilmiloippaa
open Go.RowKit

end Go.Proofs.Ytjllilmiloippaa

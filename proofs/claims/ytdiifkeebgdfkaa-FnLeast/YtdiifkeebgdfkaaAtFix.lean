/- A byte of the code told once for all later worlds; at at a place that is a whole number. -/
import Derived.Test.YtdiifkeebgdfkaaAtBig
namespace Go.Proofs.Ytdiifkeebgdfkaa
open Go.RowKit

end Go.Proofs.Ytdiifkeebgdfkaa

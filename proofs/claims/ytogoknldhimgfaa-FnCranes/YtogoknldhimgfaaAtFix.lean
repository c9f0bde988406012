/- A byte of the code told once for all later worlds; at at a place that is a whole number. -/
import Derived.Test.YtogoknldhimgfaaAtBig
namespace Go.Proofs.Ytogoknldhimgfaa
open Go.RowKit

end Go.Proofs.Ytogoknldhimgfaa

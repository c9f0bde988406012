/- Contracts of the laws' own helpers over lists of Tank (flat records): szTankS, toTank, toTankS, eqTank, eqTankS. -/
import Derived.Test.YtliodmahbdmcbaaWalkF
import Derived.Test.YtliodmahbdmcbaaRecs
namespace Go.Proofs.Ytliodmahbdmcbaa
open Go.RowKit

end Go.Proofs.Ytliodmahbdmcbaa

/- Contracts of the laws' own helpers over lists of Tank (flat records): szTankS, toTank, toTankS, eqTank, eqTankS. -/
import Derived.Test.YtcljgaofpeaplaaWalkF
import Derived.Test.YtcljgaofpeaplaaRecs
namespace Go.Proofs.Ytcljgaofpeaplaa
open Go.RowKit

end Go.Proofs.Ytcljgaofpeaplaa

/- Contracts of the laws' own helpers over lists of Tank (flat records): szTankS, toTank, toTankS, eqTank, eqTankS. -/
import Derived.Test.YtmgcpllkielpkaaWalkF
import Derived.Test.YtmgcpllkielpkaaRecs
namespace Go.Proofs.Ytmgcpllkielpkaa
open Go.RowKit

end Go.Proofs.Ytmgcpllkielpkaa

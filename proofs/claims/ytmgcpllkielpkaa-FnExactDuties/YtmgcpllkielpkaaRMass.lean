/- Contracts of the laws' own helpers over lists of Mass (flat records): szMassS, toMass, toMassS, eqMass, eqMassS. -/
import Derived.Test.YtmgcpllkielpkaaWalkF
import Derived.Test.YtmgcpllkielpkaaRecs
namespace Go.Proofs.Ytmgcpllkielpkaa
open Go.RowKit

end Go.Proofs.Ytmgcpllkielpkaa

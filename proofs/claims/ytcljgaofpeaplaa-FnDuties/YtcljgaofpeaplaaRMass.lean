/- Contracts of the laws' own helpers over lists of Mass (flat records): szMassS, toMass, toMassS, eqMass, eqMassS. -/
import Derived.Test.YtcljgaofpeaplaaWalkF
import Derived.Test.YtcljgaofpeaplaaRecs
namespace Go.Proofs.Ytcljgaofpeaplaa
open Go.RowKit

end Go.Proofs.Ytcljgaofpeaplaa

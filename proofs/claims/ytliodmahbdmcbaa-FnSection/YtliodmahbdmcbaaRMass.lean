/- Contracts of the laws' own helpers over lists of Mass (flat records): szMassS, toMass, toMassS, eqMass, eqMassS. -/
import Derived.Test.YtliodmahbdmcbaaWalkF
import Derived.Test.YtliodmahbdmcbaaRecs
namespace Go.Proofs.Ytliodmahbdmcbaa
open Go.RowKit

end Go.Proofs.Ytliodmahbdmcbaa

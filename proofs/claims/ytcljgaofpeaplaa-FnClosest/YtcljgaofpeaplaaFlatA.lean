/- Contracts of the laws' own helpers over flat structs: eqX (two alike are told alike), toX. -/
import Derived.Test.YtcljgaofpeaplaaWalkA
import Derived.Test.YtcljgaofpeaplaaRecs
namespace Go.Proofs.Ytcljgaofpeaplaa
open Go.RowKit

end Go.Proofs.Ytcljgaofpeaplaa

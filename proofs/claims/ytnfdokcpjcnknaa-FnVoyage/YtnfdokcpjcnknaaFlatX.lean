/- Contracts of the laws' own helpers over flat structs: eqX (two alike are told alike), toX. -/
import Derived.Test.YtnfdokcpjcnknaaWalkA
import Derived.Test.YtnfdokcpjcnknaaRecs
namespace Go.Proofs.Ytnfdokcpjcnknaa
open Go.RowKit

end Go.Proofs.Ytnfdokcpjcnknaa

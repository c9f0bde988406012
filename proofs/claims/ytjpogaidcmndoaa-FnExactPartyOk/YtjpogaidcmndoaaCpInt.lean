/- The contract of the program's ownCopy of Int. -/
import Derived.Test.YtjpogaidcmndoaaCpK
import Derived.Test.YtjpogaidcmndoaaWalkC
import Derived.Test.YtjpogaidcmndoaaExactKit
namespace Go.Proofs.Ytjpogaidcmndoaa
open Go.RowKit

set_option maxRecDepth 10000 in
theorem Try.infoIntCp : (Try.prog.info? 3).map (fun i => (i.zero, i.size, i.bytes)) = some (some (Value.int .i64 0), 1, 8) := by kernel_rfl

end Go.Proofs.Ytjpogaidcmndoaa

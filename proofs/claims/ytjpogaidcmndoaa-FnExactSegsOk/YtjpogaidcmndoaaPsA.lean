/- Contract of the specification's l21Begins. -/
import Derived.Test.YtjpogaidcmndoaaPsM
import Derived.Test.YtjpogaidcmndoaaBlS
import Derived.Test.YtjpogaidcmndoaaWalkE
import Derived.Deep.DeepCutAuto
import Derived.BigQuiet
namespace Go.Proofs.Ytjpogaidcmndoaa
open Go.RowKit

theorem txt_eq (a b : ByteArray) : (a.toList == b.toList) = decide (a = b) := by
  rw [ByteArray.toList_eq, ByteArray.toList_eq]
  by_cases h : a = b
  · subst h
    simp
  · have h' : a.data.toList ≠ b.data.toList := fun e => h (ByteArray.ext (Array.toList_inj.1 e))
    rw [decide_eq_false h]
    exact beq_eq_false_iff_ne.2 h'

end Go.Proofs.Ytjpogaidcmndoaa

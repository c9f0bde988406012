/- The law of BoxName, walked. Written by wip/mk11.py. -/
import Derived.Test.YtmnpeljgafmnpaaBxC
namespace Go.Proofs.Ytmnpeljgafmnpaa
open Go.RowKit

set_option maxRecDepth 10000 in
set_option maxHeartbeats 6400000 in
theorem lawBoxName_any (s : ByteArray) (w : World) (_hs : s.size ≤ maxLen) : Calls Try.prog 6 #[.string s] w fun e w' => e = .returned (.bool true) ∧ Below w.heap.size w w' := by

  by_cases hbig : (1048576 : Int) < (s.size : Int)
  · go_enter Try.func6, Try.ntmps6
    go_wp2
    go_ret
    exact ⟨rfl, Below.refl _ _⟩
  · have HS := hide fun V => specBoxName_any s V
    have HI := hide fun V => implBoxName_any s V
    generalize bnB s = V at *
    go_enter Try.func6, Try.ntmps6
    go_wp2_with fail
    refine (unhide HS _).mono ?_
    rintro e w1 ⟨rfl, rfl⟩
    go_wp2_with fail
    refine (unhide HI _).mono ?_
    rintro e w2 ⟨rfl, hb⟩
    have HW := hide hb
    clear hb HS HI
    cases V <;> (go_wp2; go_ret; exact ⟨rfl, unhide HW⟩)

end Go.Proofs.Ytmnpeljgafmnpaa

/- FnExactDraftSurvey: at every argument the program's DraftSurvey answers as the specification's; the arguments read as before. Written by wip/mk10.py. -/
import Derived.Test.YtfokocpdngokfaaUlD
import Derived.Test.YtfokocpdngokfaaOwnInts
import Derived.Test.YtfokocpdngokfaaExactKit
namespace Go.Proofs.Ytfokocpdngokfaa
open Go.RowKit

set_option maxHeartbeats 8000000 in
theorem lawDraftSurvey_any (c0 : Int) (c1 : Int) (c2 : Int) (c3 : Int) (w : World)  :
    Calls Try.prog 9 #[.int .i64 c0, .int .i64 c1, .int .i64 c2, .int .i64 c3] w fun e w' => e = .returned (.bool true) ∧ Below w.heap.size w w' := by
  obtain ⟨V0, ev⟩ : ∃ x, x = (dsV c0 c1 c2 c3).1 := ⟨_, rfl⟩
  have EV0 := hide ev
  clear ev
  obtain ⟨V1, ev⟩ : ∃ x, x = (dsV c0 c1 c2 c3).2 := ⟨_, rfl⟩
  have EV1 := hide ev
  clear ev
  have HW := hide (Below.refl w.heap.size w)
  go_enter Try.func9, Try.ntmps9
  go_wp2_with fail
  refine (specDraftSurvey_any c0 c1 c2 c3 _ ).mono ?_
  rintro e w1 ⟨rfl, hb⟩
  replace HW := hide (Below.step (unhide HW) hb)
  rw [← unhide EV0]
  rw [← unhide EV1]
  have zw1 := hb.size
  clear hb
  go_wp2_with fail
  refine (implDraftSurvey_any c0 c1 c2 c3 _ ).mono ?_
  rintro e w2 ⟨rfl, hb⟩
  replace HW := hide (Below.step (unhide HW) hb)
  rw [← unhide EV0]
  rw [← unhide EV1]
  have zw2 := hb.size
  clear hb
  go_wp2
  go_ret
  exact ⟨rfl, unhide HW⟩

end Go.Proofs.Ytfokocpdngokfaa

/- FnExactPlan: at every argument the program's Plan answers as the specification's, in memory of its own; the arguments read as before. Written by wip/mkexact3.py, a second look struck by hand. -/
import Derived.Test.YtgmhijbepkobkaaPlnB
import Derived.Test.YtgmhijbepkobkaaOwnInts
import Derived.Test.YtgmhijbepkobkaaExactKit
namespace Go.Proofs.Ytgmhijbepkobkaa
open Go.RowKit

set_option maxHeartbeats 8000000 in
theorem lawPlan_any (c0 : Int) (c1 : Int) (w : World)  :
    Calls Try.prog 8 #[.int .i64 c0, .int .i64 c1] w fun e w' => e = .returned (.bool true) ∧ Below w.heap.size w w' := by
  obtain ⟨M0, ev⟩ : ∃ x, x = plL c0 c1 := ⟨_, rfl⟩
  have hMl0 : M0.length ≤ 1048576 := by have := plL_len c0 c1; rw [ev]; omega
  have EM0 := hide ev
  clear ev
  obtain ⟨V1, ev⟩ : ∃ x, x = plOk c0 c1 := ⟨_, rfl⟩
  have EV1 := hide ev
  clear ev
  have HW := hide (Below.refl w.heap.size w)
  go_enter Try.func8, Try.ntmps8
  go_wp2_with fail
  refine (specPlan_any c0 c1 _ ).mono ?_
  rintro e w1 ⟨a0, n0, cp0, rfl, hr0, hb⟩
  replace HW := hide (Below.step (unhide HW) hb)
  rw [← unhide EV1]
  rw [← unhide EM0] at hr0
  have HSP0 := hide hr0.intsIn
  clear hr0
  have zw1 := hb.size
  clear hb
  have HZ := hide (Below.refl w1.heap.size w1)
  go_wp2_with fail
  refine (implPlan_any c0 c1 _ ).mono ?_
  rintro e w2 ⟨ab0, nb0, cpb0, rfl, hr0, hb⟩
  replace HW := hide (Below.step (unhide HW) hb)
  replace HZ := hide (Below.step (unhide HZ) hb)
  rw [← unhide EV1]
  rw [← unhide EM0] at hr0
  have hr0 := hr0.upto
  have HQ0 := hide hr0
  clear hr0
  have zw2 := hb.size
  clear hb
  go_wp2_with fail
  refine (eqIntS_o _ _ M0 _ (unhide HQ0).inn ((unhide HSP0).below (unhide HZ))).mono ?_
  rintro e w3 ⟨rfl, hb⟩
  replace HW := hide (Below.step (unhide HW) hb)
  replace HZ := hide (Below.step (unhide HZ) hb)
  replace HQ0 := hide ((unhide HQ0).below hb)
  have zw3 := hb.size
  clear hb
  go_wp2_with fail
  refine (markInts_v _ _ _ _ _ M0 _ (unhide HQ0) hMl0).mono ?_
  rintro e w5 ⟨rfl, hk, ho⟩
  clear HQ0
  replace HW := hide ((unhide HW).trans (hk.below (B := w.heap.size) (by omega) (fun b e => by omega)))
  replace HZ := hide ((unhide HZ).trans (hk.below (B := w1.heap.size) (by omega) (fun b e => by omega)))
  have zw5 := hk.size
  have HQ0 := hide ho
  clear hk ho
  have HD0 := hide fun W hW => heldInts_v (.slice ab0 nb0 cpb0) M0 W hW hMl0
  go_wp2_with fail
  refine (unhide HD0 _ (unhide HQ0).inn).mono ?_
  rintro e w6 ⟨rfl, hb⟩
  replace HW := hide (Below.step (unhide HW) hb)
  replace HZ := hide (Below.step (unhide HZ) hb)
  replace HQ0 := hide ((unhide HQ0).below hb)
  have zw6 := hb.size
  clear hb
  go_wp2_with fail
  refine (implPlan_any c0 c1 _ ).mono ?_
  rintro e w7 ⟨ac0, nc0, cpc0, rfl, hr0, hb⟩
  replace HW := hide (Below.step (unhide HW) hb)
  replace HZ := hide (Below.step (unhide HZ) hb)
  replace HQ0 := hide ((unhide HQ0).below hb)
  rw [← unhide EV1]
  rw [← unhide EM0] at hr0
  have hr0 := hr0.upto
  have HI0 := hide hr0
  clear hr0
  have zw7 := hb.size
  clear hb
  go_wp2_with fail
  refine (eqIntS_o _ _ M0 _ (unhide HI0).inn ((unhide HSP0).below (unhide HZ))).mono ?_
  rintro e w8 ⟨rfl, hb⟩
  replace HW := hide (Below.step (unhide HW) hb)
  replace HZ := hide (Below.step (unhide HZ) hb)
  replace HQ0 := hide ((unhide HQ0).below hb)
  replace HI0 := hide ((unhide HI0).below hb)
  have zw8 := hb.size
  clear hb
  clear HZ HI0
  go_wp2_with fail
  refine (unhide HD0 _ (unhide HQ0).inn).mono ?_
  rintro e w9 ⟨rfl, hb⟩
  replace HW := hide (Below.step (unhide HW) hb)
  replace HQ0 := hide ((unhide HQ0).below hb)
  have zw9 := hb.size
  clear hb
  go_wp2
  go_ret
  exact ⟨rfl, unhide HW⟩

end Go.Proofs.Ytgmhijbepkobkaa

/- The law of SwayOk, walked. Written by wip/mk20.py. -/
import Derived.Test.YtgmhijbepkobkaaHoA
namespace Go.Proofs.Ytgmhijbepkobkaa
open Go.RowKit

set_option maxRecDepth 100000 in
set_option maxHeartbeats 8000000 in
theorem lawSwayOk_any (a o s : Int) (w : World) : Calls Try.prog 5 #[vSway a o s] w fun e w' => e = .returned (.bool true) ∧ Below w.heap.size w w' := by
  have HW := hide (Below.alloc1 w (.cells #[.int .i64 a, .int .i64 o, .int .i64 s] 49))
  have HB := hide (ownV_alloc w #[.int .i64 a, .int .i64 o, .int .i64 s] 49)
  have HT := hide fun W => toSway_any a o s W
  have HS := hide fun W => specSwayOk_any a o s W
  have HI := hide fun W => implSwayOk_any a o s W
  obtain ⟨V, eV⟩ : ∃ V, V = swB a o s := ⟨_, rfl⟩
  rw [← eV] at HS HI
  clear eV
  unfold vSway at HT HS HI ⊢
  go_enter Try.func5, Try.ntmps5
  have c0 := (unhide HB).cell (i := 0) rfl
  have c1 := (unhide HB).cell (i := 1) rfl
  have c2 := (unhide HB).cell (i := 2) rfl
  go_wp2_with fail
  refine (unhide HT _).mono ?_
  rintro e w1 ⟨rfl, hb⟩
  replace HW := hide (Below.step (unhide HW) hb)
  replace HB := hide ((unhide HB).step hb)
  clear hb
  clear c0 c1 c2
  go_wp2_with fail
  refine (unhide HS _).mono ?_
  rintro e w2 ⟨rfl, hb⟩
  replace HW := hide (Below.step (unhide HW) hb)
  replace HB := hide ((unhide HB).step hb)
  clear hb
  have c0 := (unhide HB).cell (i := 0) rfl
  have c1 := (unhide HB).cell (i := 1) rfl
  have c2 := (unhide HB).cell (i := 2) rfl
  go_wp2_with fail
  refine (unhide HT _).mono ?_
  rintro e w3 ⟨rfl, hb⟩
  replace HW := hide (Below.step (unhide HW) hb)
  replace HB := hide ((unhide HB).step hb)
  clear hb
  clear c0 c1 c2
  go_wp2_with fail
  refine (unhide HI _).mono ?_
  rintro e w4 ⟨rfl, hb⟩
  replace HW := hide (Below.step (unhide HW) hb)
  replace HB := hide ((unhide HB).step hb)
  clear hb
  cases V <;> (go_wp2; go_ret; exact ⟨rfl, unhide HW⟩)

end Go.Proofs.Ytgmhijbepkobkaa

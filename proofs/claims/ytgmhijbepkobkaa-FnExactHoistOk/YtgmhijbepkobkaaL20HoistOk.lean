/- The law of HoistOk, walked. Written by wip/mk20.py. -/
import Derived.Test.YtgmhijbepkobkaaHoA
namespace Go.Proofs.Ytgmhijbepkobkaa
open Go.RowKit

set_option maxRecDepth 100000 in
set_option maxHeartbeats 8000000 in
theorem lawHoistOk_any (h : Ho) (w : World) : Calls Try.prog 9 #[vHoist h.q h.ld h.he h.lw h.hg h.lm h.rs] w fun e w' => e = .returned (.bool true) ∧ Below w.heap.size w w' := by
  have HW := hide (Below.alloc1 w (.cells #[.int .i64 h.q, .int .i64 h.ld, .int .i64 h.he, .int .i64 h.lw, .int .i64 h.hg, .int .i64 h.lm, .int .i64 h.rs] 59))
  have HB := hide (ownV_alloc w #[.int .i64 h.q, .int .i64 h.ld, .int .i64 h.he, .int .i64 h.lw, .int .i64 h.hg, .int .i64 h.lm, .int .i64 h.rs] 59)
  have HT := hide fun W => toHoist_any h.q h.ld h.he h.lw h.hg h.lm h.rs W
  have HS := hide fun W => specHoistOk_any h W
  have HI := hide fun W => implHoistOk_any h W
  obtain ⟨V, eV⟩ : ∃ V, V = hoB h := ⟨_, rfl⟩
  rw [← eV] at HS HI
  clear eV
  unfold vHoist at HT ⊢
  unfold Ho.v vHoist at HS HI
  go_enter Try.func9, Try.ntmps9
  have c0 := (unhide HB).cell (i := 0) rfl
  have c1 := (unhide HB).cell (i := 1) rfl
  have c2 := (unhide HB).cell (i := 2) rfl
  have c3 := (unhide HB).cell (i := 3) rfl
  have c4 := (unhide HB).cell (i := 4) rfl
  have c5 := (unhide HB).cell (i := 5) rfl
  have c6 := (unhide HB).cell (i := 6) rfl
  go_wp2_with fail
  refine (unhide HT _).mono ?_
  rintro e w1 ⟨rfl, hb⟩
  replace HW := hide (Below.step (unhide HW) hb)
  replace HB := hide ((unhide HB).step hb)
  clear hb
  clear c0 c1 c2 c3 c4 c5 c6
  go_wp2_with fail
  refine (unhide HS _).mono ?_
  rintro e w2 ⟨rfl, hb⟩
  replace HW := hide (Below.step (unhide HW) hb)
  replace HB := hide ((unhide HB).step hb)
  clear hb
  have c0 := (unhide HB).cell (i := 0) rfl
  have c1 := (unhide HB).cell (i := 1) rfl
  have c2 := (unhide HB).cell (i := 2) rfl
  have c3 := (unhide HB).cell (i := 3) rfl
  have c4 := (unhide HB).cell (i := 4) rfl
  have c5 := (unhide HB).cell (i := 5) rfl
  have c6 := (unhide HB).cell (i := 6) rfl
  go_wp2_with fail
  refine (unhide HT _).mono ?_
  rintro e w3 ⟨rfl, hb⟩
  replace HW := hide (Below.step (unhide HW) hb)
  replace HB := hide ((unhide HB).step hb)
  clear hb
  clear c0 c1 c2 c3 c4 c5 c6
  go_wp2_with fail
  refine (unhide HI _).mono ?_
  rintro e w4 ⟨rfl, hb⟩
  replace HW := hide (Below.step (unhide HW) hb)
  replace HB := hide ((unhide HB).step hb)
  clear hb
  cases V <;> (go_wp2; go_ret; exact ⟨rfl, unhide HW⟩)

end Go.Proofs.Ytgmhijbepkobkaa

/- FnExactCharterOk: at every argument the program's CharterOk answers as the specification's; the arguments read as before. Written by wip/mk15.py. -/
import Derived.Test.YticminoejikdfaaLyA
import Derived.Test.YticminoejikdfaaExactKit
import Derived.Deep.Cut
namespace Go.Proofs.Yticminoejikdfaa
open Go.RowKit

set_option maxRecDepth 10000 in
set_option maxHeartbeats 8000000 in
theorem lawCharterOk_any (n a d s : Int) (w : World)  :
    Calls Try.prog 5 #[vCh n a d s] w fun e w' => e = .returned (.bool true) ∧ Below w.heap.size w w' := by
  have HTC := hide fun V => toCharter_any n a d s V
  have HSC := hide fun V => specCharterOk_any n a d s V
  have HIC := hide fun V => implCharterOk_any n a d s V
  obtain ⟨R, hR⟩ : ∃ x, x = chB n a d s := ⟨_, rfl⟩
  rw [← hR] at HSC HIC
  clear hR
  have hRR : (R != R) = false := by cases R <;> rfl
  have HB := hide (ownV_alloc w #[.int .i64 n, .int .i64 a, .int .i64 d, .int .i64 s] 45)
  have HW := hide (Below.alloc1 w (.cells #[.int .i64 n, .int .i64 a, .int .i64 d, .int .i64 s] 45))
  unfold vCh at HTC HSC HIC ⊢
  go_enter Try.func5, Try.ntmps5
  have c_0 := (unhide HB).cell (i := 0) rfl
  have c_1 := (unhide HB).cell (i := 1) rfl
  have c_2 := (unhide HB).cell (i := 2) rfl
  have c_3 := (unhide HB).cell (i := 3) rfl
  go_wp2_with fail
  refine (unhide HTC _).mono ?_
  rintro e v1 ⟨rfl, hb⟩
  clear c_0 c_1 c_2 c_3
  replace HW := hide (Below.step (unhide HW) hb)
  replace HB := hide ((unhide HB).step hb)
  clear hb
  go_wp2_with fail
  refine (unhide HSC _ ).mono ?_
  rintro e v2 ⟨rfl, hb⟩
  replace HW := hide (Below.step (unhide HW) hb)
  replace HB := hide ((unhide HB).step hb)
  clear hb
  have c_0 := (unhide HB).cell (i := 0) rfl
  have c_1 := (unhide HB).cell (i := 1) rfl
  have c_2 := (unhide HB).cell (i := 2) rfl
  have c_3 := (unhide HB).cell (i := 3) rfl
  go_wp2_with fail
  refine (unhide HTC _).mono ?_
  rintro e v3 ⟨rfl, hb⟩
  clear c_0 c_1 c_2 c_3
  replace HW := hide (Below.step (unhide HW) hb)
  replace HB := hide ((unhide HB).step hb)
  clear hb
  go_wp2_with fail
  refine (unhide HIC _ ).mono ?_
  rintro e v4 ⟨rfl, hb⟩
  replace HW := hide (Below.step (unhide HW) hb)
  replace HB := hide ((unhide HB).step hb)
  clear hb
  go_wp2
  go_ret
  exact ⟨rfl, unhide HW⟩

end Go.Proofs.Yticminoejikdfaa

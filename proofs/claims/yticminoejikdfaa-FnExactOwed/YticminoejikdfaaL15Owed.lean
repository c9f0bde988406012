/- FnExactOwed: at every argument the program's Owed answers as the specification's; the arguments read as before. Written by wip/mk15.py. -/
import Derived.Test.YticminoejikdfaaLyO
import Derived.Test.YticminoejikdfaaExactKit
import Derived.Deep.Cut
import Derived.Test.YticminoejikdfaaWalkF
import Derived.BigQuiet
namespace Go.Proofs.Yticminoejikdfaa
open Go.RowKit

set_option maxRecDepth 10000 in
set_option maxHeartbeats 8000000 in
theorem lawOwed_any (n a d s : Int) (u o l : Int) (w : World)  :
    Calls Try.prog 8 #[vCh n a d s, v3 (u, o, l)] w fun e w' => e = .returned (.bool true) ∧ Below w.heap.size w w' := by
  have HTC := hide fun V => toCharter_any n a d s V
  have HSC := hide fun V => specOwed_any n a d s u o l V
  have HIC := hide fun V => implOwed_any n a d s u o l V
  obtain ⟨R, hR⟩ : ∃ x, x = owedV n a d s u o := ⟨_, rfl⟩
  rw [← hR] at HSC HIC
  clear hR
  obtain ⟨R1, R2⟩ := R
  dsimp only at HSC HIC
  have hRR : (R2 != R2) = false := by cases R2 <;> rfl
  have hR1 : (R1 != R1) = false := by simp
  have HB := hide (ownV_alloc w #[.int .i64 n, .int .i64 a, .int .i64 d, .int .i64 s] 45)
  have HW := hide (Below.alloc1 w (.cells #[.int .i64 n, .int .i64 a, .int .i64 d, .int .i64 s] 45))
  replace HB := hide ((unhide HB).step (Below.alloc1 _ (.cells #[.int .i64 u, .int .i64 o, .int .i64 l] 55)))
  have HN := hide (ownV_alloc (w.alloc (.cells #[.int .i64 n, .int .i64 a, .int .i64 d, .int .i64 s] 45)) #[.int .i64 u, .int .i64 o, .int .i64 l] 55)
  rw [World.size_alloc] at HN
  replace HW := hide (below_alloc (unhide HW) (.cells #[.int .i64 u, .int .i64 o, .int .i64 l] 55))
  have HTN := hide fun V => toCount_any u o l V
  unfold v3 at HTN HSC HIC ⊢
  unfold vCh at HTC HSC HIC ⊢
  obtain ⟨V0, eV⟩ : ∃ V, V = (w.alloc (.cells #[.int .i64 n, .int .i64 a, .int .i64 d, .int .i64 s] 45)).alloc (.cells #[.int .i64 u, .int .i64 o, .int .i64 l] 55) := ⟨_, rfl⟩
  rw [← eV] at HB HN HW
  go_enter Try.func8, Try.ntmps8
  go_upto_region 1 with (fail)
  rw [← eV]
  clear eV
  have c_0 := fun x' : Gr V0 => gr_cell ((unhide HB).cell (i := 0) rfl) x'
  have c_1 := fun x' : Gr V0 => gr_cell ((unhide HB).cell (i := 1) rfl) x'
  have c_2 := fun x' : Gr V0 => gr_cell ((unhide HB).cell (i := 2) rfl) x'
  have c_3 := fun x' : Gr V0 => gr_cell ((unhide HB).cell (i := 3) rfl) x'
  have k_0 := fun x' : Gr V0 => gr_cell ((unhide HN).cell (i := 0) rfl) x'
  have k_1 := fun x' : Gr V0 => gr_cell ((unhide HN).cell (i := 1) rfl) x'
  have k_2 := fun x' : Gr V0 => gr_cell ((unhide HN).cell (i := 2) rfl) x'
  have gsome := gr_some V0
  refine wp_region_grown (by kernel_rfl) (by kernel_rfl) ?_
  repeat (go_big_quiet_step (fail))
  go_big_quiet_want
  go_big_quiet_op
  go_big_quiet_call (exact calls_grown (unhide HTC _))
  repeat (go_big_quiet_step (fail))
  go_big_quiet_want
  go_big_quiet_op
  go_big_quiet_call (exact calls_grown (unhide HTN _))
  repeat (go_big_quiet_step (fail))
  go_big_quiet_want
  go_big_quiet_op
  go_big_quiet_call (exact calls_grown (unhide HSC _))
  repeat (go_big_quiet_step (fail))
  refine wpQuiet_nil ?_
  intro v1 hw1
  obtain ⟨z', hz⟩ := hw1
  have hb : Below V0.heap.size V0 v1 := hz ▸ z'.ok
  clear hz z' gsome c_0 c_1 c_2 c_3 k_0 k_1 k_2
  replace HW := hide (Below.step (unhide HW) hb)
  replace HB := hide ((unhide HB).step hb)
  replace HN := hide ((unhide HN).step hb)
  clear hb
  go_upto_region 2 with (fail)
  have c_0 := fun x' : Gr v1 => gr_cell ((unhide HB).cell (i := 0) rfl) x'
  have c_1 := fun x' : Gr v1 => gr_cell ((unhide HB).cell (i := 1) rfl) x'
  have c_2 := fun x' : Gr v1 => gr_cell ((unhide HB).cell (i := 2) rfl) x'
  have c_3 := fun x' : Gr v1 => gr_cell ((unhide HB).cell (i := 3) rfl) x'
  have k_0 := fun x' : Gr v1 => gr_cell ((unhide HN).cell (i := 0) rfl) x'
  have k_1 := fun x' : Gr v1 => gr_cell ((unhide HN).cell (i := 1) rfl) x'
  have k_2 := fun x' : Gr v1 => gr_cell ((unhide HN).cell (i := 2) rfl) x'
  have gsome := gr_some v1
  refine wp_region_grown (by kernel_rfl) (by kernel_rfl) ?_
  repeat (go_big_quiet_step (fail))
  go_big_quiet_want
  go_big_quiet_op
  go_big_quiet_call (exact calls_grown (unhide HTC _))
  repeat (go_big_quiet_step (fail))
  go_big_quiet_want
  go_big_quiet_op
  go_big_quiet_call (exact calls_grown (unhide HTN _))
  repeat (go_big_quiet_step (fail))
  go_big_quiet_want
  go_big_quiet_op
  go_big_quiet_call (exact calls_grown (unhide HIC _))
  repeat (go_big_quiet_step (fail))
  refine wpQuiet_nil ?_
  intro v2 hw1
  obtain ⟨z', hz⟩ := hw1
  have hb : Below v1.heap.size v1 v2 := hz ▸ z'.ok
  clear hz z' gsome c_0 c_1 c_2 c_3 k_0 k_1 k_2
  replace HW := hide (Below.step (unhide HW) hb)
  replace HB := hide ((unhide HB).step hb)
  replace HN := hide ((unhide HN).step hb)
  clear hb
  go_wp2
  go_ret
  exact ⟨rfl, unhide HW⟩

end Go.Proofs.Yticminoejikdfaa

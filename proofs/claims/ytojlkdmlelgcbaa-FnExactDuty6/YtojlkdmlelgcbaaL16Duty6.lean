/- FnExactDuty6: at every argument the program's Duty6 answers as the specification's. Written by wip/mk16.py. -/
import Derived.Test.YtojlkdmlelgcbaaCsA
namespace Go.Proofs.Ytojlkdmlelgcbaa
open Go.RowKit

set_option maxHeartbeats 1600000 in
theorem lawDuty6_any (m v r : Int) (w : World) : Calls Try.prog 5 #[.int .i64 m, .int .i64 v, .int .i64 r] w fun e w' => e = .returned (.bool true) ∧ Below w.heap.size w w' := by
  have HS := hide fun V => specDuty6_any m v r V
  have HI := hide fun V => implDuty6_any m v r V
  generalize dutV m v r = x at *
  generalize dutB m v r = b at *
  have e1 : (x != x) = false := by simp
  have e2 : (b != b) = false := by cases b <;> rfl
  go_enter Try.func5, Try.ntmps5
  go_wp2_with fail
  refine (unhide HS _).mono ?_
  rintro e w1 ⟨rfl, rfl⟩
  go_wp2_with fail
  refine (unhide HI _).mono ?_
  rintro e w2 ⟨rfl, rfl⟩
  go_wp2
  go_ret
  exact ⟨rfl, Below.refl _ _⟩

end Go.Proofs.Ytojlkdmlelgcbaa

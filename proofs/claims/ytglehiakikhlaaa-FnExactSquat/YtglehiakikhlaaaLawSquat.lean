/- FnExactSquat: at every argument the program's Squat answers as the specification's. -/
import Derived.Test.YtglehiakikhlaaaTiD
import Derived.Test.YtglehiakikhlaaaFlE
import Derived.Test.YtglehiakikhlaaaExactKit
namespace Go.Proofs.Ytglehiakikhlaaa
open Go.RowKit

set_option maxHeartbeats 4000000 in
theorem lawSquat_any (s b wd d : Nat) (ls : s < 18446744073709551616) (lb : b < 18446744073709551616) (lw : wd < 18446744073709551616) (ld : d < 18446744073709551616) (w : World) :
    Calls Try.prog 9 #[.float .f64 s, .float .f64 b, .float .f64 wd, .float .f64 d] w fun e w' => e = .returned (.bool true) ∧ Below w.heap.size w w' := by
  have HS := hide fun V => specSquat_any s b wd d V
  have HI := hide fun V => implSquat_any s b wd d ls lb lw ld V
  obtain ⟨ok, eok⟩ : ∃ z, z = squatOk s b wd d := ⟨_, rfl⟩
  rw [← eok] at HS HI
  clear eok ls lb lw ld
  have HW := hide (Below.refl w.heap.size w)
  go_enter Try.func9, Try.ntmps9
  go_wp2_with fail
  refine (unhide HS _).mono ?_
  rintro e w1 ⟨r, rfl, hr, hb⟩
  replace HW := hide (Below.step (unhide HW) hb)
  clear hb HS
  go_wp2_with fail
  refine (unhide HI _).mono ?_
  rintro e w2 ⟨r', rfl, hr', hb⟩
  replace HW := hide (Below.step (unhide HW) hb)
  clear hb HI
  have HE := hide fun V => sameFloat_any r' r V (hr'.trans hr.symm)
  go_wp2_with fail
  refine (unhide HE _).mono ?_
  rintro e w3 ⟨rfl, hb⟩
  replace HW := hide (Below.step (unhide HW) hb)
  clear hb HE
  go_wp2
  go_ret
  exact ⟨rfl, unhide HW⟩

end Go.Proofs.Ytglehiakikhlaaa

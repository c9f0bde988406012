/- Contracts of the program's times, over, Great, AddSmall, LessSmall, Times. -/
import Derived.Test.YtglehiakikhlaaaFlI
import Derived.Test.YtglehiakikhlaaaFlJ
import Derived.Deep.RegionHeld3
namespace Go.Proofs.Ytglehiakikhlaaa
open Go.RowKit

attribute [local go_sem] run_store_float run_store_complex unary_neg_float

theorem below_undrewN {W W' : World} {n : Nat} (hb : Below (W.drewN n).heap.size (W.drewN n) W') : Below W.heap.size W W' := ⟨hb.os, hb.tape, hb.output, hb.size, hb.block⟩
theorem Box6.step {w W W' : World} {a b c d e f : Value} (h : Box6 w W a b c d e f) (hb : Below W.heap.size W W') : Box6 w W' a b c d e f := ⟨h.o1.step hb, h.o2.step hb, h.o3.step hb, Below.step h.below hb⟩

set_option maxHeartbeats 800000 in
theorem times_any (a b c d : Nat) (w : World) :
    Calls Try.prog 53 #[.complex .f64 a b, .complex .f64 c d] w fun e w' => ∃ r s, e = .returned (.complex .f64 r s) ∧ fsame .f64 r (tRe a b c d) ∧ fsame .f64 s (tIm a b c d) ∧ ∃ n, w' = w.drewN n := by
  go_enter Try.func53, Try.ntmps53
  go_wp2_with (first | (go_at_call 57; refine (product_any _ _ _).mono ?_; rintro e w' ⟨r, rfl, hr, -, n, rfl⟩) | (refine wpList_float rfl _ _ _ _ _ rfl rfl .f64 _ _ rfl rfl ?_; intro r n hr))
  rename_i r1 h1 n1 r2 h2 n2 r3 n3 h3 r4 h4 n4 r5 h5 n5
  go_ret
  exact ⟨_, _, rfl, fop_to h3 h1 h2, fop_to hr h4 h5, _, rfl⟩

end Go.Proofs.Ytglehiakikhlaaa

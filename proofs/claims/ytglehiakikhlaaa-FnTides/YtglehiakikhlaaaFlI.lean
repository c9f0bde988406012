/- Contracts of the program's inner functions on floats and complex numbers; its Great, AddSmall, LessSmall, Times, Alike, Barred. -/
import Derived.Test.YtglehiakikhlaaaFlQ
import Derived.Laws.Externs
namespace Go.Proofs.Ytglehiakikhlaaa
open Go.RowKit

attribute [local go_sem] run_store_float run_store_complex unary_neg_float

theorem call_bits (x : Nat) (w : World) : (callFunc 70 #[.float .f64 x]).run Try.prog w = .ok (.value (.int .u64 x)) w := by
  rw [run_callFunc_extern (e := Extern.MathFloatBits.float64bits) Try.func70 (by kernel_rfl) (by kernel_rfl) (by kernel_rfl) (by kernel_rfl)]
  rfl
theorem isFinite_any (x : Nat) (hx : x < 18446744073709551616) (w : World) :
    Calls Try.prog 56 #[.float .f64 x] w fun e w' => e = .returned (.bool (finB x)) ∧ w' = w := by
  have HF := hide (and_fin x hx)
  have hc := call_bits x
  clear hx
  go_enter Try.func56, Try.ntmps56
  go_wp2
  go_ret
  exact ⟨ret_bool (unhide HF), rfl⟩

theorem product_any (x y : Nat) (w : World) :
    Calls Try.prog 57 #[.float .f64 x, .float .f64 y] w fun e w' => ∃ r, e = .returned (.float .f64 r) ∧ fsame .f64 r (fop .mul .f64 x y) ∧ r < 18446744073709551616 ∧ ∃ n, w' = w.drewN n := by
  go_enter Try.func57, Try.ntmps57
  go_wp2_with (refine wpList_float64 rfl _ _ _ _ _ rfl rfl _ _ rfl rfl ?_; intro r n hr hlt)
  go_ret
  exact ⟨r, rfl, hr, hlt, n, rfl⟩

set_option maxHeartbeats 400000 in
theorem waveNumber_any (a b : Nat) (w : World) :
    Calls Try.prog 54 #[vW a b] w fun e w' => e = .returned (.complex .f64 a b) ∧ Below w.heap.size w w' := by
  unfold vW
  go_enter Try.func54, Try.ntmps54
  go_wp2
  go_ret
  exact ⟨rfl, Below.alloc1 _ _⟩

end Go.Proofs.Ytglehiakikhlaaa

/- Contracts of the program's inner functions on floats and complex numbers; its Great, AddSmall, LessSmall, Times, Alike, Barred. -/
import Derived.Test.YteohkabenbaaaaaFlQ
import Derived.Laws.Externs
namespace Go.Proofs.Yteohkabenbaaaaa
open Go.RowKit

attribute [local go_sem] run_store_float run_store_complex unary_neg_float

theorem call_bits (x : Nat) (w : World) : (callFunc 82 #[.float .f64 x]).run Try.prog w = .ok (.value (.int .u64 x)) w := by
  rw [run_callFunc_extern (e := Extern.MathFloatBits.float64bits) Try.func82 (by kernel_rfl) (by kernel_rfl) (by kernel_rfl) (by kernel_rfl)]
  rfl
theorem call_frombits (x : Nat) (w : World) : (callFunc 81 #[.int .u64 (x : Int)]).run Try.prog w = .ok (.value (.float .f64 x)) w := by
  rw [run_callFunc_extern (e := Extern.MathFloatBits.float64frombits) Try.func81 (by kernel_rfl) (by kernel_rfl) (by kernel_rfl) (by kernel_rfl)]
  rfl

theorem isFinite_any (x : Nat) (hx : x < 18446744073709551616) (w : World) :
    Calls Try.prog 79 #[.float .f64 x] w fun e w' => e = .returned (.bool (finB x)) ∧ w' = w := by
  have HF := hide (and_fin x hx)
  have hc := call_bits x
  clear hx
  go_enter Try.func79, Try.ntmps79
  go_wp2
  go_ret
  exact ⟨ret_bool (unhide HF), rfl⟩

theorem signTurned_any (x : Nat) (hx : x < 18446744073709551616) (w : World) :
    Calls Try.prog 73 #[.float .f64 x] w fun e w' => e = .returned (.float .f64 (Op.negFloat .f64 x)) ∧ w' = w := by
  have HX := xor_sign x hx
  have hc := call_bits x
  have hf := call_frombits (Op.negFloat .f64 x)
  clear hx
  generalize Op.negFloat .f64 x = y at *
  go_enter Try.func73, Try.ntmps73
  go_wp2
  go_ret
  exact ⟨rfl, rfl⟩

theorem mathAbs_any (x : Nat) (hx : x < 18446744073709551616) (w : World) :
    Calls Try.prog 80 #[.float .f64 x] w fun e w' => e = .returned (.float .f64 (x % 9223372036854775808)) ∧ w' = w := by
  have HX := not_sign x hx
  have hc := call_bits x
  have hf := call_frombits (x % 9223372036854775808)
  clear hx
  generalize x % 9223372036854775808 = y at *
  go_enter Try.func80, Try.ntmps80
  go_wp2
  go_ret
  exact ⟨rfl, rfl⟩

theorem product_any (x y : Nat) (w : World) :
    Calls Try.prog 74 #[.float .f64 x, .float .f64 y] w fun e w' => ∃ r, e = .returned (.float .f64 r) ∧ fsame .f64 r (fop .mul .f64 x y) ∧ r < 18446744073709551616 ∧ ∃ n, w' = w.drewN n := by
  go_enter Try.func74, Try.ntmps74
  go_wp2_with (refine wpList_float64 rfl _ _ _ _ _ rfl rfl _ _ rfl rfl ?_; intro r n hr hlt)
  go_ret
  exact ⟨r, rfl, hr, hlt, n, rfl⟩

set_option maxHeartbeats 400000 in
theorem smallNumber_any (a b : Nat) (w : World) :
    Calls Try.prog 67 #[vS a b] w fun e w' => e = .returned (.complex .f32 a b) ∧ Below w.heap.size w w' := by
  unfold vS
  go_enter Try.func67, Try.ntmps67
  go_wp2
  go_ret
  exact ⟨rfl, Below.alloc1 _ _⟩

set_option maxHeartbeats 400000 in
theorem waveNumber_any (a b : Nat) (w : World) :
    Calls Try.prog 65 #[vW a b] w fun e w' => e = .returned (.complex .f64 a b) ∧ Below w.heap.size w w' := by
  unfold vW
  go_enter Try.func65, Try.ntmps65
  go_wp2
  go_ret
  exact ⟨rfl, Below.alloc1 _ _⟩

set_option maxHeartbeats 400000 in
theorem waveOf_any (a b : Nat) (w : World) :
    Calls Try.prog 66 #[.complex .f64 a b] w fun e w' => e = .returned (vW a b) ∧ Below w.heap.size w w' := by
  go_enter Try.func66, Try.ntmps66
  go_wp2
  refine bodyPost_ret (v := vW a b) (by simp [results, Try.results66, go_sem, vW]) rfl ⟨rfl, ?_⟩
  exact Below.alloc1 _ _

set_option maxHeartbeats 400000 in
theorem smallOf_any (a b : Nat) (w : World) :
    Calls Try.prog 64 #[.complex .f32 a b] w fun e w' => e = .returned (vS a b) ∧ Below w.heap.size w w' := by
  go_enter Try.func64, Try.ntmps64
  go_wp2
  refine bodyPost_ret (v := vS a b) (by simp [results, Try.results64, go_sem, vS]) rfl ⟨rfl, ?_⟩
  exact Below.alloc1 _ _

end Go.Proofs.Yteohkabenbaaaaa

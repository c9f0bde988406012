/- Contracts of the program's inner functions on floats and complex numbers; its Great, AddSmall, LessSmall, Times, Alike, Barred. -/
import Derived.Test.YtokmkhflfbkgjaaFlQ
import Derived.Laws.Externs
namespace Go.Proofs.Ytokmkhflfbkgjaa
open Go.RowKit

attribute [local go_sem] run_store_float run_store_complex unary_neg_float

theorem call_bits (x : Nat) (w : World) : (callFunc 36 #[.float .f64 x]).run Try.prog w = .ok (.value (.int .u64 x)) w := by
  rw [run_callFunc_extern (e := Extern.MathFloatBits.float64bits) Try.func36 (by kernel_rfl) (by kernel_rfl) (by kernel_rfl) (by kernel_rfl)]
  rfl
theorem call_frombits (x : Nat) (w : World) : (callFunc 35 #[.int .u64 (x : Int)]).run Try.prog w = .ok (.value (.float .f64 x)) w := by
  rw [run_callFunc_extern (e := Extern.MathFloatBits.float64frombits) Try.func35 (by kernel_rfl) (by kernel_rfl) (by kernel_rfl) (by kernel_rfl)]
  rfl

theorem isFinite_any (x : Nat) (hx : x < 18446744073709551616) (w : World) :
    Calls Try.prog 33 #[.float .f64 x] w fun e w' => e = .returned (.bool (finB x)) ∧ w' = w := by
  have HF := hide (and_fin x hx)
  have hc := call_bits x
  clear hx
  go_enter Try.func33, Try.ntmps33
  go_wp2
  go_ret
  exact ⟨ret_bool (unhide HF), rfl⟩

theorem signTurned_any (x : Nat) (hx : x < 18446744073709551616) (w : World) :
    Calls Try.prog 29 #[.float .f64 x] w fun e w' => e = .returned (.float .f64 (Op.negFloat .f64 x)) ∧ w' = w := by
  have HX := xor_sign x hx
  have hc := call_bits x
  have hf := call_frombits (Op.negFloat .f64 x)
  clear hx
  generalize Op.negFloat .f64 x = y at *
  go_enter Try.func29, Try.ntmps29
  go_wp2
  go_ret
  exact ⟨rfl, rfl⟩

theorem mathAbs_any (x : Nat) (hx : x < 18446744073709551616) (w : World) :
    Calls Try.prog 34 #[.float .f64 x] w fun e w' => e = .returned (.float .f64 (x % 9223372036854775808)) ∧ w' = w := by
  have HX := not_sign x hx
  have hc := call_bits x
  have hf := call_frombits (x % 9223372036854775808)
  clear hx
  generalize x % 9223372036854775808 = y at *
  go_enter Try.func34, Try.ntmps34
  go_wp2
  go_ret
  exact ⟨rfl, rfl⟩

theorem product_any (x y : Nat) (w : World) :
    Calls Try.prog 30 #[.float .f64 x, .float .f64 y] w fun e w' => ∃ r, e = .returned (.float .f64 r) ∧ fsame .f64 r (fop .mul .f64 x y) ∧ r < 18446744073709551616 ∧ ∃ n, w' = w.drewN n := by
  go_enter Try.func30, Try.ntmps30
  go_wp2_with (refine wpList_float64 rfl _ _ _ _ _ rfl rfl _ _ rfl rfl ?_; intro r n hr hlt)
  go_ret
  exact ⟨r, rfl, hr, hlt, n, rfl⟩

set_option maxHeartbeats 400000 in
theorem smallNumber_any (a b : Nat) (w : World) :
    Calls Try.prog 23 #[vS a b] w fun e w' => e = .returned (.complex .f32 a b) ∧ Below w.heap.size w w' := by
  unfold vS
  go_enter Try.func23, Try.ntmps23
  go_wp2
  go_ret
  exact ⟨rfl, Below.alloc1 _ _⟩

set_option maxHeartbeats 400000 in
theorem waveNumber_any (a b : Nat) (w : World) :
    Calls Try.prog 21 #[vW a b] w fun e w' => e = .returned (.complex .f64 a b) ∧ Below w.heap.size w w' := by
  unfold vW
  go_enter Try.func21, Try.ntmps21
  go_wp2
  go_ret
  exact ⟨rfl, Below.alloc1 _ _⟩

set_option maxHeartbeats 400000 in
theorem waveOf_any (a b : Nat) (w : World) :
    Calls Try.prog 22 #[.complex .f64 a b] w fun e w' => e = .returned (vW a b) ∧ Below w.heap.size w w' := by
  go_enter Try.func22, Try.ntmps22
  go_wp2
  refine bodyPost_ret (v := vW a b) (by simp [results, Try.results22, go_sem, vW]) rfl ⟨rfl, ?_⟩
  exact Below.alloc1 _ _

set_option maxHeartbeats 400000 in
theorem smallOf_any (a b : Nat) (w : World) :
    Calls Try.prog 20 #[.complex .f32 a b] w fun e w' => e = .returned (vS a b) ∧ Below w.heap.size w w' := by
  go_enter Try.func20, Try.ntmps20
  go_wp2
  refine bodyPost_ret (v := vS a b) (by simp [results, Try.results20, go_sem, vS]) rfl ⟨rfl, ?_⟩
  exact Below.alloc1 _ _

end Go.Proofs.Ytokmkhflfbkgjaa

/- Charters and counts as values; the laws' own helpers over them. Written by wip/mkly.py. -/
import Derived.Test.YticminoejikdfaaWalkA
import Derived.Test.YticminoejikdfaaRecs
import Derived.Test.YticminoejikdfaaExactKit
namespace Go.Proofs.Yticminoejikdfaa
open Go.RowKit

abbrev vCh (n a d s : Int) : Value := .agg #[.int .i64 n, .int .i64 a, .int .i64 d, .int .i64 s]
abbrev cCh (n a d s : Int) : List Value := [.int .i64 n, .int .i64 a, .int .i64 d, .int .i64 s]

set_option maxHeartbeats 400000 in
theorem toCharter_any (n a d s : Int) (w : World) :
    Calls Try.prog 22 #[vCh n a d s] w fun e w' => e = .returned (vCh n a d s) ∧ Below w.heap.size w w' := by
  unfold vCh
  go_enter Try.func22, Try.ntmps22
  go_wp2
  refine bodyPost_ret (v := vCh n a d s) (by simp [results, Try.results22, go_sem]) rfl ⟨rfl, ?_⟩
  exact (((Below.refl _ _).alloc (Nat.le_refl _) _).alloc (by simp) _).alloc (by simp; omega) _
set_option maxHeartbeats 400000 in
theorem toCount_any (u o l : Int) (w : World) :
    Calls Try.prog 30 #[v3 (u, o, l)] w fun e w' => e = .returned (v3 (u, o, l)) ∧ Below w.heap.size w w' := by
  unfold v3
  go_enter Try.func30, Try.ntmps30
  go_wp2
  refine bodyPost_ret (v := v3 (u, o, l)) (by simp [results, Try.results30, go_sem]) rfl ⟨rfl, ?_⟩
  exact (((Below.refl _ _).alloc (Nat.le_refl _) _).alloc (by simp) _).alloc (by simp; omega) _
set_option maxHeartbeats 400000 in
theorem eqCount_any (u o l : Int) (w : World) :
    Calls Try.prog 28 #[v3 (u, o, l), v3 (u, o, l)] w fun e w' => e = .returned (.bool true) ∧ Below w.heap.size w w' := by
  unfold v3
  go_enter Try.func28, Try.ntmps28
  go_wp2
  go_ret
  exact ⟨rfl, ((Below.refl _ _).alloc (Nat.le_refl _) _).alloc (by simp) _⟩

end Go.Proofs.Yticminoejikdfaa

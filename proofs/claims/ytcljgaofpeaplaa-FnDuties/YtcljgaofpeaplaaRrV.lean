/- Vectors held against each other: == of two arrays of two ints. -/
import Derived.Test.YtcljgaofpeaplaaWalkE
import Derived.Test.YtcljgaofpeaplaaWalkF
import Derived.Laws.StructEq
namespace Go.Proofs.Ytcljgaofpeaplaa
open Go.RowKit

theorem Try.undVec : Try.prog.underlying 54 = some (.array 2 3) := by kernel_rfl
theorem Try.eqgVec : Try.prog.eqGuardType Try.prog.depth 54 = false := by kernel_rfl
theorem Try.sizInt : (Try.prog.info? 3).map (fun i => (i.zero, i.size, i.bytes)) = some (some (.int .i64 0), 1, 8) := by kernel_rfl

theorem eql_vec (a b c d : Int) (w : World) : (binOp .eql 54 (.agg #[.int .i64 a, .int .i64 b]) (.agg #[.int .i64 c, .int .i64 d])).run Try.prog w = .ok (.bool ((a == c) && (b == d))) w := by
  rw [run_eql_struct]
  unfold Op.equalIn
  simp only [Sem.run_bind, run_underlying Try.undVec, Result.andThen_ok]
  first
    | simp only [Std.Legacy.Range.forIn_eq_forIn_range', Std.Legacy.Range.size]
    | simp only [Std.Range.forIn_eq_forIn_range', Std.Range.size]
  simp [go_sem, List.range', Try.underlying3]
  by_cases h1 : a = c <;> by_cases h2 : b = d <;> simp [h1, h2]

end Go.Proofs.Ytcljgaofpeaplaa

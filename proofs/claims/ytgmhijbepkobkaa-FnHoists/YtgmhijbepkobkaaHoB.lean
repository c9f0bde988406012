/- Contract of the specification's DoSignal. Written by wip/mk20b.py. -/
import Derived.Test.YtgmhijbepkobkaaHoA
import Derived.Deep.DeepCutAuto
namespace Go.Proofs.Ytgmhijbepkobkaa
open Go.RowKit

theorem l20If_any (x g : Ho) (b : Bool) (w : World) : Calls Try.prog 59 #[x.v, g.v, .bool b] w fun e w' => e = .returned (.tuple #[(bif b then g else x).v, .bool b]) ∧ Below w.heap.size w w' := by
  unfold Ho.v vHoist
  cases b
  · go_enter Try.func59, Try.ntmps59
    go_wp2
    refine bodyPost_ret (v := .tuple #[x.v, .bool false]) (by simp [results, Try.results59, go_sem, Ho.v, vHoist]) rfl ⟨rfl, ?_⟩
    repeat (refine Below.setCell ?_ (by simp) _)
    exact (((Below.refl _ _).alloc (Nat.le_refl _) _).alloc (by simp) _).alloc (by simp; omega) _
  · go_enter Try.func59, Try.ntmps59
    go_wp2
    refine bodyPost_ret (v := .tuple #[g.v, .bool true]) (by simp [results, Try.results59, go_sem, Ho.v, vHoist]) rfl ⟨rfl, ?_⟩
    repeat (refine Below.setCell ?_ (by simp) _)
    exact (((Below.refl _ _).alloc (Nat.le_refl _) _).alloc (by simp) _).alloc (by simp; omega) _

end Go.Proofs.Ytgmhijbepkobkaa

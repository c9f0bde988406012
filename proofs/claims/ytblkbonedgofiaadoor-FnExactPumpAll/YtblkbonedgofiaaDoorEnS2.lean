/- The entry that stores what was found. -/
import Derived.Test.YtblkbonedgofiaaDoorEnS
namespace Go.Proofs.YtblkbonedgofiaaDoor
open Go.RowKit Go.Extern.Stop Go.Stop Go.Extern

theorem setR (ta b : Addr) (n : Int) (old : Value) (W : World) (hb : W.cell? b = some (.int .i64 n)) (ht : W.cell? ta = some old) (hf : W.frozen? ta = false) :
    (ReflectliteValue.set #[.agg #[.pointer (some ⟨1, 75, none⟩), .pointer (some ta), .int .u64 386], .agg #[.pointer (some ⟨1, 75, none⟩), .pointer (some b), .int .u64 130]]).run Tryd.prog W
      = .ok (.tuple #[]) (W.setCell ta (.int .i64 n)) := by
  delta ReflectliteValue.set
  rw [show ∀ (v x : Value) (α : Sort _) (f : Value → Value → α) (g : Array Value → α), ReflectliteValue.set.match_3 (motive := fun _ => α) #[v, x] f g = f v x from fun _ _ _ _ _ => rfl]
  simp only [Sem.run_bind, partsRa, partsR, Result.andThen]
  simp [ReflectliteValue.flagAddr, loadVar, isAgg, underlying, Tryd.underlying75, hb, Result.andThen, directR, storeVar, Value.cells, storeCells, Addr.add]
  rw [run_store Tryd.prog W ta _ _ (by rfl)]
  simp [ht, hf]

end Go.Proofs.YtblkbonedgofiaaDoor

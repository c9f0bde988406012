/- Contracts of the laws' own sameFloat, toWave, toSmall, eqWave, eqSmall. -/
import Derived.Test.YtokmkhflfbkgjaaFlD
import Derived.Test.YtokmkhflfbkgjaaRows
import Derived.Test.YtokmkhflfbkgjaaExactKit
import Derived.Test.YtokmkhflfbkgjaaWalkD
namespace Go.Proofs.Ytokmkhflfbkgjaa
open Go.RowKit

attribute [local go_sem] run_store_float run_store_complex

theorem OwnV.drewN {w : World} {g : Nat} {vs : List Value} (h : OwnV w g vs) (n : Nat) : OwnV (w.drewN n) g vs := h

def vW (r s : Nat) : Value := .agg #[.float .f64 r, .float .f64 s]
def vS (r s : Nat) : Value := .agg #[.float .f32 r, .float .f32 s]

theorem below_put2 {w X : World} {g : Nat} (h : Below w.heap.size w X) (hg : w.heap.size ≤ g) (n : Nat) (a b : Value) : Below w.heap.size w (((X.drewN n).setCell ⟨g, 0, none⟩ a).setCell ⟨g, 1, none⟩ b) :=
  ((below_drewN h n).setCell (p := ⟨g, 0, none⟩) hg _).setCell (p := ⟨g, 1, none⟩) hg _

end Go.Proofs.Ytokmkhflfbkgjaa

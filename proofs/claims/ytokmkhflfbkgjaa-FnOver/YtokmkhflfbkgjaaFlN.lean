/- The contract of the specification's Energy. -/
import Derived.Test.YtokmkhflfbkgjaaFlF
import Derived.Test.YtokmkhflfbkgjaaFlL
import Derived.BigRegion
namespace Go.Proofs.Ytokmkhflfbkgjaa
open Go.RowKit

def enStep (wd s : Nat) (p : F2) (h : Nat) : Nat := fop .add .f64 s (fop .mul .f64 (fop .mul .f64 (fop .add .f64 (fop .mul .f64 p.1 p.1) (fop .mul .f64 p.2 p.2)) h) wd)
def enTo (R : List F2) (H : List Nat) (wd : Nat) : Nat → Nat
  | 0 => 0
  | k + 1 => enStep wd (enTo R H wd k) (R.getD k default) (H.getD k 0)
def enOk (R : List F2) (H : List Nat) : Bool := decide (R.length = H.length) && decide (R.length ≤ 60)
def energyOf (R : List F2) (H : List Nat) (wd : Nat) : Nat := if enOk R H = true then enTo R H wd R.length else 0

end Go.Proofs.Ytokmkhflfbkgjaa

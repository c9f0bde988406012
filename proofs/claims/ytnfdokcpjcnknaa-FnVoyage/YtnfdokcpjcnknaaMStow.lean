/- Marks of boxes and stows: contracts of the laws' own markBoxS, heldBoxS, markStowS, heldStowS. Written by wip/mksto1.py. -/
import Derived.Test.YtnfdokcpjcnknaaRStow
namespace Go.Proofs.Ytnfdokcpjcnknaa
open Go.RowKit

/-- The marks of BoxS, from k on. -/
def mkBox (k : Int) (q : Nat) : Value := if q % 6 = 0 then .string (mt (k + (q : Int))) else if q % 6 = 3 then .bool (decide ((k + (q : Int)) % 3 = 0)) else .int .i64 (k + (q : Int))

/-- The marks of StowS, from k on. -/
def mkStow (k : Int) (q : Nat) : Value := if q % 9 = 0 then .string (mt (k + (q : Int))) else if q % 9 = 3 then .bool (decide ((k + (q : Int)) % 3 = 0)) else .int .i64 (k + (q : Int))

end Go.Proofs.Ytnfdokcpjcnknaa

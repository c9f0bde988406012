/- When masses are right, and the contracts of the program's and the specification's MassesOk. -/
import Derived.Test.YtcljgaofpeaplaaRMass
namespace Go.Proofs.Ytcljgaofpeaplaa
open Go.RowKit

def massB (m : I3) : Bool := inB m.1 0 10000 && inB m.2.1 (-1200) 2400 && inB m.2.2 0 1000
def massesB (L : List I3) : Bool := decide (L.length ≤ 40) && L.all massB

theorem massesB_long {L : List I3} (h : ¬ L.length ≤ 40) : massesB L = false := by simp [massesB, h]

end Go.Proofs.Ytcljgaofpeaplaa

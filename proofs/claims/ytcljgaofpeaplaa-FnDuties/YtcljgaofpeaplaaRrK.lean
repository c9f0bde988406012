/- The specification's Duty. Written by wip/mkrrC.py. -/
import Derived.Test.YtcljgaofpeaplaaRrK0
namespace Go.Proofs.Ytcljgaofpeaplaa
open Go.RowKit

def EDs4 (ax ay au av ak ad cx cy cu cv ck cd p q _r _s _d : Int) (g5 : Nat) (w : World) (_L : Nat → Bool) (_us : Nat → Value) : Nat → Option (Nat × List Value)
  | 0 => some (w.heap.size, [.int .i64 ax, .int .i64 ay, .int .i64 au, .int .i64 av, .int .i64 ak, .int .i64 ad])
  | 1 => some (w.heap.size + 1, [.int .i64 cx, .int .i64 cy, .int .i64 cu, .int .i64 cv, .int .i64 ck, .int .i64 cd])
  | 2 => some (g5, [.int .i64 p, .int .i64 q])
  | _ => none
def FDs4 (ax ay au av ak ad cx cy cu cv ck cd p q r s d : Int) (_g5 : Nat) : FL := [(0, 19, vV p q), (1, 20, vShip ax ay au av ak ad), (2, 21, vShip cx cy cu cv ck cd), (3, 22, vV r s), (4, 23, .int .i64 d), (5, 24, .bool (decide (0 ≤ d)))]
def RDs4 (ax ay au av ak ad cx cy cu cv ck cd p q r s d : Int) (g5 : Nat) (w : World) (L : Nat → Bool) (us : Nat → Value) (W : World) : Prop :=
  Facts L us (FDs4 ax ay au av ak ad cx cy cu cv ck cd p q r s d g5) ∧ Bk w W (EDs4 ax ay au av ak ad cx cy cu cv ck cd p q r s d g5 w L us)
def XDs4 (ax ay au av ak ad cx cy cu cv ck cd p q _r _s _d : Int) (g5 : Nat) (w : World) : Nat → Option (Nat × List Value)
  | 0 => some (w.heap.size, [.int .i64 ax, .int .i64 ay, .int .i64 au, .int .i64 av, .int .i64 ak, .int .i64 ad])
  | 1 => some (w.heap.size + 1, [.int .i64 cx, .int .i64 cy, .int .i64 cu, .int .i64 cv, .int .i64 ck, .int .i64 cd])
  | 2 => some (g5, [.int .i64 p, .int .i64 q])
  | _ => none
def EDs6 (ax ay au av ak ad cx cy cu cv ck cd p q : Int) (_x _y : Bool) (g5 : Nat) (w : World) (_L : Nat → Bool) (_us : Nat → Value) : Nat → Option (Nat × List Value)
  | 0 => some (w.heap.size, [.int .i64 ax, .int .i64 ay, .int .i64 au, .int .i64 av, .int .i64 ak, .int .i64 ad])
  | 1 => some (w.heap.size + 1, [.int .i64 cx, .int .i64 cy, .int .i64 cu, .int .i64 cv, .int .i64 ck, .int .i64 cd])
  | 2 => some (g5, [.int .i64 p, .int .i64 q])
  | _ => none
def FDs6 (ax ay au av ak ad cx cy cu cv ck cd _p _q : Int) (x y : Bool) (_g5 : Nat) : FL := [(0, 25, vShip ax ay au av ak ad), (1, 26, vShip cx cy cu cv ck cd), (2, 27, .bool x), (3, 28, vShip cx cy cu cv ck cd), (4, 29, vShip ax ay au av ak ad), (5, 30, .bool y), (6, 6, .bool x), (7, 7, .bool y)]
def RDs6 (ax ay au av ak ad cx cy cu cv ck cd p q : Int) (x y : Bool) (g5 : Nat) (w : World) (L : Nat → Bool) (us : Nat → Value) (W : World) : Prop :=
  Facts L us (FDs6 ax ay au av ak ad cx cy cu cv ck cd p q x y g5) ∧ Bk w W (EDs6 ax ay au av ak ad cx cy cu cv ck cd p q x y g5 w L us)
def XDs6 (ax ay au av ak ad cx cy cu cv ck cd p q : Int) (_x _y : Bool) (g5 : Nat) (w : World) : Nat → Option (Nat × List Value)
  | 0 => some (w.heap.size, [.int .i64 ax, .int .i64 ay, .int .i64 au, .int .i64 av, .int .i64 ak, .int .i64 ad])
  | 1 => some (w.heap.size + 1, [.int .i64 cx, .int .i64 cy, .int .i64 cu, .int .i64 cv, .int .i64 ck, .int .i64 cd])
  | 2 => some (g5, [.int .i64 p, .int .i64 q])
  | _ => none
end Go.Proofs.Ytcljgaofpeaplaa

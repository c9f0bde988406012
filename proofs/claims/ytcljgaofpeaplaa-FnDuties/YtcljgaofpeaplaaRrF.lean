/- The specification's Behind, l8Ahead, l8Right. Written by wip/mkrr6.py. -/
import Derived.Test.YtcljgaofpeaplaaRrE
namespace Go.Proofs.Ytcljgaofpeaplaa
open Go.RowKit

def EBsh (ax ay au av ak ad cx cy cu cv ck cd p q : Int) (w : World) (L : Nat → Bool) (us : Nat → Value) : Nat → Option (Nat × List Value)
  | 0 => some (w.heap.size, [.int .i64 ax, .int .i64 ay, .int .i64 au, .int .i64 av, .int .i64 ak, .int .i64 ad])
  | 1 => some (w.heap.size + 1, [.int .i64 cx, .int .i64 cy, .int .i64 cu, .int .i64 cv, .int .i64 ck, .int .i64 cd])
  | 2 => if L 5 then some ((gOf (us 5)), (if L 7 then [.int .i64 p, .int .i64 q] else [.int .i64 0, .int .i64 0])) else none
  | 3 => if L 6 then some ((gOf (us 6)), (if L 8 then [.int .i64 cu, .int .i64 cv] else [.int .i64 0, .int .i64 0])) else none
  | _ => none
def FBsh (ax ay au av ak ad cx cy cu cv ck cd p q : Int) : FL := [(0, 17, vShip cx cy cu cv ck cd), (1, 18, vShip ax ay au av ak ad), (2, 19, vV p q), (3, 20, vShip cx cy cu cv ck cd), (4, 21, vV cu cv)]
def RBsh (ax ay au av ak ad cx cy cu cv ck cd p q : Int) (w : World) (L : Nat → Bool) (us : Nat → Value) (W : World) : Prop :=
  Facts L us (FBsh ax ay au av ak ad cx cy cu cv ck cd p q) ∧ (L 5 = true → us 5 = .pointer (some ⟨gOf (us 5), 0, none⟩)) ∧ (L 6 = true → us 6 = .pointer (some ⟨gOf (us 6), 0, none⟩)) ∧ (L 7 = true → L 5 = true) ∧ (L 8 = true → L 6 = true) ∧ Bk w W (EBsh ax ay au av ak ad cx cy cu cv ck cd p q w L us)
def XBsh (ax ay au av ak ad cx cy cu cv ck cd p q : Int) (w : World) (g5 g6 : Nat) : Nat → Option (Nat × List Value)
  | 0 => some (w.heap.size, [.int .i64 ax, .int .i64 ay, .int .i64 au, .int .i64 av, .int .i64 ak, .int .i64 ad])
  | 1 => some (w.heap.size + 1, [.int .i64 cx, .int .i64 cy, .int .i64 cu, .int .i64 cv, .int .i64 ck, .int .i64 cd])
  | 2 => some (g5, [.int .i64 p, .int .i64 q])
  | 3 => some (g6, [.int .i64 cu, .int .i64 cv])
  | _ => none
def EBsk (ax ay au av ak ad cx cy cu cv ck cd p q _k _d : Int) (g5 g6 : Nat) (w : World) (_L : Nat → Bool) (_us : Nat → Value) : Nat → Option (Nat × List Value)
  | 0 => some (w.heap.size, [.int .i64 ax, .int .i64 ay, .int .i64 au, .int .i64 av, .int .i64 ak, .int .i64 ad])
  | 1 => some (w.heap.size + 1, [.int .i64 cx, .int .i64 cy, .int .i64 cu, .int .i64 cv, .int .i64 ck, .int .i64 cd])
  | 2 => some (g5, [.int .i64 p, .int .i64 q])
  | 3 => some (g6, [.int .i64 cu, .int .i64 cv])
  | _ => none
def FBsk (_ax _ay _au _av _ak _ad _cx _cy cu cv _ck _cd p q k d : Int) (_g5 _g6 : Nat) : FL := [(0, 22, vV p q), (1, 23, vV cu cv), (2, 24, .int .i64 k), (3, 25, vV p q), (4, 26, vV cu cv), (5, 27, .int .i64 d), (6, 7, .int .i64 k), (7, 8, .int .i64 d)]
def RBsk (ax ay au av ak ad cx cy cu cv ck cd p q k d : Int) (g5 g6 : Nat) (w : World) (L : Nat → Bool) (us : Nat → Value) (W : World) : Prop :=
  Facts L us (FBsk ax ay au av ak ad cx cy cu cv ck cd p q k d g5 g6) ∧ Bk w W (EBsk ax ay au av ak ad cx cy cu cv ck cd p q k d g5 g6 w L us)
def XBsk (ax ay au av ak ad cx cy cu cv ck cd p q _k _d : Int) (g5 g6 : Nat) (w : World) : Nat → Option (Nat × List Value)
  | 0 => some (w.heap.size, [.int .i64 ax, .int .i64 ay, .int .i64 au, .int .i64 av, .int .i64 ak, .int .i64 ad])
  | 1 => some (w.heap.size + 1, [.int .i64 cx, .int .i64 cy, .int .i64 cu, .int .i64 cv, .int .i64 ck, .int .i64 cd])
  | 2 => some (g5, [.int .i64 p, .int .i64 q])
  | 3 => some (g6, [.int .i64 cu, .int .i64 cv])
  | _ => none
def EAsh (ax ay au av ak ad cx cy cu cv ck cd p q : Int) (w : World) (L : Nat → Bool) (us : Nat → Value) : Nat → Option (Nat × List Value)
  | 0 => some (w.heap.size, [.int .i64 ax, .int .i64 ay, .int .i64 au, .int .i64 av, .int .i64 ak, .int .i64 ad])
  | 1 => some (w.heap.size + 1, [.int .i64 cx, .int .i64 cy, .int .i64 cu, .int .i64 cv, .int .i64 ck, .int .i64 cd])
  | 2 => if L 5 then some ((gOf (us 5)), (if L 7 then [.int .i64 p, .int .i64 q] else [.int .i64 0, .int .i64 0])) else none
  | 3 => if L 6 then some ((gOf (us 6)), (if L 8 then [.int .i64 au, .int .i64 av] else [.int .i64 0, .int .i64 0])) else none
  | _ => none
def FAsh (ax ay au av ak ad cx cy cu cv ck cd p q : Int) : FL := [(0, 7, vShip ax ay au av ak ad), (1, 8, vShip cx cy cu cv ck cd), (2, 9, vV p q), (3, 10, vShip ax ay au av ak ad), (4, 11, vV au av)]
def RAsh (ax ay au av ak ad cx cy cu cv ck cd p q : Int) (w : World) (L : Nat → Bool) (us : Nat → Value) (W : World) : Prop :=
  Facts L us (FAsh ax ay au av ak ad cx cy cu cv ck cd p q) ∧ (L 5 = true → us 5 = .pointer (some ⟨gOf (us 5), 0, none⟩)) ∧ (L 6 = true → us 6 = .pointer (some ⟨gOf (us 6), 0, none⟩)) ∧ (L 7 = true → L 5 = true) ∧ (L 8 = true → L 6 = true) ∧ Bk w W (EAsh ax ay au av ak ad cx cy cu cv ck cd p q w L us)
def XAsh (ax ay au av ak ad cx cy cu cv ck cd p q : Int) (w : World) (g5 g6 : Nat) : Nat → Option (Nat × List Value)
  | 0 => some (w.heap.size, [.int .i64 ax, .int .i64 ay, .int .i64 au, .int .i64 av, .int .i64 ak, .int .i64 ad])
  | 1 => some (w.heap.size + 1, [.int .i64 cx, .int .i64 cy, .int .i64 cu, .int .i64 cv, .int .i64 ck, .int .i64 cd])
  | 2 => some (g5, [.int .i64 p, .int .i64 q])
  | 3 => some (g6, [.int .i64 au, .int .i64 av])
  | _ => none
def EAst (ax ay au av ak ad cx cy cu cv ck cd p q _k _d : Int) (_b : Bool) (g5 g6 : Nat) (w : World) (_L : Nat → Bool) (_us : Nat → Value) : Nat → Option (Nat × List Value)
  | 0 => some (w.heap.size, [.int .i64 ax, .int .i64 ay, .int .i64 au, .int .i64 av, .int .i64 ak, .int .i64 ad])
  | 1 => some (w.heap.size + 1, [.int .i64 cx, .int .i64 cy, .int .i64 cu, .int .i64 cv, .int .i64 ck, .int .i64 cd])
  | 2 => some (g5, [.int .i64 p, .int .i64 q])
  | 3 => some (g6, [.int .i64 au, .int .i64 av])
  | _ => none
def FAst (_ax _ay au av _ak _ad _cx _cy _cu _cv _ck _cd p q k d : Int) (b : Bool) (_g5 _g6 : Nat) : FL := [(0, 12, vV p q), (1, 13, vV au av), (2, 14, .int .i64 d), (3, 15, .bool true), (4, 16, .bool true), (5, 17, vV p q), (6, 18, vV au av), (7, 19, .int .i64 k), (8, 20, vV p q), (9, 21, vV au av), (10, 22, .int .i64 d), (11, 23, .bool b), (12, 24, .bool b), (13, 4, .bool b)]
def RAst (ax ay au av ak ad cx cy cu cv ck cd p q k d : Int) (b : Bool) (g5 g6 : Nat) (w : World) (L : Nat → Bool) (us : Nat → Value) (W : World) : Prop :=
  Facts L us (FAst ax ay au av ak ad cx cy cu cv ck cd p q k d b g5 g6) ∧ Bk w W (EAst ax ay au av ak ad cx cy cu cv ck cd p q k d b g5 g6 w L us)
def XAst (ax ay au av ak ad cx cy cu cv ck cd p q _k _d : Int) (_b : Bool) (g5 g6 : Nat) (w : World) : Nat → Option (Nat × List Value)
  | 0 => some (w.heap.size, [.int .i64 ax, .int .i64 ay, .int .i64 au, .int .i64 av, .int .i64 ak, .int .i64 ad])
  | 1 => some (w.heap.size + 1, [.int .i64 cx, .int .i64 cy, .int .i64 cu, .int .i64 cv, .int .i64 ck, .int .i64 cd])
  | 2 => some (g5, [.int .i64 p, .int .i64 q])
  | 3 => some (g6, [.int .i64 au, .int .i64 av])
  | _ => none
def EAsf (ax ay au av ak ad cx cy cu cv ck cd p q _k _d : Int) (_b : Bool) (g5 g6 : Nat) (w : World) (_L : Nat → Bool) (_us : Nat → Value) : Nat → Option (Nat × List Value)
  | 0 => some (w.heap.size, [.int .i64 ax, .int .i64 ay, .int .i64 au, .int .i64 av, .int .i64 ak, .int .i64 ad])
  | 1 => some (w.heap.size + 1, [.int .i64 cx, .int .i64 cy, .int .i64 cu, .int .i64 cv, .int .i64 ck, .int .i64 cd])
  | 2 => some (g5, [.int .i64 p, .int .i64 q])
  | 3 => some (g6, [.int .i64 au, .int .i64 av])
  | _ => none
def FAsf (_ax _ay au av _ak _ad _cx _cy _cu _cv _ck _cd p q _k d : Int) (_b : Bool) (_g5 _g6 : Nat) : FL := [(0, 12, vV p q), (1, 13, vV au av), (2, 14, .int .i64 d), (3, 15, .bool false), (4, 16, .bool false), (5, 17, undef), (6, 18, undef), (7, 19, undef), (8, 20, undef), (9, 21, undef), (10, 22, undef), (11, 23, undef), (12, 24, .bool false), (13, 4, .bool false)]
def RAsf (ax ay au av ak ad cx cy cu cv ck cd p q k d : Int) (b : Bool) (g5 g6 : Nat) (w : World) (L : Nat → Bool) (us : Nat → Value) (W : World) : Prop :=
  Facts L us (FAsf ax ay au av ak ad cx cy cu cv ck cd p q k d b g5 g6) ∧ Bk w W (EAsf ax ay au av ak ad cx cy cu cv ck cd p q k d b g5 g6 w L us)
def XAsf (ax ay au av ak ad cx cy cu cv ck cd p q _k _d : Int) (_b : Bool) (g5 g6 : Nat) (w : World) : Nat → Option (Nat × List Value)
  | 0 => some (w.heap.size, [.int .i64 ax, .int .i64 ay, .int .i64 au, .int .i64 av, .int .i64 ak, .int .i64 ad])
  | 1 => some (w.heap.size + 1, [.int .i64 cx, .int .i64 cy, .int .i64 cu, .int .i64 cv, .int .i64 ck, .int .i64 cd])
  | 2 => some (g5, [.int .i64 p, .int .i64 q])
  | 3 => some (g6, [.int .i64 au, .int .i64 av])
  | _ => none
def ERsi (ax ay au av ak ad cx cy cu cv ck cd _p _q _k : Int) (w : World) (_L : Nat → Bool) (_us : Nat → Value) : Nat → Option (Nat × List Value)
  | 0 => some (w.heap.size, [.int .i64 ax, .int .i64 ay, .int .i64 au, .int .i64 av, .int .i64 ak, .int .i64 ad])
  | 1 => some (w.heap.size + 1, [.int .i64 cx, .int .i64 cy, .int .i64 cu, .int .i64 cv, .int .i64 ck, .int .i64 cd])
  | _ => none
def FRsi (ax ay au av ak ad cx cy cu cv ck cd p q k : Int) : FL := [(0, 5, vShip ax ay au av ak ad), (1, 6, vV au av), (2, 7, vShip ax ay au av ak ad), (3, 8, vShip cx cy cu cv ck cd), (4, 9, vV p q), (5, 10, .int .i64 k), (6, 11, .bool (decide (k < 0))), (7, 4, .bool (decide (k < 0)))]
def RRsi (ax ay au av ak ad cx cy cu cv ck cd p q k : Int) (w : World) (L : Nat → Bool) (us : Nat → Value) (W : World) : Prop :=
  Facts L us (FRsi ax ay au av ak ad cx cy cu cv ck cd p q k) ∧ Bk w W (ERsi ax ay au av ak ad cx cy cu cv ck cd p q k w L us)
def XRsi (ax ay au av ak ad cx cy cu cv ck cd _p _q _k : Int) (w : World) : Nat → Option (Nat × List Value)
  | 0 => some (w.heap.size, [.int .i64 ax, .int .i64 ay, .int .i64 au, .int .i64 av, .int .i64 ak, .int .i64 ad])
  | 1 => some (w.heap.size + 1, [.int .i64 cx, .int .i64 cy, .int .i64 cu, .int .i64 cv, .int .i64 ck, .int .i64 cd])
  | _ => none
end Go.Proofs.Ytcljgaofpeaplaa

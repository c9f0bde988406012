/- Both FindBox, in the laws' words. -/
import Derived.Test.YtjllilmiloippaaYaC
namespace Go.Proofs.Ytjllilmiloippaa
open Go.RowKit
theorem specFindBox_any (H : Int) (v : Value) (R : List (List Int)) (x : Int) (w : World) (h : RowsIn w v R) :
    Calls Try.prog 26 #[yardV H v, .int .i64 x] w fun e w' => e = .returned (.tuple #[.int .i64 (findV H R x).1, .int .i64 (findV H R x).2.1, .bool (findV H R x).2.2]) ∧ Below w.heap.size w w' := specFindBox_a H x v R w h
theorem implFindBox_any (H : Int) (v : Value) (R : List (List Int)) (x : Int) (w : World) (h : RowsIn w v R) :
    Calls Try.prog 13 #[yardV H v, .int .i64 x] w fun e w' => e = .returned (.tuple #[.int .i64 (findV H R x).1, .int .i64 (findV H R x).2.1, .bool (findV H R x).2.2]) ∧ Below w.heap.size w w' := implFindBox_a H x v R w h
end Go.Proofs.Ytjllilmiloippaa

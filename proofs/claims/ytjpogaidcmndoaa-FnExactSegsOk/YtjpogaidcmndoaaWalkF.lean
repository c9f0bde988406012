/- A region whose order Go leaves open and whose callees only make memory: one walk serves (the worlds that have only grown). Contracts of waterCount, stripCount, isWater, bothHalves and of the specification's l1Water. -/
import Derived.Test.YtjpogaidcmndoaaWalkE
namespace Go.Proofs.Ytjpogaidcmndoaa
open Go.RowKit

/-- A world in which nothing of W has turned. -/
structure Gr (W : World) where
  val : World
  ok : Below W.heap.size W val

theorem wp_region_grown {P : Program} {id : Nat} {Q : Exit → Act → World → Prop} {a : Act} {w : World} {l : List Oper} (hm : P.follows .mixedOrders = true) (hB : Region.lexB .any l.toArray = true)
    (h : wpQuiet P l.toArray (fun w' => ∃ x : Gr w, w' = x.val) (fun a' => ∀ w', (∃ x : Gr w, w' = x.val) → Q .normal a' w') l a) : (Code.region id l.toArray true).wp P Q a w :=
  wp_region_quiet (C := fun w' => ∃ x : Gr w, w' = x.val) hm hB ⟨⟨w.drew, (Below.refl _ _).drew⟩, rfl⟩ (by simpa using h)

theorem calls_grown {P : Program} {f : FuncId} {args : Array Value} {w : World} {x : Gr w} {v : Value} (h : Calls P f args x.val fun e w' => e = .returned v ∧ Below x.val.heap.size x.val w') :
    Calls P f args x.val fun e w'' => e = .returned v ∧ ∃ y : Gr w, w'' = y.val :=
  h.mono fun _ w' ⟨he, hb⟩ => ⟨he, ⟨w', Below.step x.ok hb⟩, rfl⟩

theorem gr_some (w : World) : Nonempty (Gr w) := ⟨⟨w, Below.refl _ _⟩⟩

theorem gr_cell {w : World} {a : Addr} {v : Value} (h : w.cell? a = some v) (x : Gr w) : x.val.cell? a = some v := (x.ok.cell (lt_of_cell h)).trans h

/-- A water line of a right hull. -/
def waterOk (step rise : Int) (R : List (List Int)) (c : Int) : Bool := hullOk step rise R && inB c 0 ((R.getD 0 []).length - 1)

theorem hullOk_pos {step rise : Int} {R : List (List Int)} (h : hullOk step rise R = true) : 2 ≤ R.length ∧ R.length ≤ 12 := by
  unfold hullOk at h
  simp only [Bool.and_eq_true] at h
  have := inB_true h.1.2
  omega

end Go.Proofs.Ytjpogaidcmndoaa

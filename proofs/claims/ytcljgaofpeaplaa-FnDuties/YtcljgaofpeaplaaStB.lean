/- A load: what masses weigh together and their two moments; contracts of the program's and the specification's LoadOf: both tell it. -/
import Derived.Test.YtcljgaofpeaplaaStA
import Derived.Test.YtcljgaofpeaplaaWalkH
namespace Go.Proofs.Ytcljgaofpeaplaa
open Go.RowKit

theorem sumTo_bd2 {f : Nat → Int} {A B : Int} {n : Nat} (h : ∀ i, i < n → A ≤ f i ∧ f i ≤ B) : ∀ k, k ≤ n → k * A ≤ sumTo f k ∧ sumTo f k ≤ k * B
  | 0, _ => by simp [sumTo]
  | k + 1, hk => by
    have h1 := sumTo_bd2 h k (by omega)
    have h2 := h k (by omega)
    have e : ((k + 1 : Nat) : Int) * B = k * B + B := by rw [Int.natCast_add, Int.add_mul]; simp
    have e' : ((k + 1 : Nat) : Int) * A = k * A + A := by rw [Int.natCast_add, Int.add_mul]; simp
    simp only [sumTo]
    omega

def wF (L : List I3) (i : Nat) : Int := (L.getD i default).1
def xF (L : List I3) (i : Nat) : Int := (L.getD i default).1 * (L.getD i default).2.1
def zF (L : List I3) (i : Nat) : Int := (L.getD i default).1 * (L.getD i default).2.2

/-- The sums of the first k masses. -/
def loadTo (L : List I3) (k : Nat) : I3 := (sumTo (wF L) k, sumTo (xF L) k, sumTo (zF L) k)
def load (L : List I3) : I3 := if massesB L = true then loadTo L L.length else (0, 0, 0)

theorem massB_true {x y z : Int} (h : massB (x, y, z) = true) : (0 ≤ x ∧ x ≤ 10000) ∧ (-1200 ≤ y ∧ y ≤ 2400) ∧ (0 ≤ z ∧ z ≤ 1000) := by
  unfold massB at h
  simp only [Bool.and_eq_true] at h
  exact ⟨inB_true h.1.1, inB_true h.1.2, inB_true h.2⟩

theorem massesB_at {L : List I3} (h : massesB L = true) : L.length ≤ 40 ∧ ∀ i, i < L.length → massB (L.getD i default) = true := by
  unfold massesB at h
  simp only [Bool.and_eq_true, decide_eq_true_eq] at h
  exact ⟨h.1, fun i hi => all_at h.2 hi⟩

theorem mul_bd3 {a b : Int} (h1 : 0 ≤ a) (h2 : a ≤ 10000) (h3 : -1200 ≤ b) (h4 : b ≤ 2400) : -12000000 ≤ a * b ∧ a * b ≤ 24000000 := by
  constructor
  · have : 0 ≤ a * (b + 1200) := Int.mul_nonneg h1 (by omega)
    rw [Int.mul_add] at this
    omega
  · have : 0 ≤ a * (2400 - b) := Int.mul_nonneg h1 (by omega)
    rw [Int.mul_sub] at this
    omega

theorem load_terms {L : List I3} (h : massesB L = true) {i : Nat} (hi : i < L.length) : (0 ≤ wF L i ∧ wF L i ≤ 10000) ∧ (-12000000 ≤ xF L i ∧ xF L i ≤ 24000000) ∧ (0 ≤ zF L i ∧ zF L i ≤ 10000000) := by
  have hm := massB_true ((massesB_at h).2 i hi)
  unfold wF xF zF
  refine ⟨hm.1, mul_bd3 hm.1.1 hm.1.2 hm.2.1.1 hm.2.1.2, ?_⟩
  exact mul_bd hm.1.1 hm.1.2 hm.2.2.1 hm.2.2.2

theorem loadTo_bd {L : List I3} (h : massesB L = true) {k : Nat} (hk : k ≤ L.length) :
    (0 ≤ (loadTo L k).1 ∧ (loadTo L k).1 ≤ k * 10000) ∧ (k * (-12000000) ≤ (loadTo L k).2.1 ∧ (loadTo L k).2.1 ≤ k * 24000000) ∧ (0 ≤ (loadTo L k).2.2 ∧ (loadTo L k).2.2 ≤ k * 10000000) :=
  ⟨sumTo_bd (fun _ hi => (load_terms h hi).1) k hk, sumTo_bd2 (fun _ hi => (load_terms h hi).2.1) k hk, sumTo_bd (fun _ hi => (load_terms h hi).2.2) k hk⟩

/-- Block g is the call's own and holds three numbers. -/
abbrev Own3 (w : World) (g : Nat) (x : I3) : Prop := OwnV w g [.int .i64 x.1, .int .i64 x.2.1, .int .i64 x.2.2]

theorem own3_alloc (w : World) (x : I3) (t : TypeId) : Own3 (w.alloc (.cells #[.int .i64 x.1, .int .i64 x.2.1, .int .i64 x.2.2] t)) w.heap.size x :=
  ⟨_, t, Deep.blk_alloc_new _ _, fun i hi => by simp⟩

theorem Own3.cells {w : World} {g : Nat} {x y z : Int} (h : Own3 w g (x, y, z)) : w.cell? ⟨g, 0, none⟩ = some (.int .i64 x) ∧ w.cell? ⟨g, 1, none⟩ = some (.int .i64 y) ∧ w.cell? ⟨g, 2, none⟩ = some (.int .i64 z) :=
  ⟨OwnV.cell h rfl, OwnV.cell h rfl, OwnV.cell h rfl⟩

theorem Own3.puts {w : World} {g : Nat} {x : I3} (h : Own3 w g x) (a b c : Int) : Own3 (((w.setCell ⟨g, 0, none⟩ (.int .i64 a)).setCell ⟨g, 1, none⟩ (.int .i64 b)).setCell ⟨g, 2, none⟩ (.int .i64 c)) g (a, b, c) :=
  ((h.set 0 (.int .i64 a) (by simp)).set 1 (.int .i64 b) (by simp)).set 2 (.int .i64 c) (by simp)

/-- While a load is summed: nothing of w has turned; the answer's block and the sum's block. -/
structure Summing (w wr : World) (G : Nat) (x : I3) : Prop where
  below : Below w.heap.size w wr
  ans : Own3 wr w.heap.size (0, 0, 0)
  sum : Own3 wr G x
  above : w.heap.size < G

theorem Summing.puts {w wr : World} {G : Nat} {x : I3} (h : Summing w wr G x) (o : Obj) (a b c : Int) : Summing w ((((wr.setCell ⟨G, 0, none⟩ (.int .i64 a)).setCell ⟨G, 1, none⟩ (.int .i64 b)).setCell ⟨G, 2, none⟩ (.int .i64 c)).alloc o) G (a, b, c) := by
  have hG := h.above
  have hz := h.below.size
  refine ⟨(((h.below.setCell (by show _ ≤ G; omega) _).setCell (by show _ ≤ G; omega) _).setCell (by show _ ≤ G; omega) _).alloc (by simpa using hz) o, ?_, OwnV.alloc (Own3.puts h.sum a b c) o, hG⟩
  exact OwnV.alloc (((OwnV.other h.ans (by show _ ≠ G; omega) _).other (by show _ ≠ G; omega) _).other (by show _ ≠ G; omega) _) o

end Go.Proofs.Ytcljgaofpeaplaa

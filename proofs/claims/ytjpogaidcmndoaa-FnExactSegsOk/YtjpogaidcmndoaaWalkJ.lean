/- Twice the volumes of the strips as a plain function; the contracts of the program's stripHalves and Strips2. -/
import Derived.Test.YtjpogaidcmndoaaWalkH
import Derived.Deep.RegionHeld3
namespace Go.Proofs.Ytjpogaidcmndoaa
open Go.RowKit

def halvesF (R : List (List Int)) (s k : Nat) : Int := cellOf R s k + cellOf R (s + 1) k + cellOf R s (k + 1) + cellOf R (s + 1) (k + 1)

theorem halvesF_bd {step rise : Int} {R : List (List Int)} (h : Right step rise R) {s c : Nat} (hs : s + 1 < R.length) (hc : c < (R.getD 0 []).length) : ∀ k, k < c → 0 ≤ halvesF R s k ∧ halvesF R s k ≤ 200 := fun k hk => by
  have a1 := h.cells s k (by omega) (by omega)
  have a2 := h.cells (s + 1) k (by omega) (by omega)
  have a3 := h.cells s (k + 1) (by omega) (by omega)
  have a4 := h.cells (s + 1) (k + 1) (by omega) (by omega)
  unfold halvesF
  omega

def stripH (R : List (List Int)) (c s : Nat) : Int := sumTo (halvesF R s) c

theorem stripH_bd {step rise : Int} {R : List (List Int)} (h : Right step rise R) {s c : Nat} (hs : s + 1 < R.length) (hc : c < (R.getD 0 []).length) : 0 ≤ stripH R c s ∧ stripH R c s ≤ 2000 := by
  have := sumTo_bd (halvesF_bd h hs hc) c (Nat.le_refl _)
  have := h.wat2
  unfold stripH
  omega

/-- Twice the volume of a strip up to a water line. -/
def strip2 (step rise : Int) (R : List (List Int)) (c s : Nat) : Int := rise * step * stripH R c s

theorem strip2_bd {step rise : Int} {R : List (List Int)} (h : Right step rise R) {s c : Nat} (hs : s + 1 < R.length) (hc : c < (R.getD 0 []).length) :
    (0 ≤ rise * step ∧ rise * step ≤ 2000) ∧ (0 ≤ rise * step * stripH R c s ∧ rise * step * stripH R c s ≤ 4000000) := by
  have a := mul_bd (A := 20) (B := 100) (by have := h.rise1; omega) h.rise2 (by have := h.step1; omega) h.step2
  have b := stripH_bd h hs hc
  have d := mul_bd (A := 2000) (B := 2000) a.1 (by omega) b.1 b.2
  exact ⟨⟨a.1, by omega⟩, ⟨d.1, by omega⟩⟩

def strips (step rise : Int) (R : List (List Int)) (c : Int) : List Int := if waterOk step rise R c = true then (List.range (R.length - 1)).map (strip2 step rise R c.toNat) else []

/-- A slice that the call itself made: its block, where it has an element, lies from B on. -/
def OwnSl (B : Nat) (w : World) (v : Value) (xs : List Int) : Prop :=
  ∃ ao cap, v = .slice ao xs.length cap ∧ xs.length ≤ cap ∧ cap ≤ maxLen ∧ (xs ≠ [] → ∃ g, ao = some ⟨g, 0, none⟩ ∧ B ≤ g ∧ OwnV w g (ints xs))

theorem OwnSl.intsIn {B : Nat} {w : World} {v : Value} {xs : List Int} (h : OwnSl B w v xs) : IntsIn w v xs := by
  obtain ⟨ao, cap, rfl, h1, h2, h3⟩ := h
  refine ⟨ao, cap, rfl, h1, h2, fun i hi => ?_⟩
  obtain ⟨g, rfl, _, ho⟩ := h3 (fun e => by rw [e] at hi; simp at hi)
  exact ⟨g, 0, rfl, by rw [Nat.zero_add]; exact ho.cell (ints_get xs hi)⟩

theorem OwnSl.below {B : Nat} {w w' : World} {v : Value} {xs : List Int} (h : OwnSl B w v xs) (hb : Below w.heap.size w w') : OwnSl B w' v xs := by
  obtain ⟨ao, cap, rfl, h1, h2, h3⟩ := h
  refine ⟨ao, cap, rfl, h1, h2, fun hne => ?_⟩
  obtain ⟨g, rfl, hg, ho⟩ := h3 hne
  exact ⟨g, rfl, hg, ho.below hb ho.lt⟩

theorem OwnSl.mono {B B' : Nat} {w : World} {v : Value} {xs : List Int} (h : OwnSl B w v xs) (hB : B' ≤ B) : OwnSl B' w v xs := by
  obtain ⟨ao, cap, rfl, h1, h2, h3⟩ := h
  refine ⟨ao, cap, rfl, h1, h2, fun hne => ?_⟩
  obtain ⟨g, rfl, hg, ho⟩ := h3 hne
  exact ⟨g, rfl, Nat.le_trans hB hg, ho⟩

/-- The new list of strips, k of its n cells filled. -/
structure FillS (w wr : World) (f : Nat → Int) (n k : Nat) : Prop where
  below : Below w.heap.size w wr
  row : wr.rowIs w.heap.size 3 n (fun i => if i < k then .int .i64 (f i) else .int .i64 0)

theorem fillS_start (w : World) (f : Nat → Int) (n : Nat) : FillS w (w.alloc (.cells (madeCells #[.int .i64 0] n) 3)) f n 0 :=
  ⟨(Below.refl _ _).alloc (Nat.le_refl _) _, (World.rowIs_made w _ n 3).congr (fun j _ => by simp)⟩

theorem fillS_step {w wr w1 : World} {f : Nat → Int} {n k : Nat} (h : FillS w wr f n k) (hb : Below wr.heap.size wr w1) : FillS w (w1.setCell ⟨w.heap.size, k, none⟩ (.int .i64 (f k))) f n (k + 1) := by
  refine ⟨(Below.step h.below hb).setCell (Nat.le_refl _) _, ((h.row.of_block (hb.block _ h.row.lt)).set k _).congr (fun i _ => ?_)⟩
  by_cases e : i = k
  · subst e; simp
  · rw [if_neg e]
    by_cases hlt : i < k
    · rw [if_pos hlt, if_pos (by omega)]
    · rw [if_neg hlt, if_neg (by omega)]

theorem fillS_done {w wr : World} {f : Nat → Int} {n : Nat} (h : FillS w wr f n n) (hn : n ≤ maxLen) : OwnSl w.heap.size wr (.slice (some ⟨w.heap.size, 0, none⟩) n n) ((List.range n).map f) := by
  refine ⟨_, n, by simp, by simp, hn, fun _ => ⟨_, rfl, Nat.le_refl _, ?_⟩⟩
  exact rowIs_ownV h.row (by simp [ints]) (fun i hi => by rw [if_pos hi]; simp [ints, hi])

end Go.Proofs.Ytjpogaidcmndoaa

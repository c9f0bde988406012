/- Lists of numbers of the call's own between two marks of memory; short contracts of toIntS, eqIntS, markIntS, heldIntS for the laws. -/
import Derived.Test.YtkfdcpnbpmipkaaWalkQ
import Derived.Test.YtkfdcpnbpmipkaaWalkL
namespace Go.Proofs.Ytkfdcpnbpmipkaa
open Go.RowKit

/-- A list of numbers of the call's own, its block, where it has an element, from B on and below U. -/
def OwnIntsU (B U : Nat) (w : World) (v : Value) (xs : List Int) : Prop :=
  ∃ ao cap, v = .slice ao xs.length cap ∧ xs.length ≤ cap ∧ cap ≤ maxLen ∧ (xs ≠ [] → ∃ g, ao = some ⟨g, 0, none⟩ ∧ B ≤ g ∧ g < U ∧ OwnV w g (ints xs))

theorem OwnSl.upto {B : Nat} {w : World} {v : Value} {xs : List Int} (h : OwnSl B w v xs) : OwnIntsU B w.heap.size w v xs := by
  obtain ⟨ao, cap, rfl, h1, h2, h3⟩ := h
  refine ⟨ao, cap, rfl, h1, h2, fun hne => ?_⟩
  obtain ⟨g, rfl, hg, ho⟩ := h3 hne
  exact ⟨g, rfl, hg, ho.lt, ho⟩

theorem OwnIntsU.inn {B U : Nat} {w : World} {v : Value} {xs : List Int} (h : OwnIntsU B U w v xs) : IntsIn w v xs := by
  obtain ⟨ao, cap, rfl, h1, h2, h3⟩ := h
  refine ⟨ao, cap, rfl, h1, h2, fun i hi => ?_⟩
  obtain ⟨g, rfl, _, _, ho⟩ := h3 (fun e => by rw [e] at hi; simp at hi)
  exact ⟨g, 0, rfl, by rw [Nat.zero_add]; exact ho.cell (ints_get xs hi)⟩

theorem OwnIntsU.below {B U : Nat} {w w' : World} {v : Value} {xs : List Int} (h : OwnIntsU B U w v xs) (hb : Below w.heap.size w w') : OwnIntsU B U w' v xs := by
  obtain ⟨ao, cap, rfl, h1, h2, h3⟩ := h
  refine ⟨ao, cap, rfl, h1, h2, fun hne => ?_⟩
  obtain ⟨g, rfl, hg, hu, ho⟩ := h3 hne
  exact ⟨g, rfl, hg, hu, ho.below hb ho.lt⟩

theorem OwnIntsU.kept {T : Nat → Prop} {B U : Nat} {w w' : World} {v : Value} {xs : List Int} (h : OwnIntsU B U w v xs) (hk : Kept T w w') (hT : ∀ b, B ≤ b → b < U → ¬ T b) : OwnIntsU B U w' v xs := by
  obtain ⟨ao, cap, rfl, h1, h2, h3⟩ := h
  refine ⟨ao, cap, rfl, h1, h2, fun hne => ?_⟩
  obtain ⟨g, rfl, hg, hu, ho⟩ := h3 hne
  exact ⟨g, rfl, hg, hu, ho.kept hk (hT g hg hu)⟩

theorem toIntS_o (v : Value) (xs : List Int) (w : World) (h : IntsIn w v xs) (hs : xs.length ≤ 1048576) :
    Calls Try.prog 20 #[v] w fun e w' => ∃ g, e = .returned (.slice (some ⟨g, 0, none⟩) xs.length xs.length) ∧ w.heap.size ≤ g ∧ OwnV w' g (ints xs) ∧ Below w.heap.size w w' := by
  refine (toIntS_any v xs w h hs).mono ?_
  rintro e w' ⟨rfl, ho, hb, _⟩
  exact ⟨_, rfl, Nat.le_refl _, ho, hb⟩

theorem eqIntS_o (v v' : Value) (xs : List Int) (w : World) (h : IntsIn w v xs) (h' : IntsIn w v' xs) :
    Calls Try.prog 21 #[v, v'] w fun e w' => e = .returned (.bool true) ∧ Below w.heap.size w w' := by
  refine (eqIntS_any v v' xs w h h').mono ?_
  rintro e w' ⟨rfl, n, rfl⟩
  exact ⟨rfl, below_drewN (Below.refl _ _) n⟩

end Go.Proofs.Ytkfdcpnbpmipkaa

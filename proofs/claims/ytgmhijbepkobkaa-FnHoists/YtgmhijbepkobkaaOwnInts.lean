/- Lists of numbers of the call's own between two marks of memory; short contracts of toIntS, eqIntS, markIntS, heldIntS for the laws. -/
import Derived.Test.YtgmhijbepkobkaaWalkQ
import Derived.Test.YtgmhijbepkobkaaWalkL
namespace Go.Proofs.Ytgmhijbepkobkaa
open Go.RowKit

/-- A list of numbers of the call's own, its block, where it has an element, from B on and below U. -/
def OwnIntsU (B U : Nat) (w : World) (v : Value) (xs : List Int) : Prop :=
  ∃ ao cap, v = .slice ao xs.length cap ∧ xs.length ≤ cap ∧ cap ≤ maxLen ∧ (xs ≠ [] → ∃ g, ao = some ⟨g, 0, none⟩ ∧ B ≤ g ∧ g < U ∧ OwnV w g (ints xs))

theorem OwnSl.upto {B : Nat} {w : World} {v : Value} {xs : List Int} (h : OwnSl B w v xs) : OwnIntsU B w.heap.size w v xs := by
  obtain ⟨ao, cap, rfl, h1, h2, h3⟩ := h
  refine ⟨ao, cap, rfl, h1, h2, fun hne => ?_⟩
  obtain ⟨g, rfl, hg, ho⟩ := h3 hne
  exact ⟨g, rfl, hg, ho.lt, ho⟩

theorem OwnIntsU.inn {B U : Nat} {w : World} {v : Value} {xs : List Int} (h : OwnIntsU B U w v xs) : IntsIn w v xs := by
  obtain ⟨ao, cap, rfl, h1, h2, h3⟩ := h
  refine ⟨ao, cap, rfl, h1, h2, fun i hi => ?_⟩
  obtain ⟨g, rfl, _, _, ho⟩ := h3 (fun e => by rw [e] at hi; simp at hi)
  exact ⟨g, 0, rfl, by rw [Nat.zero_add]; exact ho.cell (ints_get xs hi)⟩

theorem OwnIntsU.below {B U : Nat} {w w' : World} {v : Value} {xs : List Int} (h : OwnIntsU B U w v xs) (hb : Below w.heap.size w w') : OwnIntsU B U w' v xs := by
  obtain ⟨ao, cap, rfl, h1, h2, h3⟩ := h
  refine ⟨ao, cap, rfl, h1, h2, fun hne => ?_⟩
  obtain ⟨g, rfl, hg, hu, ho⟩ := h3 hne
  exact ⟨g, rfl, hg, hu, ho.below hb ho.lt⟩

theorem OwnIntsU.kept {T : Nat → Prop} {B U : Nat} {w w' : World} {v : Value} {xs : List Int} (h : OwnIntsU B U w v xs) (hk : Kept T w w') (hT : ∀ b, B ≤ b → b < U → ¬ T b) : OwnIntsU B U w' v xs := by
  obtain ⟨ao, cap, rfl, h1, h2, h3⟩ := h
  refine ⟨ao, cap, rfl, h1, h2, fun hne => ?_⟩
  obtain ⟨g, rfl, hg, hu, ho⟩ := h3 hne
  exact ⟨g, rfl, hg, hu, ho.kept hk (hT g hg hu)⟩

theorem toIntS_o (v : Value) (xs : List Int) (w : World) (h : IntsIn w v xs) (hs : xs.length ≤ 1048576) :
    Calls Try.prog 29 #[v] w fun e w' => ∃ g, e = .returned (.slice (some ⟨g, 0, none⟩) xs.length xs.length) ∧ w.heap.size ≤ g ∧ OwnV w' g (ints xs) ∧ Below w.heap.size w w' := by
  refine (toIntS_any v xs w h hs).mono ?_
  rintro e w' ⟨rfl, ho, hb, _⟩
  exact ⟨_, rfl, Nat.le_refl _, ho, hb⟩

theorem eqIntS_o (v v' : Value) (xs : List Int) (w : World) (h : IntsIn w v xs) (h' : IntsIn w v' xs) :
    Calls Try.prog 30 #[v, v'] w fun e w' => e = .returned (.bool true) ∧ Below w.heap.size w w' := by
  refine (eqIntS_any v v' xs w h h').mono ?_
  rintro e w' ⟨rfl, n, rfl⟩
  exact ⟨rfl, below_drewN (Below.refl _ _) n⟩

theorem markInts_o (g : Nat) (xs : List Int) (k : Int) (w : World) (h : OwnV w g (ints xs)) (hn : xs.length ≤ 1048576) (hk0 : 0 ≤ k) (hk1 : k ≤ 4611686018427387904) :
    Calls Try.prog 31 #[.slice (some ⟨g, 0, none⟩) xs.length xs.length, .int .i64 k] w fun e w' => e = .returned (.int .i64 (k + xs.length)) ∧ Kept (fun b => b = g) w w' := by
  refine (markIntS_any _ _ xs k g w (fun _ => ⟨rfl, h⟩) hn hk0 hk1).mono ?_
  rintro e w' ⟨rfl, hk, _⟩
  exact ⟨rfl, hk.mono (fun b _ hb => hb.1)⟩

theorem markInts_v (B U : Nat) (ao : Option Addr) (n cap : Nat) (xs : List Int) (w : World) (h : OwnIntsU B U w (.slice ao n cap) xs) (hn : xs.length ≤ 1048576) :
    Calls Try.prog 31 #[.slice ao n cap, .int .i64 1] w fun e w' => e = .returned (.int .i64 (1 + xs.length)) ∧ Kept (fun b => B ≤ b ∧ b < U) w w' ∧ OwnIntsU B U w' (.slice ao n cap) (marks 1 xs.length) := by
  obtain ⟨ao', cap', e, h1, h2, h3⟩ := h
  simp only [Value.slice.injEq] at e
  obtain ⟨rfl, rfl, rfl⟩ := e
  by_cases hne : xs = []
  · subst hne
    refine (markIntS_any ao cap [] 1 0 w (fun h => absurd rfl h) hn (by omega) (by omega)).mono ?_
    rintro e w' ⟨rfl, hk, _⟩
    exact ⟨rfl, hk.mono (fun b _ hb => absurd rfl hb.2), ao, cap, by rw [marks_len], by rw [marks_len]; exact h1, h2, fun h => absurd rfl h⟩
  · obtain ⟨g, rfl, hg, hu, ho⟩ := h3 hne
    refine (markIntS_any _ cap xs 1 g w (fun _ => ⟨rfl, ho⟩) hn (by omega) (by omega)).mono ?_
    rintro e w' ⟨rfl, hk, ho'⟩
    exact ⟨rfl, hk.mono (fun b _ hb => by rw [hb.1]; exact ⟨hg, hu⟩), _, cap, by rw [marks_len], by rw [marks_len]; exact h1, h2, fun _ => ⟨g, rfl, hg, hu, ho' hne⟩⟩

theorem heldInts_v (v : Value) (M : List Int) (W : World) (hW : IntsIn W v (marks 1 M.length)) (hn : M.length ≤ 1048576) :
    Calls Try.prog 32 #[v, .int .i64 1] W fun e w' => e = .returned (.int .i64 (1 + (M.length : Int))) ∧ Below W.heap.size W w' := by
  refine (heldIntS_any v (marks 1 M.length) 1 W hW (by rw [marks_len]) (by rw [marks_len]; exact hn) (by omega) (by omega)).mono ?_
  rintro e w' ⟨rfl, rfl⟩
  rw [marks_len]
  exact ⟨rfl, Below.refl _ _⟩

end Go.Proofs.Ytgmhijbepkobkaa

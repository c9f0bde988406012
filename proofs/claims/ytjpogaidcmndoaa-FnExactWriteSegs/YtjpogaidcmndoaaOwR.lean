/- Records of the call's own between two marks of memory. No statement about the program stands here. -/
import Derived.Test.YtjpogaidcmndoaaRowK
import Derived.Test.YtjpogaidcmndoaaExactKit
namespace Go.Proofs.Ytjpogaidcmndoaa
open Go.RowKit

/-- Records of the call's own: their block, where there is one, from B on and below U. -/
def OwnRU {α : Type} [Inhabited α] (n : Nat) (enc : α → Nat → Value) (B U : Nat) (w : World) (v : Value) (L : List α) : Prop :=
  ∃ ao cap, v = .slice ao L.length cap ∧ L.length ≤ cap ∧ cap ≤ maxLen ∧ (L ≠ [] → ∃ g, ao = some ⟨g, 0, none⟩ ∧ B ≤ g ∧ g < U ∧ OwnV w g (recCells n enc L))
/-- The same, marked. -/
def MarkU (f : Nat → Value) (n B U : Nat) (w : World) (v : Value) (N : Nat) : Prop :=
  ∃ ao cap, v = .slice ao N cap ∧ (N ≠ 0 → ∃ g, ao = some ⟨g, 0, none⟩ ∧ B ≤ g ∧ g < U ∧ OwnV w g ((List.range (N * n)).map f))

section
variable {α : Type} [Inhabited α] {n : Nat} {enc : α → Nat → Value} {B U : Nat} {w w' : World} {v : Value} {L : List α} {f : Nat → Value} {N : Nat}
theorem OwnRU.inn (h : OwnRU n enc B U w v L) : RecsIn n enc w v L := by
  obtain ⟨ao, cap, rfl, h1, h2, h3⟩ := h
  refine ⟨ao, cap, rfl, h1, h2, fun i hi => ?_⟩
  obtain ⟨g, rfl, _, _, ho⟩ := h3 (fun e => by rw [e] at hi; simp at hi)
  exact ⟨g, 0, rfl, fun j hj => by rw [Nat.zero_add]; exact ho.cell (recCells_get hi hj)⟩
theorem OwnRU.below (h : OwnRU n enc B U w v L) (hb : Below w.heap.size w w') : OwnRU n enc B U w' v L := by
  obtain ⟨ao, cap, rfl, h1, h2, h3⟩ := h
  refine ⟨ao, cap, rfl, h1, h2, fun hne => ?_⟩
  obtain ⟨g, rfl, hg, hu, ho⟩ := h3 hne
  exact ⟨g, rfl, hg, hu, ho.below hb ho.lt⟩
theorem OwnRU.kept {T : Nat → Prop} (h : OwnRU n enc B U w v L) (hk : Kept T w w') (hT : ∀ b, B ≤ b → b < U → ¬ T b) : OwnRU n enc B U w' v L := by
  obtain ⟨ao, cap, rfl, h1, h2, h3⟩ := h
  refine ⟨ao, cap, rfl, h1, h2, fun hne => ?_⟩
  obtain ⟨g, rfl, hg, hu, ho⟩ := h3 hne
  exact ⟨g, rfl, hg, hu, ho.kept hk (hT g hg hu)⟩
theorem MarkU.below (h : MarkU f n B U w v N) (hb : Below w.heap.size w w') : MarkU f n B U w' v N := by
  obtain ⟨ao, cap, rfl, h3⟩ := h
  refine ⟨ao, cap, rfl, fun hne => ?_⟩
  obtain ⟨g, rfl, hg, hu, ho⟩ := h3 hne
  exact ⟨g, rfl, hg, hu, ho.below hb ho.lt⟩
theorem MarkU.kept {T : Nat → Prop} (h : MarkU f n B U w v N) (hk : Kept T w w') (hT : ∀ b, B ≤ b → b < U → ¬ T b) : MarkU f n B U w' v N := by
  obtain ⟨ao, cap, rfl, h3⟩ := h
  refine ⟨ao, cap, rfl, fun hne => ?_⟩
  obtain ⟨g, rfl, hg, hu, ho⟩ := h3 hne
  exact ⟨g, rfl, hg, hu, ho.kept hk (hT g hg hu)⟩
theorem RowB.uptoR {T : TypeId} {ao : Option Addr} {m cap : Nat} (h : RowB T n enc B w ao m cap L) (hn : 0 < n) : OwnRU n enc B w.heap.size w (.slice ao m cap) L := by
  have hl := h.len hn
  rcases h.parts hn with ⟨rfl, rfl, rfl, rfl⟩ | ⟨g, rfl, hg, hu, hc, hm, ho⟩
  · exact ⟨none, 0, rfl, Nat.le_refl _, Nat.zero_le _, fun h => absurd rfl h⟩
  · subst hl
    exact ⟨_, cap, rfl, hc, hm, fun _ => ⟨g, rfl, hg, hu, ho⟩⟩
end
/-- The same with no upper mark. -/
def OwnR {α : Type} [Inhabited α] (n : Nat) (enc : α → Nat → Value) (B : Nat) (w : World) (v : Value) (L : List α) : Prop :=
  ∃ ao cap, v = .slice ao L.length cap ∧ L.length ≤ cap ∧ cap ≤ maxLen ∧ (L ≠ [] → ∃ g, ao = some ⟨g, 0, none⟩ ∧ B ≤ g ∧ OwnV w g (recCells n enc L))
section
variable {α : Type} [Inhabited α] {n : Nat} {enc : α → Nat → Value} {B : Nat} {w w' : World} {v : Value} {L : List α}
theorem OwnR.upto (h : OwnR n enc B w v L) : OwnRU n enc B w.heap.size w v L := by
  obtain ⟨ao, cap, rfl, h1, h2, h3⟩ := h
  refine ⟨ao, cap, rfl, h1, h2, fun hne => ?_⟩
  obtain ⟨g, rfl, hg, ho⟩ := h3 hne
  exact ⟨g, rfl, hg, ho.lt, ho⟩
theorem OwnR.intsIn (h : OwnR n enc B w v L) : RecsIn n enc w v L := h.upto.inn
theorem OwnR.below (h : OwnR n enc B w v L) (hb : Below w.heap.size w w') : OwnR n enc B w' v L := by
  obtain ⟨ao, cap, rfl, h1, h2, h3⟩ := h
  refine ⟨ao, cap, rfl, h1, h2, fun hne => ?_⟩
  obtain ⟨g, rfl, hg, ho⟩ := h3 hne
  exact ⟨g, rfl, hg, ho.below hb ho.lt⟩
theorem OwnR.mono {B' : Nat} (h : OwnR n enc B w v L) (hB : B' ≤ B) : OwnR n enc B' w v L := by
  obtain ⟨ao, cap, rfl, h1, h2, h3⟩ := h
  refine ⟨ao, cap, rfl, h1, h2, fun hne => ?_⟩
  obtain ⟨g, rfl, hg, ho⟩ := h3 hne
  exact ⟨g, rfl, Nat.le_trans hB hg, ho⟩
theorem RowB.own {T : TypeId} {ao : Option Addr} {m cap : Nat} (h : RowB T n enc B w ao m cap L) (hn : 0 < n) : OwnR n enc B w (.slice ao m cap) L := by
  obtain ⟨a', c', e, h1, h2, h3⟩ := h.uptoR hn
  refine ⟨a', c', e, h1, h2, fun hne => ?_⟩
  obtain ⟨g, e, hg, _, ho⟩ := h3 hne
  exact ⟨g, e, hg, ho⟩
theorem ownR_copy {g : Nat} (h : OwnV w g (recCells n enc L)) (hB : B ≤ g) (hs : L.length ≤ 1048576) : OwnR n enc B w (.slice (some ⟨g, 0, none⟩) L.length L.length) L :=
  ⟨_, _, rfl, Nat.le_refl _, by unfold maxLen; omega, fun _ => ⟨g, rfl, hB, h⟩⟩
end

end Go.Proofs.Ytjpogaidcmndoaa

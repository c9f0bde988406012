/- Records of the call's own between two marks of memory; contracts of marks for the laws. No statement about the program stands here. -/
import Derived.Test.YtdkfleodgdpckaaMStow
import Derived.Test.YtdkfleodgdpckaaRowB
import Derived.Test.YtdkfleodgdpckaaRHatch
namespace Go.Proofs.Ytdkfleodgdpckaa
open Go.RowKit

/-- Records of the call's own: their block, where there is one, from B on and below U. -/
def OwnRU {α : Type} [Inhabited α] (n : Nat) (enc : α → Nat → Value) (B U : Nat) (w : World) (v : Value) (L : List α) : Prop :=
  ∃ ao cap, v = .slice ao L.length cap ∧ L.length ≤ cap ∧ cap ≤ maxLen ∧ (L ≠ [] → ∃ g, ao = some ⟨g, 0, none⟩ ∧ B ≤ g ∧ g < U ∧ OwnV w g (recCells n enc L))
/-- The same, marked. -/
def MarkU (f : Nat → Value) (n B U : Nat) (w : World) (v : Value) (N : Nat) : Prop :=
  ∃ ao cap, v = .slice ao N cap ∧ (N ≠ 0 → ∃ g, ao = some ⟨g, 0, none⟩ ∧ B ≤ g ∧ g < U ∧ OwnV w g ((List.range (N * n)).map f))

section
variable {α : Type} [Inhabited α] {n : Nat} {enc : α → Nat → Value} {B U : Nat} {w w' : World} {v : Value} {L : List α} {f : Nat → Value} {N : Nat}
theorem OwnRU.inn (h : OwnRU n enc B U w v L) : RecsIn n enc w v L := by
  obtain ⟨ao, cap, rfl, h1, h2, h3⟩ := h
  refine ⟨ao, cap, rfl, h1, h2, fun i hi => ?_⟩
  obtain ⟨g, rfl, _, _, ho⟩ := h3 (fun e => by rw [e] at hi; simp at hi)
  exact ⟨g, 0, rfl, fun j hj => by rw [Nat.zero_add]; exact ho.cell (recCells_get hi hj)⟩
theorem OwnRU.below (h : OwnRU n enc B U w v L) (hb : Below w.heap.size w w') : OwnRU n enc B U w' v L := by
  obtain ⟨ao, cap, rfl, h1, h2, h3⟩ := h
  refine ⟨ao, cap, rfl, h1, h2, fun hne => ?_⟩
  obtain ⟨g, rfl, hg, hu, ho⟩ := h3 hne
  exact ⟨g, rfl, hg, hu, ho.below hb ho.lt⟩
theorem OwnRU.kept {T : Nat → Prop} (h : OwnRU n enc B U w v L) (hk : Kept T w w') (hT : ∀ b, B ≤ b → b < U → ¬ T b) : OwnRU n enc B U w' v L := by
  obtain ⟨ao, cap, rfl, h1, h2, h3⟩ := h
  refine ⟨ao, cap, rfl, h1, h2, fun hne => ?_⟩
  obtain ⟨g, rfl, hg, hu, ho⟩ := h3 hne
  exact ⟨g, rfl, hg, hu, ho.kept hk (hT g hg hu)⟩
theorem MarkU.below (h : MarkU f n B U w v N) (hb : Below w.heap.size w w') : MarkU f n B U w' v N := by
  obtain ⟨ao, cap, rfl, h3⟩ := h
  refine ⟨ao, cap, rfl, fun hne => ?_⟩
  obtain ⟨g, rfl, hg, hu, ho⟩ := h3 hne
  exact ⟨g, rfl, hg, hu, ho.below hb ho.lt⟩
theorem MarkU.kept {T : Nat → Prop} (h : MarkU f n B U w v N) (hk : Kept T w w') (hT : ∀ b, B ≤ b → b < U → ¬ T b) : MarkU f n B U w' v N := by
  obtain ⟨ao, cap, rfl, h3⟩ := h
  refine ⟨ao, cap, rfl, fun hne => ?_⟩
  obtain ⟨g, rfl, hg, hu, ho⟩ := h3 hne
  exact ⟨g, rfl, hg, hu, ho.kept hk (hT g hg hu)⟩
theorem RowB.uptoR {T : TypeId} {ao : Option Addr} {m cap : Nat} (h : RowB T n enc B w ao m cap L) (hn : 0 < n) : OwnRU n enc B w.heap.size w (.slice ao m cap) L := by
  have hl := h.len hn
  rcases h.parts hn with ⟨rfl, rfl, rfl, rfl⟩ | ⟨g, rfl, hg, hu, hc, hm, ho⟩
  · exact ⟨none, 0, rfl, Nat.le_refl _, Nat.zero_le _, fun h => absurd rfl h⟩
  · subst hl
    exact ⟨_, cap, rfl, hc, hm, fun _ => ⟨g, rfl, hg, hu, ho⟩⟩
end
/-- The same with no upper mark. -/
def OwnR {α : Type} [Inhabited α] (n : Nat) (enc : α → Nat → Value) (B : Nat) (w : World) (v : Value) (L : List α) : Prop :=
  ∃ ao cap, v = .slice ao L.length cap ∧ L.length ≤ cap ∧ cap ≤ maxLen ∧ (L ≠ [] → ∃ g, ao = some ⟨g, 0, none⟩ ∧ B ≤ g ∧ OwnV w g (recCells n enc L))
section
variable {α : Type} [Inhabited α] {n : Nat} {enc : α → Nat → Value} {B : Nat} {w w' : World} {v : Value} {L : List α}
theorem OwnR.upto (h : OwnR n enc B w v L) : OwnRU n enc B w.heap.size w v L := by
  obtain ⟨ao, cap, rfl, h1, h2, h3⟩ := h
  refine ⟨ao, cap, rfl, h1, h2, fun hne => ?_⟩
  obtain ⟨g, rfl, hg, ho⟩ := h3 hne
  exact ⟨g, rfl, hg, ho.lt, ho⟩
theorem OwnR.intsIn (h : OwnR n enc B w v L) : RecsIn n enc w v L := h.upto.inn
theorem OwnR.below (h : OwnR n enc B w v L) (hb : Below w.heap.size w w') : OwnR n enc B w' v L := by
  obtain ⟨ao, cap, rfl, h1, h2, h3⟩ := h
  refine ⟨ao, cap, rfl, h1, h2, fun hne => ?_⟩
  obtain ⟨g, rfl, hg, ho⟩ := h3 hne
  exact ⟨g, rfl, hg, ho.below hb ho.lt⟩
theorem OwnR.mono {B' : Nat} (h : OwnR n enc B w v L) (hB : B' ≤ B) : OwnR n enc B' w v L := by
  obtain ⟨ao, cap, rfl, h1, h2, h3⟩ := h
  refine ⟨ao, cap, rfl, h1, h2, fun hne => ?_⟩
  obtain ⟨g, rfl, hg, ho⟩ := h3 hne
  exact ⟨g, rfl, Nat.le_trans hB hg, ho⟩
theorem RowB.own {T : TypeId} {ao : Option Addr} {m cap : Nat} (h : RowB T n enc B w ao m cap L) (hn : 0 < n) : OwnR n enc B w (.slice ao m cap) L := by
  obtain ⟨a', c', e, h1, h2, h3⟩ := h.uptoR hn
  refine ⟨a', c', e, h1, h2, fun hne => ?_⟩
  obtain ⟨g, e, hg, _, ho⟩ := h3 hne
  exact ⟨g, e, hg, ho⟩
theorem ownR_copy {g : Nat} (h : OwnV w g (recCells n enc L)) (hB : B ≤ g) (hs : L.length ≤ 1048576) : OwnR n enc B w (.slice (some ⟨g, 0, none⟩) L.length L.length) L :=
  ⟨_, _, rfl, Nat.le_refl _, by unfold maxLen; omega, fun _ => ⟨g, rfl, hB, h⟩⟩
end

theorem markHatches_o (g : Nat) (L : List HatchT) (k : Int) (w : World) (h : OwnV w g (recCells 4 eHatch L)) (hn : L.length ≤ 1048576) (hk0 : 0 ≤ k) (hk1 : k ≤ 1152921504606846976) :
    Calls Try.prog 39 #[.slice (some ⟨g, 0, none⟩) L.length L.length, .int .i64 k] w fun e w' => e = .returned (.int .i64 (k + 4 * (L.length : Int))) ∧ Kept (fun b => b = g) w w' := by
  refine (markHatchS_any g L.length L.length _ k w h (by rw [recCells_length]; exact Nat.le_refl _) hn hk0 hk1).mono ?_
  rintro e w' ⟨rfl, hk, _⟩
  exact ⟨rfl, hk⟩
theorem markStows_o (g : Nat) (L : List StowT) (k : Int) (w : World) (h : OwnV w g (recCells 9 eStow L)) (hn : L.length ≤ 1048576) (hk0 : 0 ≤ k) (hk1 : k ≤ 1152921504606846976) :
    Calls Try.prog 35 #[.slice (some ⟨g, 0, none⟩) L.length L.length, .int .i64 k] w fun e w' => e = .returned (.int .i64 (k + 9 * (L.length : Int))) ∧ Kept (fun b => b = g) w w' := by
  refine (markStowS_any g L.length L.length _ k w h (by rw [recCells_length]; exact Nat.le_refl _) hn hk0 hk1).mono ?_
  rintro e w' ⟨rfl, hk, _⟩
  exact ⟨rfl, hk⟩
theorem markBoxes_o (g : Nat) (L : List BoxT) (k : Int) (w : World) (h : OwnV w g (recCells 6 eBox L)) (hn : L.length ≤ 1048576) (hk0 : 0 ≤ k) (hk1 : k ≤ 1152921504606846976) :
    Calls Try.prog 44 #[.slice (some ⟨g, 0, none⟩) L.length L.length, .int .i64 k] w fun e w' => e = .returned (.int .i64 (k + 6 * (L.length : Int))) ∧ Kept (fun b => b = g) w w' := by
  refine (markBoxS_any g L.length L.length _ k w h (by rw [recCells_length]; exact Nat.le_refl _) hn hk0 hk1).mono ?_
  rintro e w' ⟨rfl, hk, _⟩
  exact ⟨rfl, hk⟩
theorem markStowS_zero (ao : Option Addr) (cap : Nat) (k : Int) (w : World) : Calls Try.prog 35 #[.slice ao 0 cap, .int .i64 k] w fun e w' => e = .returned (.int .i64 k) ∧ w' = w := by
  go_enter Try.func35, Try.ntmps35
  go_wp2
  refine wp_loop_rounds 1 ?_
  rw [rounds_succ]
  go_wp2
  go_ret
  exact ⟨rfl, rfl⟩
theorem heldStowS_zero (ao : Option Addr) (cap : Nat) (k : Int) (w : World) : Calls Try.prog 40 #[.slice ao 0 cap, .int .i64 k] w fun e w' => e = .returned (.int .i64 k) ∧ w' = w := by
  go_enter Try.func40, Try.ntmps40
  go_wp2
  refine wp_loop_rounds 1 ?_
  rw [rounds_succ]
  go_wp2
  go_ret
  exact ⟨rfl, rfl⟩
theorem markStowS_v (B U : Nat) (ao : Option Addr) (m cap : Nat) (M : List StowT) (w : World) (h : OwnRU 9 eStow B U w (.slice ao m cap) M) (hn : M.length ≤ 1048576) :
    Calls Try.prog 35 #[.slice ao m cap, .int .i64 1] w fun e w' => e = .returned (.int .i64 (1 + 9 * (M.length : Int))) ∧ Kept (fun b => B ≤ b ∧ b < U) w w' ∧ MarkU (mkStow 1) 9 B U w' (.slice ao m cap) M.length := by
  obtain ⟨ao', cap', e, h1, h2, h3⟩ := h
  simp only [Value.slice.injEq] at e
  obtain ⟨rfl, rfl, rfl⟩ := e
  by_cases hne : M = []
  · subst hne
    refine (markStowS_zero ao cap 1 w).mono ?_
    rintro e w' ⟨rfl, rfl⟩
    exact ⟨rfl, Kept.refl _ _, ao, cap, rfl, fun h => absurd rfl h⟩
  · obtain ⟨g, rfl, hg, hu, ho⟩ := h3 hne
    refine (markStowS_any g cap M.length _ 1 w ho (by rw [recCells_length]; exact Nat.le_refl _) hn (by omega) (by omega)).mono ?_
    rintro e w' ⟨rfl, hk, ho'⟩
    exact ⟨rfl, hk.mono (fun b _ hb => by rw [hb]; exact ⟨hg, hu⟩), _, cap, rfl, fun _ => ⟨g, rfl, hg, hu, ho'⟩⟩
theorem heldStowS_v (B U : Nat) (ao : Option Addr) (m cap : Nat) (M : List StowT) (W : World) (h : MarkU (mkStow 1) 9 B U W (.slice ao m cap) M.length) (hn : M.length ≤ 1048576) :
    Calls Try.prog 40 #[.slice ao m cap, .int .i64 1] W fun e w' => e = .returned (.int .i64 (1 + 9 * (M.length : Int))) ∧ Below W.heap.size W w' := by
  obtain ⟨ao', cap', e, h3⟩ := h
  simp only [Value.slice.injEq] at e
  obtain ⟨rfl, rfl, rfl⟩ := e
  by_cases hne : M.length = 0
  · rw [hne]
    refine (heldStowS_zero ao cap 1 W).mono ?_
    rintro e w' ⟨rfl, rfl⟩
    exact ⟨rfl, Below.refl _ _⟩
  · obtain ⟨g, rfl, hg, hu, ho⟩ := h3 hne
    exact heldStowS_any g cap M.length 1 W ho hn (by omega) (by omega)

end Go.Proofs.Ytdkfleodgdpckaa

/- Fuels of the call's own between two marks of memory; contracts of eqFuelS, markFuelS and heldFuelS for the laws. -/
import Derived.Test.YtblkbonedgofiaaDoorRFuel
import Derived.Test.YtblkbonedgofiaaDoorMFuel
namespace Go.Proofs.YtblkbonedgofiaaDoor
open Go.RowKit

/-- Fuels of the call's own: their block, where there is one, from B on. -/
def OwnFu (B : Nat) (w : World) (v : Value) (L : List I2) : Prop :=
  ∃ ao cap, v = .slice ao L.length cap ∧ L.length ≤ cap ∧ cap ≤ maxLen ∧ (L ≠ [] → ∃ g, ao = some ⟨g, 0, none⟩ ∧ B ≤ g ∧ OwnV w g (recCells 2 e2 L))
def OwnFuU (B U : Nat) (w : World) (v : Value) (L : List I2) : Prop :=
  ∃ ao cap, v = .slice ao L.length cap ∧ L.length ≤ cap ∧ cap ≤ maxLen ∧ (L ≠ [] → ∃ g, ao = some ⟨g, 0, none⟩ ∧ B ≤ g ∧ g < U ∧ OwnV w g (recCells 2 e2 L))

theorem OwnFu.mono {B B' : Nat} {w : World} {v : Value} {L : List I2} (h : OwnFu B w v L) (hB : B' ≤ B) : OwnFu B' w v L := by
  obtain ⟨ao, cap, rfl, h1, h2, h3⟩ := h
  refine ⟨ao, cap, rfl, h1, h2, fun hne => ?_⟩
  obtain ⟨g, rfl, hg, ho⟩ := h3 hne
  exact ⟨g, rfl, by omega, ho⟩

theorem OwnFu.upto {B : Nat} {w : World} {v : Value} {L : List I2} (h : OwnFu B w v L) : OwnFuU B w.heap.size w v L := by
  obtain ⟨ao, cap, rfl, h1, h2, h3⟩ := h
  refine ⟨ao, cap, rfl, h1, h2, fun hne => ?_⟩
  obtain ⟨g, rfl, hg, ho⟩ := h3 hne
  exact ⟨g, rfl, hg, ho.lt, ho⟩

theorem OwnFuU.inn {B U : Nat} {w : World} {v : Value} {L : List I2} (h : OwnFuU B U w v L) : R2 w v L := by
  obtain ⟨ao, cap, rfl, h1, h2, h3⟩ := h
  refine ⟨ao, cap, rfl, h1, h2, fun i hi => ?_⟩
  obtain ⟨g, rfl, _, _, ho⟩ := h3 (fun e => by rw [e] at hi; simp at hi)
  exact ⟨g, 0, rfl, fun j hj => by rw [Nat.zero_add]; exact ho.cell (recCells_get hi hj)⟩

theorem OwnFu.intsIn {B : Nat} {w : World} {v : Value} {L : List I2} (h : OwnFu B w v L) : R2 w v L := h.upto.inn

theorem OwnFuU.below {B U : Nat} {w w' : World} {v : Value} {L : List I2} (h : OwnFuU B U w v L) (hb : Below w.heap.size w w') : OwnFuU B U w' v L := by
  obtain ⟨ao, cap, rfl, h1, h2, h3⟩ := h
  refine ⟨ao, cap, rfl, h1, h2, fun hne => ?_⟩
  obtain ⟨g, rfl, hg, hu, ho⟩ := h3 hne
  exact ⟨g, rfl, hg, hu, ho.below hb ho.lt⟩

theorem OwnFuU.kept {T : Nat → Prop} {B U : Nat} {w w' : World} {v : Value} {L : List I2} (h : OwnFuU B U w v L) (hk : Kept T w w') (hT : ∀ b, B ≤ b → b < U → ¬ T b) : OwnFuU B U w' v L := by
  obtain ⟨ao, cap, rfl, h1, h2, h3⟩ := h
  refine ⟨ao, cap, rfl, h1, h2, fun hne => ?_⟩
  obtain ⟨g, rfl, hg, hu, ho⟩ := h3 hne
  exact ⟨g, rfl, hg, hu, ho.kept hk (hT g hg hu)⟩

def fuMark (k : Int) (i : Nat) : I2 := (k + 2 * (i : Int), k + 2 * (i : Int) + 1)
def fuMarks (k : Int) (n : Nat) : List I2 := (List.range n).map (fuMark k)
theorem fuMarks_len (k : Int) (n : Nat) : (fuMarks k n).length = n := by simp [fuMarks]
theorem fuMarks_cells (k : Int) (n : Nat) : recCells 2 e2 (fuMarks k n) = ints ((List.range (n * 2)).map fun i : Nat => k + (i : Int)) := by
  apply List.ext_getElem?
  intro q
  by_cases hq : q < n * 2
  · have h1 : (recCells 2 e2 (fuMarks k n))[q]? = some (e2 ((fuMarks k n).getD (q / 2) default) (q % 2)) := by simp [recCells, fuMarks_len, List.getElem?_range hq]
    rw [h1, show (fuMarks k n).getD (q / 2) default = fuMark k (q / 2) by simp [fuMarks, List.getD, show q / 2 < n by omega]]
    have h2 : (ints ((List.range (n * 2)).map fun i : Nat => k + (i : Int)))[q]? = some (.int .i64 (k + (q : Int))) := by simp [ints, List.getElem?_range hq]
    rw [h2]
    have hm : q % 2 = 0 ∨ q % 2 = 1 := by omega
    rcases hm with hm | hm
    · rw [hm]
      simp only [e2, fuMark, Option.some.injEq, Value.int.injEq, true_and]
      omega
    · rw [hm]
      simp only [e2, fuMark, Option.some.injEq, Value.int.injEq, true_and]
      omega
  · rw [List.getElem?_eq_none (by rw [recCells_length, fuMarks_len]; omega), List.getElem?_eq_none (by simp [ints]; omega)]

theorem eqFuelS_o (v v' : Value) (L : List I2) (w : World) (h : R2 w v L) (h' : R2 w v' L) :
    Calls Tryd.prog 15 #[v, v'] w fun e w' => e = .returned (.bool true) ∧ Below w.heap.size w w' := eqFuelS_any v v' L w h h'

theorem markFu_nil (ao : Option Addr) (cap : Nat) (k : Int) (w : World) :
    Calls Tryd.prog 16 #[.slice ao 0 cap, .int .i64 k] w fun e w' => e = .returned (.int .i64 k) ∧ w = w' := by
  go_enter Tryd.func16, Tryd.ntmps16
  go_wp2
  go_loopg [1, 5] 0 (fun _ kv iv wr => w = wr ∧ iv = .int .i64 0 ∧ kv = .int .i64 k)
  case atStart => exact ⟨rfl, rfl, rfl⟩
  case round =>
    obtain ⟨rfl, rfl, rfl⟩ := hrel
    go_wp2
    go_ret
    exact ⟨rfl, rfl⟩

theorem heldWi_nil (ao : Option Addr) (cap : Nat) (k : Int) (w : World) :
    Calls Tryd.prog 17 #[.slice ao 0 cap, .int .i64 k] w fun e w' => e = .returned (.int .i64 k) ∧ w = w' := by
  go_enter Tryd.func17, Tryd.ntmps17
  go_wp2
  go_loopg [1, 5] 0 (fun _ kv iv wr => w = wr ∧ iv = .int .i64 0 ∧ kv = .int .i64 k)
  case atStart => exact ⟨rfl, rfl, rfl⟩
  case round =>
    obtain ⟨rfl, rfl, rfl⟩ := hrel
    go_wp2
    go_ret
    exact ⟨rfl, rfl⟩

theorem markFuelS_v (B U : Nat) (ao : Option Addr) (n cap : Nat) (L : List I2) (w : World) (h : OwnFuU B U w (.slice ao n cap) L) (hn : L.length ≤ 1048576) :
    Calls Tryd.prog 16 #[.slice ao n cap, .int .i64 1] w fun e w' => e = .returned (.int .i64 (1 + 2 * (L.length : Int))) ∧ Kept (fun b => B ≤ b ∧ b < U) w w' ∧ OwnFuU B U w' (.slice ao n cap) (fuMarks 1 L.length) := by
  obtain ⟨ao', cap', e, h1, h2, h3⟩ := h
  simp only [Value.slice.injEq] at e
  obtain ⟨rfl, rfl, rfl⟩ := e
  by_cases hne : L = []
  · subst hne
    refine (markFu_nil ao cap 1 w).mono ?_
    rintro e w' ⟨rfl, rfl⟩
    exact ⟨rfl, Kept.refl _ _, ao, cap, by rw [fuMarks_len], by rw [fuMarks_len]; exact h1, h2, fun h => absurd rfl h⟩
  · obtain ⟨g, rfl, hg, hu, ho⟩ := h3 hne
    refine (markFuelS_any g cap L.length (recCells 2 e2 L) 1 w ho (by rw [recCells_length]; omega) hn (by omega) (by omega)).mono ?_
    rintro e w' ⟨rfl, hk, ho'⟩
    exact ⟨rfl, hk.mono (fun b _ hb => by rw [hb]; exact ⟨hg, hu⟩), _, cap, by rw [fuMarks_len], by rw [fuMarks_len]; exact h1, h2, fun _ => ⟨g, rfl, hg, hu, by rw [fuMarks_cells]; exact ho'⟩⟩

theorem heldFuelS_v (B U : Nat) (ao : Option Addr) (n cap : Nat) (M : List I2) (W : World) (hW : OwnFuU B U W (.slice ao n cap) (fuMarks 1 M.length)) (hn : M.length ≤ 1048576) :
    Calls Tryd.prog 17 #[.slice ao n cap, .int .i64 1] W fun e w' => e = .returned (.int .i64 (1 + 2 * (M.length : Int))) ∧ Below W.heap.size W w' := by
  obtain ⟨ao', cap', e, h1, h2, h3⟩ := hW
  rw [fuMarks_len] at e h1
  simp only [Value.slice.injEq] at e
  obtain ⟨rfl, rfl, rfl⟩ := e
  by_cases hne : M.length = 0
  · rw [hne]
    refine (heldWi_nil ao cap 1 W).mono ?_
    rintro e w' ⟨rfl, rfl⟩
    exact ⟨rfl, Below.refl _ _⟩
  · obtain ⟨g, rfl, hg, hu, ho⟩ := h3 (fun e => hne (by have := congrArg List.length e; rw [fuMarks_len] at this; simpa using this))
    rw [fuMarks_cells] at ho
    refine (heldFuelS_any g cap M.length 1 W ho hn (by omega) (by omega)).mono ?_
    rintro e w' ⟨rfl, rfl⟩
    exact ⟨rfl, Below.refl _ _⟩

end Go.Proofs.YtblkbonedgofiaaDoor

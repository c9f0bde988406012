/- Windows of the call's own between two marks of memory; contracts of eqWindowS, markWindowS and heldWindowS for the laws. -/
import Derived.Test.YtglehiakikhlaaaRWindow
import Derived.Test.YtglehiakikhlaaaMWindow
namespace Go.Proofs.Ytglehiakikhlaaa
open Go.RowKit

/-- Windows of the call's own: their block, where there is one, from B on. -/
def OwnWi (B : Nat) (w : World) (v : Value) (L : List I2) : Prop :=
  ∃ ao cap, v = .slice ao L.length cap ∧ L.length ≤ cap ∧ cap ≤ maxLen ∧ (L ≠ [] → ∃ g, ao = some ⟨g, 0, none⟩ ∧ B ≤ g ∧ OwnV w g (recCells 2 e2 L))
def OwnWiU (B U : Nat) (w : World) (v : Value) (L : List I2) : Prop :=
  ∃ ao cap, v = .slice ao L.length cap ∧ L.length ≤ cap ∧ cap ≤ maxLen ∧ (L ≠ [] → ∃ g, ao = some ⟨g, 0, none⟩ ∧ B ≤ g ∧ g < U ∧ OwnV w g (recCells 2 e2 L))

theorem OwnWi.mono {B B' : Nat} {w : World} {v : Value} {L : List I2} (h : OwnWi B w v L) (hB : B' ≤ B) : OwnWi B' w v L := by
  obtain ⟨ao, cap, rfl, h1, h2, h3⟩ := h
  refine ⟨ao, cap, rfl, h1, h2, fun hne => ?_⟩
  obtain ⟨g, rfl, hg, ho⟩ := h3 hne
  exact ⟨g, rfl, by omega, ho⟩

theorem OwnWi.upto {B : Nat} {w : World} {v : Value} {L : List I2} (h : OwnWi B w v L) : OwnWiU B w.heap.size w v L := by
  obtain ⟨ao, cap, rfl, h1, h2, h3⟩ := h
  refine ⟨ao, cap, rfl, h1, h2, fun hne => ?_⟩
  obtain ⟨g, rfl, hg, ho⟩ := h3 hne
  exact ⟨g, rfl, hg, ho.lt, ho⟩

theorem OwnWiU.inn {B U : Nat} {w : World} {v : Value} {L : List I2} (h : OwnWiU B U w v L) : R2 w v L := by
  obtain ⟨ao, cap, rfl, h1, h2, h3⟩ := h
  refine ⟨ao, cap, rfl, h1, h2, fun i hi => ?_⟩
  obtain ⟨g, rfl, _, _, ho⟩ := h3 (fun e => by rw [e] at hi; simp at hi)
  exact ⟨g, 0, rfl, fun j hj => by rw [Nat.zero_add]; exact ho.cell (recCells_get hi hj)⟩

theorem OwnWi.intsIn {B : Nat} {w : World} {v : Value} {L : List I2} (h : OwnWi B w v L) : R2 w v L := h.upto.inn

theorem OwnWiU.below {B U : Nat} {w w' : World} {v : Value} {L : List I2} (h : OwnWiU B U w v L) (hb : Below w.heap.size w w') : OwnWiU B U w' v L := by
  obtain ⟨ao, cap, rfl, h1, h2, h3⟩ := h
  refine ⟨ao, cap, rfl, h1, h2, fun hne => ?_⟩
  obtain ⟨g, rfl, hg, hu, ho⟩ := h3 hne
  exact ⟨g, rfl, hg, hu, ho.below hb ho.lt⟩

theorem OwnWiU.kept {T : Nat → Prop} {B U : Nat} {w w' : World} {v : Value} {L : List I2} (h : OwnWiU B U w v L) (hk : Kept T w w') (hT : ∀ b, B ≤ b → b < U → ¬ T b) : OwnWiU B U w' v L := by
  obtain ⟨ao, cap, rfl, h1, h2, h3⟩ := h
  refine ⟨ao, cap, rfl, h1, h2, fun hne => ?_⟩
  obtain ⟨g, rfl, hg, hu, ho⟩ := h3 hne
  exact ⟨g, rfl, hg, hu, ho.kept hk (hT g hg hu)⟩

def wiMark (k : Int) (i : Nat) : I2 := (k + 2 * (i : Int), k + 2 * (i : Int) + 1)
def wiMarks (k : Int) (n : Nat) : List I2 := (List.range n).map (wiMark k)
theorem wiMarks_len (k : Int) (n : Nat) : (wiMarks k n).length = n := by simp [wiMarks]
theorem wiMarks_cells (k : Int) (n : Nat) : recCells 2 e2 (wiMarks k n) = ints ((List.range (n * 2)).map fun i : Nat => k + (i : Int)) := by
  apply List.ext_getElem?
  intro q
  by_cases hq : q < n * 2
  · have h1 : (recCells 2 e2 (wiMarks k n))[q]? = some (e2 ((wiMarks k n).getD (q / 2) default) (q % 2)) := by simp [recCells, wiMarks_len, List.getElem?_range hq]
    rw [h1, show (wiMarks k n).getD (q / 2) default = wiMark k (q / 2) by simp [wiMarks, List.getD, show q / 2 < n by omega]]
    have h2 : (ints ((List.range (n * 2)).map fun i : Nat => k + (i : Int)))[q]? = some (.int .i64 (k + (q : Int))) := by simp [ints, List.getElem?_range hq]
    rw [h2]
    have hm : q % 2 = 0 ∨ q % 2 = 1 := by omega
    rcases hm with hm | hm
    · rw [hm]
      simp only [e2, wiMark, Option.some.injEq, Value.int.injEq, true_and]
      omega
    · rw [hm]
      simp only [e2, wiMark, Option.some.injEq, Value.int.injEq, true_and]
      omega
  · rw [List.getElem?_eq_none (by rw [recCells_length, wiMarks_len]; omega), List.getElem?_eq_none (by simp [ints]; omega)]

theorem eqWindowS_o (v v' : Value) (L : List I2) (w : World) (h : R2 w v L) (h' : R2 w v' L) :
    Calls Try.prog 32 #[v, v'] w fun e w' => e = .returned (.bool true) ∧ Below w.heap.size w w' := eqWindowS_any v v' L w h h'

theorem markWi_nil (ao : Option Addr) (cap : Nat) (k : Int) (w : World) :
    Calls Try.prog 33 #[.slice ao 0 cap, .int .i64 k] w fun e w' => e = .returned (.int .i64 k) ∧ w = w' := by
  go_enter Try.func33, Try.ntmps33
  go_wp2
  go_loopg [1, 5] 0 (fun _ kv iv wr => w = wr ∧ iv = .int .i64 0 ∧ kv = .int .i64 k)
  case atStart => exact ⟨rfl, rfl, rfl⟩
  case round =>
    obtain ⟨rfl, rfl, rfl⟩ := hrel
    go_wp2
    go_ret
    exact ⟨rfl, rfl⟩

theorem heldWi_nil (ao : Option Addr) (cap : Nat) (k : Int) (w : World) :
    Calls Try.prog 34 #[.slice ao 0 cap, .int .i64 k] w fun e w' => e = .returned (.int .i64 k) ∧ w = w' := by
  go_enter Try.func34, Try.ntmps34
  go_wp2
  go_loopg [1, 5] 0 (fun _ kv iv wr => w = wr ∧ iv = .int .i64 0 ∧ kv = .int .i64 k)
  case atStart => exact ⟨rfl, rfl, rfl⟩
  case round =>
    obtain ⟨rfl, rfl, rfl⟩ := hrel
    go_wp2
    go_ret
    exact ⟨rfl, rfl⟩

theorem markWindowS_v (B U : Nat) (ao : Option Addr) (n cap : Nat) (L : List I2) (w : World) (h : OwnWiU B U w (.slice ao n cap) L) (hn : L.length ≤ 1048576) :
    Calls Try.prog 33 #[.slice ao n cap, .int .i64 1] w fun e w' => e = .returned (.int .i64 (1 + 2 * (L.length : Int))) ∧ Kept (fun b => B ≤ b ∧ b < U) w w' ∧ OwnWiU B U w' (.slice ao n cap) (wiMarks 1 L.length) := by
  obtain ⟨ao', cap', e, h1, h2, h3⟩ := h
  simp only [Value.slice.injEq] at e
  obtain ⟨rfl, rfl, rfl⟩ := e
  by_cases hne : L = []
  · subst hne
    refine (markWi_nil ao cap 1 w).mono ?_
    rintro e w' ⟨rfl, rfl⟩
    exact ⟨rfl, Kept.refl _ _, ao, cap, by rw [wiMarks_len], by rw [wiMarks_len]; exact h1, h2, fun h => absurd rfl h⟩
  · obtain ⟨g, rfl, hg, hu, ho⟩ := h3 hne
    refine (markWindowS_any g cap L.length (recCells 2 e2 L) 1 w ho (by rw [recCells_length]; omega) hn (by omega) (by omega)).mono ?_
    rintro e w' ⟨rfl, hk, ho'⟩
    exact ⟨rfl, hk.mono (fun b _ hb => by rw [hb]; exact ⟨hg, hu⟩), _, cap, by rw [wiMarks_len], by rw [wiMarks_len]; exact h1, h2, fun _ => ⟨g, rfl, hg, hu, by rw [wiMarks_cells]; exact ho'⟩⟩

theorem heldWindowS_v (B U : Nat) (ao : Option Addr) (n cap : Nat) (M : List I2) (W : World) (hW : OwnWiU B U W (.slice ao n cap) (wiMarks 1 M.length)) (hn : M.length ≤ 1048576) :
    Calls Try.prog 34 #[.slice ao n cap, .int .i64 1] W fun e w' => e = .returned (.int .i64 (1 + 2 * (M.length : Int))) ∧ Below W.heap.size W w' := by
  obtain ⟨ao', cap', e, h1, h2, h3⟩ := hW
  rw [wiMarks_len] at e h1
  simp only [Value.slice.injEq] at e
  obtain ⟨rfl, rfl, rfl⟩ := e
  by_cases hne : M.length = 0
  · rw [hne]
    refine (heldWi_nil ao cap 1 W).mono ?_
    rintro e w' ⟨rfl, rfl⟩
    exact ⟨rfl, Below.refl _ _⟩
  · obtain ⟨g, rfl, hg, hu, ho⟩ := h3 (fun e => hne (by have := congrArg List.length e; rw [wiMarks_len] at this; simpa using this))
    rw [wiMarks_cells] at ho
    refine (heldWindowS_any g cap M.length 1 W ho hn (by omega) (by omega)).mono ?_
    rintro e w' ⟨rfl, rfl⟩
    exact ⟨rfl, Below.refl _ _⟩

end Go.Proofs.Ytglehiakikhlaaa

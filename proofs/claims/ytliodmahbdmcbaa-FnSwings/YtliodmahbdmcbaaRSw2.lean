/- Swings of the call's own between two marks of memory; contracts of markSwingS and heldSwingS. -/
import Derived.Test.YtliodmahbdmcbaaRSw
namespace Go.Proofs.Ytliodmahbdmcbaa
open Go.RowKit

def swMark (k : Int) (i : Nat) : Sw := (k + 2 * (i : Int), (k + 2 * (i : Int) + 1) % 3 == 0)
def swMarks (k : Int) (n : Nat) : List Sw := (List.range n).map (swMark k)
def swMid (L : List Sw) (k : Int) (j : Nat) : List Sw := (List.range L.length).map fun i => if i < j then swMark k i else L.getD i default

theorem swMarks_len (k : Int) (n : Nat) : (swMarks k n).length = n := by simp [swMarks]
theorem swMid_len (L : List Sw) (k : Int) (j : Nat) : (swMid L k j).length = L.length := by simp [swMid]
theorem swMid_zero (L : List Sw) (k : Int) : swMid L k 0 = L := by
  apply List.ext_getElem
  · simp [swMid]
  · intro i h1 h2
    simp [swMid, List.getD, h2]
theorem swMid_done (L : List Sw) (k : Int) : swMid L k L.length = swMarks k L.length := by
  apply List.ext_getElem
  · simp [swMid, swMarks]
  · intro i h1 h2
    have : i < L.length := by simpa [swMid] using h1
    simp [swMid, swMarks, this]
theorem swMid_step (L : List Sw) (k : Int) (j : Nat) : (swMid L k j).set j (swMark k j) = swMid L k (j + 1) := by
  apply List.ext_getElem
  · simp [swMid]
  · intro i h1 h2
    rw [List.getElem_set]
    by_cases e : j = i
    · subst e; simp [swMid]
    · rw [if_neg e]
      by_cases h : i < j
      · simp [swMid, h, show i < j + 1 by omega]
      · simp [swMid, h, show ¬ i < j + 1 by omega]

theorem recCells_at (M : List Sw) {q : Nat} (hq : q < M.length * 2) : (recCells 2 eSw M)[q]? = some (eSw (M.getD (q / 2) default) (q % 2)) := by
  simp [recCells, List.getElem?_range hq]

theorem recCells_set2 (M : List Sw) {j : Nat} (hj : j < M.length) (x : Sw) : ((recCells 2 eSw M).set (j * 2) (.int .i64 x.1)).set (j * 2 + 1) (.bool x.2) = recCells 2 eSw (M.set j x) := by
  apply List.ext_getElem?
  intro q
  by_cases hq : q < M.length * 2
  · rw [recCells_at (M.set j x) (by simpa using hq), List.getElem?_set, List.getElem?_set, recCells_at M hq, recCells_length]
    by_cases h1 : j * 2 + 1 = q
    · subst h1
      have e1 : (j * 2 + 1) / 2 = j := by omega
      have e2 : (j * 2 + 1) % 2 = 1 := by omega
      rw [if_pos rfl, if_pos (by simp [recCells_length]; omega), e1, e2]
      simp [List.getD, hj, eSw]
    · rw [if_neg h1]
      by_cases h2 : j * 2 = q
      · subst h2
        have e1 : (j * 2) / 2 = j := by omega
        have e2 : (j * 2) % 2 = 0 := by omega
        rw [if_pos rfl, if_pos hq, e1, e2]
        simp [List.getD, hj, eSw]
      · rw [if_neg h2]
        have : ¬ j = q / 2 := by omega
        simp [List.getD, this]
  · rw [List.getElem?_eq_none (by simp [recCells_length]; omega), List.getElem?_eq_none (by rw [recCells_length, List.length_set]; omega)]

set_option maxHeartbeats 800000 in
theorem markSw_any (g cap : Nat) (L : List Sw) (k : Int) (w : World) (h : OwnV w g (recCells 2 eSw L)) (hn : L.length ≤ 1048576) (hk0 : 0 ≤ k) (hk1 : k ≤ 4611686018427387904) :
    Calls Try.prog 40 #[.slice (some ⟨g, 0, none⟩) L.length cap, .int .i64 k] w fun e w' => e = .returned (.int .i64 (k + 2 * (L.length : Int))) ∧ Kept (fun b => b = g) w w' ∧ OwnV w' g (recCells 2 eSw (swMarks k L.length)) := by
  have HM0 := hide h
  clear h
  go_enter Try.func40, Try.ntmps40
  go_wp2
  go_loopg [1, 5] L.length (fun gh kv iv wr => ∃ j : Nat, j ≤ L.length ∧ gh = L.length - j ∧ iv = .int .i64 j ∧ kv = .int .i64 (k + 2 * (j : Int)) ∧ Kept (fun b => b = g) w wr ∧ OwnV wr g (recCells 2 eSw (swMid L k j)))
  case atStart => exact ⟨0, Nat.zero_le _, rfl, rfl, by congr 1; omega, Kept.refl _ _, by rw [swMid_zero]; exact unhide HM0⟩
  case round =>
    obtain ⟨j, hj, rfl, rfl, rfl, hK, hM⟩ := hrel
    clear HM0
    by_cases hjn : j < L.length
    · have hf := hM.frozen
      have hu0 := hM.cell (recCells_get (n := 2) (enc := eSw) (L := swMid L k j) (i := j) (j := 0) (by rw [swMid_len]; exact hjn) (by omega))
      have hu1 := hM.cell (recCells_get (n := 2) (enc := eSw) (L := swMid L k j) (i := j) (j := 1) (by rw [swMid_len]; exact hjn) (by omega))
      rw [Nat.add_zero] at hu0
      have hN := (hM.set (j * 2) (.int .i64 (k + 2 * (j : Int))) (by rw [recCells_length, swMid_len]; omega)).set (j * 2 + 1) (.bool ((k + 2 * (j : Int) + 1) % 3 == 0)) (by rw [List.length_set, recCells_length, swMid_len]; omega)
      have e := recCells_set2 (swMid L k j) (j := j) (by rw [swMid_len]; exact hjn) (swMark k j)
      rw [swMid_step] at e
      have HN : Hid (OwnV ((wr.setCell ⟨g, j * 2, none⟩ (.int .i64 (k + 2 * (j : Int)))).setCell ⟨g, j * 2 + 1, none⟩ (.bool ((k + 2 * (j : Int) + 1) % 3 == 0))) g (recCells 2 eSw (swMid L k (j + 1)))) := by
        show OwnV _ _ _
        rw [← e]; exact hN
      have HK := hide hK
      clear hM hK hN e
      generalize eSw ((swMid L k j).getD j default) 0 = z0 at *
      generalize eSw ((swMid L k j).getD j default) 1 = z1 at *
      have hji : (j : Int) < L.length := by omega
      go_wp2
      go_roundg (L.length - (j + 1))
      case measure => omega
      case rel => exact ⟨j + 1, by omega, rfl, by go_num, by congr 1; omega, ((unhide HK).setCell (p := ⟨g, j * 2, none⟩) rfl _).setCell (p := ⟨g, j * 2 + 1, none⟩) rfl _, unhide HN⟩
    · have hjj : j = L.length := by omega
      subst hjj
      go_wp2
      go_ret
      exact ⟨rfl, hK, by rw [← swMid_done]; exact hM⟩

set_option maxHeartbeats 800000 in
theorem heldSw_any (v : Value) (n : Nat) (k : Int) (w : World) (h : SwIn w v (swMarks k n)) (hn : n ≤ 1048576) (hk0 : 0 ≤ k) (hk1 : k ≤ 4611686018427387904) :
    Calls Try.prog 41 #[v, .int .i64 k] w fun e w' => e = .returned (.int .i64 (k + 2 * (n : Int))) ∧ w = w' := by
  obtain ⟨ao, cap, rfl, hl, hm, hc⟩ := h
  rw [swMarks_len] at hl ⊢
  unfold maxLen at hm
  have HC := hide hc
  clear hc
  go_enter Try.func41, Try.ntmps41
  go_wp2
  go_loopg [1, 5] n (fun gh kv iv wr => w = wr ∧ ∃ j : Nat, j ≤ n ∧ gh = n - j ∧ iv = .int .i64 j ∧ kv = .int .i64 (k + 2 * (j : Int)))
  case atStart => exact ⟨rfl, 0, Nat.zero_le _, rfl, rfl, by congr 1; omega⟩
  case round =>
    obtain ⟨rfl, j, hj, rfl, rfl, rfl⟩ := hrel
    by_cases hjn : j < n
    · obtain ⟨b, o, x, y, rfl, c0, c1, EX⟩ := swAt (unhide HC) (k := j) (by rw [swMarks_len]; exact hjn)
      have e : swMark k j = (x, y) := by rw [← unhide EX]; simp [swMarks, List.getD, hjn]
      simp only [swMark, Prod.mk.injEq] at e
      obtain ⟨rfl, rfl⟩ := e
      have hji : (j : Int) < n := by omega
      clear EX
      cases hb : ((k + 2 * (j : Int) + 1) % 3 == 0)
      all_goals
        go_wp2
        go_roundg (n - (j + 1))
        case measure => omega
        case rel => exact ⟨rfl, j + 1, by omega, rfl, by go_num, by congr 1; omega⟩
    · have hjj : j = n := by omega
      subst hjj
      go_wp2
      go_ret
      exact ⟨rfl, rfl⟩

/-- Swings of the call's own: their block, where there is one, from B on. -/
def OwnSw (B : Nat) (w : World) (v : Value) (L : List Sw) : Prop :=
  ∃ ao cap, v = .slice ao L.length cap ∧ L.length ≤ cap ∧ cap ≤ maxLen ∧ (L ≠ [] → ∃ g, ao = some ⟨g, 0, none⟩ ∧ B ≤ g ∧ OwnV w g (recCells 2 eSw L))
def OwnSwU (B U : Nat) (w : World) (v : Value) (L : List Sw) : Prop :=
  ∃ ao cap, v = .slice ao L.length cap ∧ L.length ≤ cap ∧ cap ≤ maxLen ∧ (L ≠ [] → ∃ g, ao = some ⟨g, 0, none⟩ ∧ B ≤ g ∧ g < U ∧ OwnV w g (recCells 2 eSw L))

theorem OwnSw.mono {B B' : Nat} {w : World} {v : Value} {L : List Sw} (h : OwnSw B w v L) (hB : B' ≤ B) : OwnSw B' w v L := by
  obtain ⟨ao, cap, rfl, h1, h2, h3⟩ := h
  refine ⟨ao, cap, rfl, h1, h2, fun hne => ?_⟩
  obtain ⟨g, rfl, hg, ho⟩ := h3 hne
  exact ⟨g, rfl, by omega, ho⟩

theorem OwnSw.upto {B : Nat} {w : World} {v : Value} {L : List Sw} (h : OwnSw B w v L) : OwnSwU B w.heap.size w v L := by
  obtain ⟨ao, cap, rfl, h1, h2, h3⟩ := h
  refine ⟨ao, cap, rfl, h1, h2, fun hne => ?_⟩
  obtain ⟨g, rfl, hg, ho⟩ := h3 hne
  exact ⟨g, rfl, hg, ho.lt, ho⟩

theorem OwnSwU.inn {B U : Nat} {w : World} {v : Value} {L : List Sw} (h : OwnSwU B U w v L) : SwIn w v L := by
  obtain ⟨ao, cap, rfl, h1, h2, h3⟩ := h
  refine ⟨ao, cap, rfl, h1, h2, fun i hi => ?_⟩
  obtain ⟨g, rfl, _, _, ho⟩ := h3 (fun e => by rw [e] at hi; simp at hi)
  exact ⟨g, 0, rfl, fun j hj => by rw [Nat.zero_add]; exact ho.cell (recCells_get hi hj)⟩

theorem OwnSw.intsIn {B : Nat} {w : World} {v : Value} {L : List Sw} (h : OwnSw B w v L) : SwIn w v L := h.upto.inn

theorem OwnSwU.below {B U : Nat} {w w' : World} {v : Value} {L : List Sw} (h : OwnSwU B U w v L) (hb : Below w.heap.size w w') : OwnSwU B U w' v L := by
  obtain ⟨ao, cap, rfl, h1, h2, h3⟩ := h
  refine ⟨ao, cap, rfl, h1, h2, fun hne => ?_⟩
  obtain ⟨g, rfl, hg, hu, ho⟩ := h3 hne
  exact ⟨g, rfl, hg, hu, ho.below hb ho.lt⟩

theorem OwnSwU.kept {T : Nat → Prop} {B U : Nat} {w w' : World} {v : Value} {L : List Sw} (h : OwnSwU B U w v L) (hk : Kept T w w') (hT : ∀ b, B ≤ b → b < U → ¬ T b) : OwnSwU B U w' v L := by
  obtain ⟨ao, cap, rfl, h1, h2, h3⟩ := h
  refine ⟨ao, cap, rfl, h1, h2, fun hne => ?_⟩
  obtain ⟨g, rfl, hg, hu, ho⟩ := h3 hne
  exact ⟨g, rfl, hg, hu, ho.kept hk (hT g hg hu)⟩

theorem markSw_nil (ao : Option Addr) (cap : Nat) (k : Int) (w : World) :
    Calls Try.prog 40 #[.slice ao 0 cap, .int .i64 k] w fun e w' => e = .returned (.int .i64 k) ∧ w = w' := by
  go_enter Try.func40, Try.ntmps40
  go_wp2
  go_loopg [1, 5] 0 (fun _ kv iv wr => w = wr ∧ iv = .int .i64 0 ∧ kv = .int .i64 k)
  case atStart => exact ⟨rfl, rfl, rfl⟩
  case round =>
    obtain ⟨rfl, rfl, rfl⟩ := hrel
    go_wp2
    go_ret
    exact ⟨rfl, rfl⟩

theorem markSwingS_v (B U : Nat) (ao : Option Addr) (n cap : Nat) (L : List Sw) (w : World) (h : OwnSwU B U w (.slice ao n cap) L) (hn : L.length ≤ 1048576) :
    Calls Try.prog 40 #[.slice ao n cap, .int .i64 1] w fun e w' => e = .returned (.int .i64 (1 + 2 * (L.length : Int))) ∧ Kept (fun b => B ≤ b ∧ b < U) w w' ∧ OwnSwU B U w' (.slice ao n cap) (swMarks 1 L.length) := by
  obtain ⟨ao', cap', e, h1, h2, h3⟩ := h
  simp only [Value.slice.injEq] at e
  obtain ⟨rfl, rfl, rfl⟩ := e
  by_cases hne : L = []
  · subst hne
    refine (markSw_nil ao cap 1 w).mono ?_
    rintro e w' ⟨rfl, rfl⟩
    exact ⟨rfl, Kept.refl _ _, ao, cap, by rw [swMarks_len], by rw [swMarks_len]; exact h1, h2, fun h => absurd rfl h⟩
  · obtain ⟨g, rfl, hg, hu, ho⟩ := h3 hne
    refine (markSw_any g cap L 1 w ho hn (by omega) (by omega)).mono ?_
    rintro e w' ⟨rfl, hk, ho'⟩
    exact ⟨rfl, hk.mono (fun b _ hb => by rw [hb]; exact ⟨hg, hu⟩), _, cap, by rw [swMarks_len], by rw [swMarks_len]; exact h1, h2, fun _ => ⟨g, rfl, hg, hu, ho'⟩⟩

theorem heldSwingS_v (v : Value) (M : List Sw) (W : World) (hW : SwIn W v (swMarks 1 M.length)) (hn : M.length ≤ 1048576) :
    Calls Try.prog 41 #[v, .int .i64 1] W fun e w' => e = .returned (.int .i64 (1 + 2 * (M.length : Int))) ∧ Below W.heap.size W w' := by
  refine (heldSw_any v M.length 1 W hW hn (by omega) (by omega)).mono ?_
  rintro e w' ⟨rfl, rfl⟩
  exact ⟨rfl, Below.refl _ _⟩

end Go.Proofs.Ytliodmahbdmcbaa

/- Contracts of the laws' own marks over lists of Fuel. Written by wip/mkmark.py. -/
import Derived.Test.YtblkbonedgofiaaDoorWalkF
import Derived.Test.YtblkbonedgofiaaDoorRecs
import Derived.Test.YtblkbonedgofiaaDoorKept
namespace Go.Proofs.YtblkbonedgofiaaDoor
open Go.RowKit

set_option maxHeartbeats 400000 in
theorem markFuelS_any (g cap n : Nat) (vs : List Value) (k : Int) (w : World) (h : OwnV w g vs) (hv : n * 2 ≤ vs.length) (hn : n ≤ 1048576) (hk0 : 0 ≤ k) (hk1 : k ≤ 4611686018427387904) :
    Calls Tryd.prog 16 #[.slice (some ⟨g, 0, none⟩) n cap, .int .i64 k] w fun e w' => e = .returned (.int .i64 (k + 2 * (n : Int))) ∧ Kept (fun b => b = g) w w' ∧ OwnV w' g (ints ((List.range (n * 2)).map fun i : Nat => k + (i : Int))) := by
  have HM0 := hide (MarkC.start (k := k) h hv)
  clear h hv
  go_enter Tryd.func16, Tryd.ntmps16
  go_wp2
  go_loopg [1, 5] n (fun gh kv iv wr => ∃ j : Nat, j ≤ n ∧ gh = n - j ∧ iv = .int .i64 j ∧ kv = .int .i64 (k + 2 * (j : Int)) ∧ Kept (fun b => b = g) w wr ∧ MarkC g k (n * 2) (j * 2) wr)
  case atStart => exact ⟨0, Nat.zero_le _, rfl, rfl, by congr 1; omega, Kept.refl _ _, by rw [Nat.zero_mul]; exact unhide HM0⟩
  case round =>
    obtain ⟨j, hj, rfl, rfl, rfl, hK, hM⟩ := hrel
    clear HM0
    by_cases hjn : j < n
    · have hf := hM.frozen
      obtain ⟨u0', hu0⟩ := hM.cell (q := j * 2) (by omega)
      obtain ⟨u1', hu1⟩ := hM.cell (q := j * 2 + 1) (by omega)
      have HM := hide hM
      have HK := hide hK
      clear hM hK
      go_wp2
      go_roundg (n - (j + 1))
      case measure => omega
      case rel =>
        have s0 := (unhide HM).set (v := k + 2 * (j : Int)) (by omega) (by omega)
        have s1 := s0.set (v := k + 2 * (j : Int) + 1) (by omega) (by omega)
        refine ⟨j + 1, by omega, rfl, by go_num, by congr 1; omega, (((unhide HK).setCell (p := ⟨g, j * 2, none⟩) rfl _).setCell (p := ⟨g, j * 2 + 1, none⟩) rfl _), ?_⟩
        rw [show (j + 1) * 2 = j * 2 + 2 by omega]
        exact s1
    · have hjj : j = n := by omega
      subst hjj
      go_wp2
      go_ret
      exact ⟨rfl, hK, hM.done⟩

set_option maxHeartbeats 400000 in
theorem heldFuelS_any (g cap n : Nat) (k : Int) (w : World) (h : OwnV w g (ints ((List.range (n * 2)).map fun i : Nat => k + (i : Int)))) (hn : n ≤ 1048576) (hk0 : 0 ≤ k) (hk1 : k ≤ 4611686018427387904) :
    Calls Tryd.prog 17 #[.slice (some ⟨g, 0, none⟩) n cap, .int .i64 k] w fun e w' => e = .returned (.int .i64 (k + 2 * (n : Int))) ∧ w = w' := by
  have H := hide h
  clear h
  go_enter Tryd.func17, Tryd.ntmps17
  go_wp2
  go_loopg [1, 5] n (fun gh kv iv wr => w = wr ∧ ∃ j : Nat, j ≤ n ∧ gh = n - j ∧ iv = .int .i64 j ∧ kv = .int .i64 (k + 2 * (j : Int)))
  case atStart => exact ⟨rfl, 0, Nat.zero_le _, rfl, rfl, by congr 1; omega⟩
  case round =>
    obtain ⟨rfl, j, hj, rfl, rfl, rfl⟩ := hrel
    by_cases hjn : j < n
    · have c0 : w.cell? ⟨g, j * 2, none⟩ = some (.int .i64 (k + 2 * (j : Int))) := by rw [marked_cell (unhide H) (q := j * 2) (by omega)]; congr 2; omega
      have c1 : w.cell? ⟨g, j * 2 + 1, none⟩ = some (.int .i64 (k + 2 * (j : Int) + 1)) := by rw [marked_cell (unhide H) (q := j * 2 + 1) (by omega)]; congr 2; omega
      go_wp2
      go_roundg (n - (j + 1))
      case measure => omega
      case rel => exact ⟨rfl, j + 1, by omega, rfl, by go_num, by congr 1; omega⟩
    · have hjj : j = n := by omega
      subst hjj
      go_wp2
      go_ret
      exact ⟨rfl, rfl⟩

end Go.Proofs.YtblkbonedgofiaaDoor

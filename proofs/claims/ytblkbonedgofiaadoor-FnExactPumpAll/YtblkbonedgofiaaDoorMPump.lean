/- Contracts of the laws' own marks over lists of Pump. Written by wip/mkmark.py. -/
import Derived.Test.YtblkbonedgofiaaDoorWalkF
import Derived.Test.YtblkbonedgofiaaDoorRecs
import Derived.Test.YtblkbonedgofiaaDoorKept
namespace Go.Proofs.YtblkbonedgofiaaDoor
open Go.RowKit

set_option maxHeartbeats 400000 in
theorem markPumpS_any (g cap n : Nat) (vs : List Value) (k : Int) (w : World) (h : OwnV w g vs) (hv : n * 3 ≤ vs.length) (hn : n ≤ 1048576) (hk0 : 0 ≤ k) (hk1 : k ≤ 4611686018427387904) :
    Calls Tryd.prog 23 #[.slice (some ⟨g, 0, none⟩) n cap, .int .i64 k] w fun e w' => e = .returned (.int .i64 (k + 3 * (n : Int))) ∧ Kept (fun b => b = g) w w' ∧ OwnV w' g (ints ((List.range (n * 3)).map fun i : Nat => k + (i : Int))) := by
  have HM0 := hide (MarkC.start (k := k) h hv)
  clear h hv
  go_enter Tryd.func23, Tryd.ntmps23
  go_wp2
  go_loopg [1, 5] n (fun gh kv iv wr => ∃ j : Nat, j ≤ n ∧ gh = n - j ∧ iv = .int .i64 j ∧ kv = .int .i64 (k + 3 * (j : Int)) ∧ Kept (fun b => b = g) w wr ∧ MarkC g k (n * 3) (j * 3) wr)
  case atStart => exact ⟨0, Nat.zero_le _, rfl, rfl, by congr 1; omega, Kept.refl _ _, by rw [Nat.zero_mul]; exact unhide HM0⟩
  case round =>
    obtain ⟨j, hj, rfl, rfl, rfl, hK, hM⟩ := hrel
    clear HM0
    by_cases hjn : j < n
    · have hf := hM.frozen
      obtain ⟨u0', hu0⟩ := hM.cell (q := j * 3) (by omega)
      obtain ⟨u1', hu1⟩ := hM.cell (q := j * 3 + 1) (by omega)
      obtain ⟨u2', hu2⟩ := hM.cell (q := j * 3 + 2) (by omega)
      have HM := hide hM
      have HK := hide hK
      clear hM hK
      go_wp2
      go_roundg (n - (j + 1))
      case measure => omega
      case rel =>
        have s0 := (unhide HM).set (v := k + 3 * (j : Int)) (by omega) (by omega)
        have s1 := s0.set (v := k + 3 * (j : Int) + 1) (by omega) (by omega)
        have s2 := s1.set (v := k + 3 * (j : Int) + 1 + 1) (by omega) (by omega)
        refine ⟨j + 1, by omega, rfl, by go_num, by congr 1; omega, ((((unhide HK).setCell (p := ⟨g, j * 3, none⟩) rfl _).setCell (p := ⟨g, j * 3 + 1, none⟩) rfl _).setCell (p := ⟨g, j * 3 + 2, none⟩) rfl _), ?_⟩
        rw [show (j + 1) * 3 = j * 3 + 3 by omega]
        exact s2
    · have hjj : j = n := by omega
      subst hjj
      go_wp2
      go_ret
      exact ⟨rfl, hK, hM.done⟩

end Go.Proofs.YtblkbonedgofiaaDoor

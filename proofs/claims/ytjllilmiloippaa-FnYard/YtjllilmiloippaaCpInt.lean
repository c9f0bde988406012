/- The contract of the program's ownCopy of Int. -/
import Derived.Test.YtjllilmiloippaaCpK
import Derived.Test.YtjllilmiloippaaWalkC
import Derived.Test.YtjllilmiloippaaExactKit
namespace Go.Proofs.Ytjllilmiloippaa
open Go.RowKit

set_option maxRecDepth 10000 in
theorem Try.infoIntCp : (Try.prog.info? 3).map (fun i => (i.zero, i.size, i.bytes)) = some (some (Value.int .i64 0), 1, 8) := by kernel_rfl

set_option maxHeartbeats 1600000 in
theorem ownCopyInt_any (ar : Option Addr) (m cr : Nat) (xs : List Int) (w : World) (h : IntsIn w (.slice ar m cr) xs) (hm : m ≤ 1048576) :
    Calls Try.prog 79 #[.slice ar m cr] w fun e w' => e = .returned (.slice (some ⟨w.heap.size, 0, none⟩) m m) ∧ OwnV w' w.heap.size (ints xs) ∧ Below w.heap.size w w' := by
  have hlen : xs.length = m := by
    obtain ⟨ao', cap', e, _⟩ := h
    simp only [Value.slice.injEq] at e
    exact e.2.1.symm
  have hmk := run_make_row' (P := Try.prog) 30 3 (.int .i64 0) 8 Try.underlying30 Try.infoIntCp rfl .i64 .i64 m (by omega) (by omega)
  obtain ⟨Z, eZ⟩ : ∃ Z, Z = #[Value.int .i64 0] := ⟨_, rfl⟩
  rw [← eZ] at hmk
  have hsz : (Try.prog.info? 3).map (·.size) = some 1 := by
    obtain ⟨i0, hi, -, hz1, -⟩ := info_parts Try.infoIntCp
    rw [hi, Option.map_some, hz1]
  have HSRC := hide (ints_src h)
  have HCS : Hid (((ints xs)).length = m) := by show _ = _; rw [ints_length, hlen]
  have H1 : Hid (∀ v ∈ (ints xs), v.oneCell' = true) := fun v hv => by
    obtain ⟨x, _, rfl⟩ := List.mem_map.1 hv; rfl
  have A := Below.alloc1 w (.cells (madeCells Z m) 3)
  have HW := hide A
  have O := ownV_alloc w (madeCells Z m) 3
  have HO := hide O
  have hzl : (madeCells Z m).toList.length = m := by simp [madeCells]
  have HZL := hide hzl
  have HSRC2 : Hid (0 < m → ∃ ad, ar = some ad ∧ ∀ j v, ((ints xs))[j]? = some v → (w.alloc (.cells (madeCells Z m) 3)).cell? (ad.add j) = some v) := fun hp => by
    obtain ⟨ad, e, hx⟩ := unhide HSRC hp
    exact ⟨ad, e, fun j v hj => ((A.cell (lt_of_cell (hx j v hj))).trans (hx j v hj))⟩
  obtain ⟨w1, hrun, hO1, hb1⟩ := run_copy_all 30 30 3 1 Try.underlying30 hsz w.heap.size m m ar cr _ _ (unhide HO) (by rw [unhide HZL, unhide HCS]) (by rw [Nat.mul_one]; exact unhide HCS) (unhide HSRC2) (unhide H1) w.heap.size w (unhide HW) (Nat.le_refl _)
  have HO1 := hide hO1
  have HW1 := hide hb1
  clear h eZ A O hzl HSRC hsz HO HW HSRC2 H1 HCS HZL hO1 hb1 hlen
  go_enter Try.func79, Try.ntmps79
  go_wp2
  go_ret
  exact ⟨rfl, unhide HO1, unhide HW1⟩

end Go.Proofs.Ytjllilmiloippaa

/- The contract of the program's ownCopy of Call. -/
import Derived.Test.YtogoknldhimgfaaCpK
import Derived.Test.YtogoknldhimgfaaRCall
import Derived.Test.YtogoknldhimgfaaExactKit
namespace Go.Proofs.Ytogoknldhimgfaa
open Go.RowKit

set_option maxRecDepth 10000 in
set_option maxHeartbeats 1600000 in
theorem ownCopyCall_any (ar : Option Addr) (m cr : Nat) (L : List CallT) (w : World) (h : RCall w (.slice ar m cr) L) (hm : m ≤ 1048576) :
    Calls Try.prog 55 #[.slice ar m cr] w fun e w' => e = .returned (.slice (some ⟨w.heap.size, 0, none⟩) m m) ∧ OwnV w' w.heap.size (recCells 5 eCall L) ∧ Below w.heap.size w w' := by
  have hlen : L.length = m := by
    obtain ⟨ao', cap', e, _⟩ := h
    simp only [Value.slice.injEq] at e
    exact e.2.1.symm
  have hmk := run_make_recs (P := Try.prog) 24 31 _ 5 40 Try.underlying24 Try.infoCall .i64 .i64 m (by omega) (by omega)
  obtain ⟨Z, eZ⟩ : ∃ Z, Z = (vCall 0 0 0 0 0).cells := ⟨_, rfl⟩
  rw [← eZ] at hmk
  have hsz : (Try.prog.info? 31).map (·.size) = some 5 := by
    obtain ⟨i0, hi, -, hz1, -⟩ := info_parts Try.infoCall
    rw [hi, Option.map_some, hz1]
  have HSRC := hide (recs_src h)
  have HCS : Hid (((recCells 5 eCall L)).length = (m * 5)) := by show _ = _; rw [recCells_length, hlen]
  have H1 : Hid (∀ v ∈ (recCells 5 eCall L), v.oneCell' = true) := fun v hv => by
    obtain ⟨q, _, rfl⟩ := List.mem_map.1 hv; have : q % 5 = 0 ∨ q % 5 = 1 ∨ q % 5 = 2 ∨ q % 5 = 3 ∨ q % 5 = 4 := by omega
    rcases this with e | e | e | e | e <;> rw [e] <;> rfl
  have A := Below.alloc1 w (.cells (madeCells Z (m * 5)) 31)
  have HW := hide A
  have O := ownV_alloc w (madeCells Z (m * 5)) 31
  have HO := hide O
  have hzl : (madeCells Z (m * 5)).toList.length = (m * 5) := by simp [madeCells]
  have HZL := hide hzl
  have HSRC2 : Hid (0 < m → ∃ ad, ar = some ad ∧ ∀ j v, ((recCells 5 eCall L))[j]? = some v → (w.alloc (.cells (madeCells Z (m * 5)) 31)).cell? (ad.add j) = some v) := fun hp => by
    obtain ⟨ad, e, hx⟩ := unhide HSRC hp
    exact ⟨ad, e, fun j v hj => ((A.cell (lt_of_cell (hx j v hj))).trans (hx j v hj))⟩
  obtain ⟨w1, hrun, hO1, hb1⟩ := run_copy_all 24 24 31 5 Try.underlying24 hsz w.heap.size m m ar cr _ _ (unhide HO) (by rw [unhide HZL, unhide HCS]) (unhide HCS) (unhide HSRC2) (unhide H1) w.heap.size w (unhide HW) (Nat.le_refl _)
  have HO1 := hide hO1
  have HW1 := hide hb1
  clear h eZ A O hzl HSRC hsz HO HW HSRC2 H1 HCS HZL hO1 hb1 hlen
  go_enter Try.func55, Try.ntmps55
  go_wp2
  go_ret
  exact ⟨rfl, unhide HO1, unhide HW1⟩

end Go.Proofs.Ytogoknldhimgfaa

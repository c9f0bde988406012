/- The contract of the program's ownCopy of Crane. -/
import Derived.Test.YtogoknldhimgfaaCpK
import Derived.Test.YtogoknldhimgfaaRCrane
import Derived.Test.YtogoknldhimgfaaExactKit
namespace Go.Proofs.Ytogoknldhimgfaa
open Go.RowKit

set_option maxRecDepth 10000 in
set_option maxHeartbeats 1600000 in
theorem ownCopyCrane_any (ar : Option Addr) (m cr : Nat) (L : List CraneT) (w : World) (h : RCrane w (.slice ar m cr) L) (hm : m ≤ 1048576) :
    Calls Try.prog 67 #[.slice ar m cr] w fun e w' => e = .returned (.slice (some ⟨w.heap.size, 0, none⟩) m m) ∧ OwnV w' w.heap.size (recCells 3 eCrane L) ∧ Below w.heap.size w w' := by
  have hlen : L.length = m := by
    obtain ⟨ao', cap', e, _⟩ := h
    simp only [Value.slice.injEq] at e
    exact e.2.1.symm
  have hmk := run_make_recs (P := Try.prog) 35 45 _ 3 24 Try.underlying35 Try.infoCrane .i64 .i64 m (by omega) (by omega)
  obtain ⟨Z, eZ⟩ : ∃ Z, Z = (vCrane 0 0 0).cells := ⟨_, rfl⟩
  rw [← eZ] at hmk
  have hsz : (Try.prog.info? 45).map (·.size) = some 3 := by
    obtain ⟨i0, hi, -, hz1, -⟩ := info_parts Try.infoCrane
    rw [hi, Option.map_some, hz1]
  have HSRC := hide (recs_src h)
  have HCS : Hid (((recCells 3 eCrane L)).length = (m * 3)) := by show _ = _; rw [recCells_length, hlen]
  have H1 : Hid (∀ v ∈ (recCells 3 eCrane L), v.oneCell' = true) := fun v hv => by
    obtain ⟨q, _, rfl⟩ := List.mem_map.1 hv; have : q % 3 = 0 ∨ q % 3 = 1 ∨ q % 3 = 2 := by omega
    rcases this with e | e | e <;> rw [e] <;> rfl
  have A := Below.alloc1 w (.cells (madeCells Z (m * 3)) 45)
  have HW := hide A
  have O := ownV_alloc w (madeCells Z (m * 3)) 45
  have HO := hide O
  have hzl : (madeCells Z (m * 3)).toList.length = (m * 3) := by simp [madeCells]
  have HZL := hide hzl
  have HSRC2 : Hid (0 < m → ∃ ad, ar = some ad ∧ ∀ j v, ((recCells 3 eCrane L))[j]? = some v → (w.alloc (.cells (madeCells Z (m * 3)) 45)).cell? (ad.add j) = some v) := fun hp => by
    obtain ⟨ad, e, hx⟩ := unhide HSRC hp
    exact ⟨ad, e, fun j v hj => ((A.cell (lt_of_cell (hx j v hj))).trans (hx j v hj))⟩
  obtain ⟨w1, hrun, hO1, hb1⟩ := run_copy_all 35 35 45 3 Try.underlying35 hsz w.heap.size m m ar cr _ _ (unhide HO) (by rw [unhide HZL, unhide HCS]) (unhide HCS) (unhide HSRC2) (unhide H1) w.heap.size w (unhide HW) (Nat.le_refl _)
  have HO1 := hide hO1
  have HW1 := hide hb1
  clear h eZ A O hzl HSRC hsz HO HW HSRC2 H1 HCS HZL hO1 hb1 hlen
  go_enter Try.func67, Try.ntmps67
  go_wp2
  go_ret
  exact ⟨rfl, unhide HO1, unhide HW1⟩

end Go.Proofs.Ytogoknldhimgfaa

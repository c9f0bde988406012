/- The program's cargoTanksOf: a list laid into twelve tanks. -/
import Derived.Test.YtfokocpdngokfaaCgB
namespace Go.Proofs.Ytfokocpdngokfaa
open Go.RowKit

theorem run_copy_d {P : Program} (w : World) (dT sT ty elem : TypeId) (k : Nat) (g D n dCap : Nat) (a : Addr) (sCap : Nat) (cur : Array Value) (t : TypeId) (cs : List Value)
    (hu : P.underlying dT = some (.slice elem)) (hs : (P.info? elem).map (·.size) = some k)
    (hg : w.heap[g]? = some (.cells cur t (0, 0))) (hn : cs.length = n * k) (hD : n ≤ D)
    (hsrc : ∀ j v, cs[j]? = some v → w.cell? (a.add j) = some v) (hfit : cs.length ≤ cur.size) (h1 : ∀ v ∈ cs, v.oneCell' = true) :
    (Builtin.copy_ #[dT, sT] ty #[.slice (some ⟨g, 0, none⟩) D dCap, .slice (some a) n sCap]).run P w =
      .ok (goInt n) (w.setRow g (cs ++ cur.toList.drop cs.length).toArray) := by
  have hl := run_loadCells_list (P := P) w a cs hsrc
  have hst := run_storeCells_at P g 0 t cs 0 cur w hg (by simpa using hfit) h1
  simp only [Nat.zero_add, List.take_zero, List.nil_append] at hst
  cases hq : P.info? elem with
  | none => simp [hq] at hs
  | some i =>
    have hi : i.size = k := by simpa [hq] using hs
    have hmin : Nat.min n D = n := Nat.min_eq_left hD
    simp [Builtin.copy_, run_underlying hu, Builtin.lenOf, Builtin.firstCells, sizeOf, typeInfo, hq, hi, hmin, ← hn, hl, hst]
theorem pad_cells {L : List CargoTankT} (h : L.length ≤ 12) : (recCells 5 eCargoTank L ++ (arC (pad [])).toList.drop (recCells 5 eCargoTank L).length).toArray = arC (pad L) := by
  have e : pad [] = List.replicate L.length default ++ List.replicate (12 - L.length) default := by
    unfold pad
    rw [List.nil_append, List.length_nil, List.replicate_append_replicate]
    congr 1
    omega
  unfold arC
  rw [e]
  unfold pad
  rw [recCells_append 5 (by omega), recCells_append 5 (by omega)]
  rw [show (recCells 5 eCargoTank L).length = (recCells 5 eCargoTank (List.replicate L.length default)).length by simp [recCells_length]]
  rw [List.toList_toArray, List.drop_left]

set_option maxRecDepth 100000 in
set_option maxHeartbeats 4000000 in
theorem cargoTanksOf_any (ar : Option Addr) (m cr : Nat) (L : List CargoTankT) (w : World) (h : RCargoTank w (.slice ar m cr) L) (h1 : 1 ≤ m) (h12 : m ≤ 12) :
    Calls Try.prog 45 #[.slice ar m cr] w fun e w' => e = .returned (.agg (arC (pad L))) ∧ Below w.heap.size w w' := by
  have hlen : L.length = m := by
    obtain ⟨ao', cap', e, _⟩ := h
    simp only [Value.slice.injEq] at e
    exact e.2.1.symm
  have b1 := Below.alloc1 w (.cells #[.int .i64 0, .int .i64 0, .int .i64 0, .int .i64 0, .int .i64 0, .int .i64 0, .int .i64 0, .int .i64 0, .int .i64 0, .int .i64 0, .int .i64 0, .int .i64 0, .int .i64 0, .int .i64 0, .int .i64 0, .int .i64 0, .int .i64 0, .int .i64 0, .int .i64 0, .int .i64 0, .int .i64 0, .int .i64 0, .int .i64 0, .int .i64 0, .int .i64 0, .int .i64 0, .int .i64 0, .int .i64 0, .int .i64 0, .int .i64 0, .int .i64 0, .int .i64 0, .int .i64 0, .int .i64 0, .int .i64 0, .int .i64 0, .int .i64 0, .int .i64 0, .int .i64 0, .int .i64 0, .int .i64 0, .int .i64 0, .int .i64 0, .int .i64 0, .int .i64 0, .int .i64 0, .int .i64 0, .int .i64 0, .int .i64 0, .int .i64 0, .int .i64 0, .int .i64 0, .int .i64 0, .int .i64 0, .int .i64 0, .int .i64 0, .int .i64 0, .int .i64 0, .int .i64 0, .int .i64 0] 76)
  have z1 := arrT_zero w
  have b2 := Below.alloc1 (w.alloc (.cells #[.int .i64 0, .int .i64 0, .int .i64 0, .int .i64 0, .int .i64 0, .int .i64 0, .int .i64 0, .int .i64 0, .int .i64 0, .int .i64 0, .int .i64 0, .int .i64 0, .int .i64 0, .int .i64 0, .int .i64 0, .int .i64 0, .int .i64 0, .int .i64 0, .int .i64 0, .int .i64 0, .int .i64 0, .int .i64 0, .int .i64 0, .int .i64 0, .int .i64 0, .int .i64 0, .int .i64 0, .int .i64 0, .int .i64 0, .int .i64 0, .int .i64 0, .int .i64 0, .int .i64 0, .int .i64 0, .int .i64 0, .int .i64 0, .int .i64 0, .int .i64 0, .int .i64 0, .int .i64 0, .int .i64 0, .int .i64 0, .int .i64 0, .int .i64 0, .int .i64 0, .int .i64 0, .int .i64 0, .int .i64 0, .int .i64 0, .int .i64 0, .int .i64 0, .int .i64 0, .int .i64 0, .int .i64 0, .int .i64 0, .int .i64 0, .int .i64 0, .int .i64 0, .int .i64 0, .int .i64 0] 76)) (.cells #[.int .i64 0, .int .i64 0, .int .i64 0, .int .i64 0, .int .i64 0, .int .i64 0, .int .i64 0, .int .i64 0, .int .i64 0, .int .i64 0, .int .i64 0, .int .i64 0, .int .i64 0, .int .i64 0, .int .i64 0, .int .i64 0, .int .i64 0, .int .i64 0, .int .i64 0, .int .i64 0, .int .i64 0, .int .i64 0, .int .i64 0, .int .i64 0, .int .i64 0, .int .i64 0, .int .i64 0, .int .i64 0, .int .i64 0, .int .i64 0, .int .i64 0, .int .i64 0, .int .i64 0, .int .i64 0, .int .i64 0, .int .i64 0, .int .i64 0, .int .i64 0, .int .i64 0, .int .i64 0, .int .i64 0, .int .i64 0, .int .i64 0, .int .i64 0, .int .i64 0, .int .i64 0, .int .i64 0, .int .i64 0, .int .i64 0, .int .i64 0, .int .i64 0, .int .i64 0, .int .i64 0, .int .i64 0, .int .i64 0, .int .i64 0, .int .i64 0, .int .i64 0, .int .i64 0, .int .i64 0] 76)
  have z2 := arrT_zero (w.alloc (.cells #[.int .i64 0, .int .i64 0, .int .i64 0, .int .i64 0, .int .i64 0, .int .i64 0, .int .i64 0, .int .i64 0, .int .i64 0, .int .i64 0, .int .i64 0, .int .i64 0, .int .i64 0, .int .i64 0, .int .i64 0, .int .i64 0, .int .i64 0, .int .i64 0, .int .i64 0, .int .i64 0, .int .i64 0, .int .i64 0, .int .i64 0, .int .i64 0, .int .i64 0, .int .i64 0, .int .i64 0, .int .i64 0, .int .i64 0, .int .i64 0, .int .i64 0, .int .i64 0, .int .i64 0, .int .i64 0, .int .i64 0, .int .i64 0, .int .i64 0, .int .i64 0, .int .i64 0, .int .i64 0, .int .i64 0, .int .i64 0, .int .i64 0, .int .i64 0, .int .i64 0, .int .i64 0, .int .i64 0, .int .i64 0, .int .i64 0, .int .i64 0, .int .i64 0, .int .i64 0, .int .i64 0, .int .i64 0, .int .i64 0, .int .i64 0, .int .i64 0, .int .i64 0, .int .i64 0, .int .i64 0] 76))
  simp only [World.size_alloc] at z2
  obtain ⟨V, eV⟩ : ∃ z, z = (w.alloc (.cells #[.int .i64 0, .int .i64 0, .int .i64 0, .int .i64 0, .int .i64 0, .int .i64 0, .int .i64 0, .int .i64 0, .int .i64 0, .int .i64 0, .int .i64 0, .int .i64 0, .int .i64 0, .int .i64 0, .int .i64 0, .int .i64 0, .int .i64 0, .int .i64 0, .int .i64 0, .int .i64 0, .int .i64 0, .int .i64 0, .int .i64 0, .int .i64 0, .int .i64 0, .int .i64 0, .int .i64 0, .int .i64 0, .int .i64 0, .int .i64 0, .int .i64 0, .int .i64 0, .int .i64 0, .int .i64 0, .int .i64 0, .int .i64 0, .int .i64 0, .int .i64 0, .int .i64 0, .int .i64 0, .int .i64 0, .int .i64 0, .int .i64 0, .int .i64 0, .int .i64 0, .int .i64 0, .int .i64 0, .int .i64 0, .int .i64 0, .int .i64 0, .int .i64 0, .int .i64 0, .int .i64 0, .int .i64 0, .int .i64 0, .int .i64 0, .int .i64 0, .int .i64 0, .int .i64 0, .int .i64 0] 76)).alloc (.cells #[.int .i64 0, .int .i64 0, .int .i64 0, .int .i64 0, .int .i64 0, .int .i64 0, .int .i64 0, .int .i64 0, .int .i64 0, .int .i64 0, .int .i64 0, .int .i64 0, .int .i64 0, .int .i64 0, .int .i64 0, .int .i64 0, .int .i64 0, .int .i64 0, .int .i64 0, .int .i64 0, .int .i64 0, .int .i64 0, .int .i64 0, .int .i64 0, .int .i64 0, .int .i64 0, .int .i64 0, .int .i64 0, .int .i64 0, .int .i64 0, .int .i64 0, .int .i64 0, .int .i64 0, .int .i64 0, .int .i64 0, .int .i64 0, .int .i64 0, .int .i64 0, .int .i64 0, .int .i64 0, .int .i64 0, .int .i64 0, .int .i64 0, .int .i64 0, .int .i64 0, .int .i64 0, .int .i64 0, .int .i64 0, .int .i64 0, .int .i64 0, .int .i64 0, .int .i64 0, .int .i64 0, .int .i64 0, .int .i64 0, .int .i64 0, .int .i64 0, .int .i64 0, .int .i64 0, .int .i64 0] 76) := ⟨_, rfl⟩
  have hW := Below.step b1 b2
  have hz1 := z1.step b2
  rw [← eV] at hW hz1 z2
  obtain ⟨g2, e2⟩ : ∃ z, z = w.heap.size := ⟨_, rfl⟩
  obtain ⟨g3, e3⟩ : ∃ z, z = w.heap.size + 1 := ⟨_, rfl⟩
  rw [← e2] at hz1
  rw [← e3] at z2
  obtain ⟨ad, rfl, hsr⟩ := recs_src (h.below hW) (by omega)
  have hsz : (Try.prog.info? 33).map (·.size) = some 5 := by kernel_rfl
  have hrun := fun ty => run_copy_d (P := Try.prog) V 24 24 ty 33 5 g3 12 m 12 ad cr _ _ (recCells 5 eCargoTank L) Try.underlying24 hsz z2.1 (by rw [recCells_length, hlen]) h12 hsr (by rw [recCells_length, hlen, arC_size rfl]; omega) (tyTank.cells L)
  rw [pad_cells (by omega)] at hrun
  have hp : (pad L).length = 12 := pad_len (by omega)
  have HT := hide (z2.row hp)
  have HZ := hide (hz1.otherRow (g' := g3) (by omega) (arC (pad L)))
  have HW := hide (below_setRow' hW (show w.heap.size ≤ g3 by omega) (arC (pad L)))
  have hB2 : w.heap.size ≤ g2 := by omega
  obtain ⟨V1, eV1⟩ : ∃ z, z = V.setRow g3 (arC (pad L)) := ⟨_, rfl⟩
  rw [← eV1] at hrun HT HZ HW
  clear h b1 z1 b2 hW hsr hsz hlen hz1 z2 eV1
  go_enter Try.func45, Try.ntmps45
  go_upto_region 2 with (fail)
  rw [← eV, ← e3, ← e2]
  clear eV e3 e2
  go_upto_region 3 with (fail)
  go_step
  refine wpList_loadW rfl _ _ rfl ⟨g3, 0, none⟩ rfl _ (unhide HT).load ?_
  refine wpList_storeW rfl _ _ _ rfl ⟨g2, 0, none⟩ rfl _ rfl ((unhide HZ).store hp) ?_
  have hld := ((unhide HZ).row hp).load
  go_wp2
  refine bodyPost_ret (v := .agg (arC (pad L))) (results_cell Try.results45 rfl hld) rfl ⟨rfl, below_setRow' (unhide HW) hB2 _⟩

end Go.Proofs.Ytfokocpdngokfaa

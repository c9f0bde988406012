/- The program's cargoDeeds: a map of five functions. -/
import Derived.Test.YtfokocpdngokfaaCgM
import Derived.Test.YtfokocpdngokfaaKept
import Derived.Deep.DeepCutAuto
import Derived.ChangeMaps5
namespace Go.Proofs.Ytfokocpdngokfaa
open Go.RowKit

theorem und_deeds : Try.prog.underlying 70 = some (.map 3 68) := by kernel_rfl
theorem ck_deeds (W : World) (e : Bool) (k : Int) : (Instr.checkKey e 10000 3 (.int .i64 k)).run Try.prog W = .ok () W := by kernel_rfl
def mE (k : Int) (v : Value) (c : Nat) : MapEntry := { key := .int .i64 k, val := v, born := c }
theorem map_upd {W : World} {b : Nat} {es : List MapEntry} {c : Nat} (h : W.heap[b]? = some (.map es.toArray c)) (k : Int) (v : Value) (hn : Instr.findNow (.int .i64) (.int .i64 k) es 0 = some none) :
    ∃ W', (Instr.mapUpdate 70 (.map (some b)) (.int .i64 k) v).run Try.prog W = .ok () W' ∧ W'.heap[b]? = some (.map (es ++ [mE k v c]).toArray (c + 1)) ∧ Kept (fun x => x = b) W W' := by
  have hf : (Instr.findKey 3 (.int .i64 k) es).run Try.prog W = .ok none W := by
    simp [Instr.findKey, run_underlying Try.underlying3, hn]
  refine ⟨Go.ChangeMaps.setBlock W b (.map (es ++ [mE k v c]).toArray (c + 1)), ?_, Go.ChangeMaps.heap_setBlock_same h _, ⟨rfl, rfl, rfl, by simp [Go.ChangeMaps.setBlock], fun i _ hi => Go.ChangeMaps.heap_setBlock_other h _ hi⟩⟩
  simp [Instr.mapUpdate, run_underlying und_deeds, MapKept.run_getObj_map h, ck_deeds, hf, MapKept.run_setObj_map _ h, Go.ChangeMaps.setBlock, mE]
/-- A function told by its number. -/
abbrev fnV (F : Nat) : Value := .func (.func F) #[] #[]
def DeedM (W : World) (b : Nat) : Prop := W.heap[b]? = some (.map [mE 1 (fnV 63) 0, mE 2 (fnV 64) 1, mE 3 (fnV 65) 2, mE 4 (fnV 66) 3, mE 5 (fnV 67) 4].toArray 5)
theorem run_mk (W : World) : (Instr.makeMap 70 none).run Try.prog W = .ok (.map (some W.heap.size)) (W.alloc (.map #[] 0)) := by kernel_rfl
theorem look_deed {W : World} {b : Nat} (h : DeedM W b) (k : Int) : (Instr.lookup 70 (.map (some b)) (.int .i64 k) true).run Try.prog W = .ok (.tuple #[if k = 1 then fnV 63 else if k = 2 then fnV 64 else if k = 3 then fnV 65 else if k = 4 then fnV 66 else if k = 5 then fnV 67 else .nilFunc, .bool (inB k 1 5)]) W := by
  have hk : k = 1 ∨ k = 2 ∨ k = 3 ∨ k = 4 ∨ k = 5 ∨ (k ≠ 1 ∧ k ≠ 2 ∧ k ≠ 3 ∧ k ≠ 4 ∧ k ≠ 5) := by omega
  rcases hk with rfl | rfl | rfl | rfl | rfl | ⟨h1, h2, h3, h4, h5⟩
  iterate 5 (simp [Instr.lookup, run_underlying und_deeds, MapKept.run_getObj_map h, ck_deeds, Instr.findKey, run_underlying Try.underlying3, Instr.findNow, Instr.sameNow, mE, inB])
  have hin : inB k 1 5 = false := by simp [inB]; omega
  rw [hin, if_neg h1, if_neg h2, if_neg h3, if_neg h4, if_neg h5]
  have e1 : (k == 1) = false := by simpa using h1
  have e2 : (k == 2) = false := by simpa using h2
  have e3 : (k == 3) = false := by simpa using h3
  have e4 : (k == 4) = false := by simpa using h4
  have e5 : (k == 5) = false := by simpa using h5
  simp [Instr.lookup, run_underlying und_deeds, MapKept.run_getObj_map h, ck_deeds, Instr.findKey, run_underlying Try.underlying3, Instr.findNow, Instr.sameNow, mE, e1, e2, e3, e4, e5, Try.zeroValue68]

set_option maxRecDepth 10000 in
set_option maxHeartbeats 4000000 in
theorem cargoDeeds_any (w : World) : Calls Try.prog 41 #[] w fun e w' => ∃ b, e = .returned (.map (some b)) ∧ DeedM w' b ∧ Below w.heap.size w w' := by
  have hmk := run_mk w
  have h0 : (w.alloc (.map #[] 0)).heap[w.heap.size]? = some (.map ([] : List MapEntry).toArray 0) := Go.Deep.blk_alloc_new _ _
  have k0 := Below.alloc1 w (.map #[] 0)
  obtain ⟨W1, r1, h1, k1⟩ := map_upd h0 1 (fnV 63) rfl
  obtain ⟨W2, r2, h2, k2⟩ := map_upd h1 2 (fnV 64) (by simp [mE, Instr.findNow, Instr.sameNow])
  obtain ⟨W3, r3, h3, k3⟩ := map_upd h2 3 (fnV 65) (by simp [mE, Instr.findNow, Instr.sameNow])
  obtain ⟨W4, r4, h4, k4⟩ := map_upd h3 4 (fnV 66) (by simp [mE, Instr.findNow, Instr.sameNow])
  obtain ⟨W5, r5, h5, k5⟩ := map_upd h4 5 (fnV 67) (by simp [mE, Instr.findNow, Instr.sameNow])
  have HD : Hid (DeedM W5 w.heap.size) := h5
  have HW := hide (k0.trans ((k1.trans (k2.trans (k3.trans (k4.trans k5)))).below (B := w.heap.size) k0.size (fun b e => by omega)))
  clear h0 h1 h2 h3 h4 h5 k0 k1 k2 k3 k4 k5
  go_enter Try.func41, Try.ntmps41
  go_wp2
  go_ret
  exact ⟨_, rfl, unhide HD, unhide HW⟩

end Go.Proofs.Ytfokocpdngokfaa

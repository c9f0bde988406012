/- Twelve tanks as an array: how it is read, written, copied as a whole. No statement about the program stands here. -/
import Derived.Test.YtfokocpdngokfaaCgT
import Derived.Test.YtfokocpdngokfaaKept
import Derived.Laws.Tables
import Derived.Laws.CopyOwn
namespace Go.Proofs.Ytfokocpdngokfaa
open Go.RowKit

theorem wpList_loadW {P : Program} {ops : Array Oper} {rest : List Oper} {o : Oper} {a : Act} {w : World} {Q : Exit → Act → World → Prop} (hg : o.guard = none) (x : Operand) (t : TypeId) (ho : o.op = .load t x) (ad : Addr) (hx : a.eval x = .pointer (some ad)) (v : Value) (hl : (loadVar t ad).run P w = .ok v w)
    (h : wpList P ops Q rest (a.put o.dst v) w) : wpList P ops Q (o :: rest) a w := by
  refine wpList_plain hg fun K hK => ?_
  unfold Oper.wp execOp
  simp only [ho, Instr.loadAt, Instr.sureAddr, hx, Sem.run_bind, Sem.run_pure, Result.andThen_ok, hl]
  exact hK _ _ h
theorem wpList_storeW {P : Program} {ops : Array Oper} {rest : List Oper} {o : Oper} {a : Act} {w w' : World} {Q : Exit → Act → World → Prop} (hg : o.guard = none) (x y : Operand) (t : TypeId) (ho : o.op = .store t x y) (ad : Addr) (hx : a.eval x = .pointer (some ad)) (v : Value) (hy : a.eval y = v) (hl : (storeVar t ad v).run P w = .ok () w')
    (h : wpList P ops Q rest (a.put o.dst undef) w') : wpList P ops Q (o :: rest) a w := by
  refine wpList_plain hg fun K hK => ?_
  unfold Oper.wp execOp
  simp only [ho, Instr.storeAt, Instr.sureAddr, hx, hy, Sem.run_bind, Sem.run_pure, Result.andThen_ok, hl]
  exact hK _ _ h
theorem infoArr : (Try.prog.info? 76).map (·.size) = some 60 := by kernel_rfl
theorem undArr : Try.prog.underlying 76 = some (.array 12 33) := by kernel_rfl

/-- The cells of twelve tanks. -/
def arC (M : List CargoTankT) : Array Value := (recCells 5 eCargoTank M).toArray
theorem zeroArr : (#[.int .i64 0, .int .i64 0, .int .i64 0, .int .i64 0, .int .i64 0, .int .i64 0, .int .i64 0, .int .i64 0, .int .i64 0, .int .i64 0, .int .i64 0, .int .i64 0, .int .i64 0, .int .i64 0, .int .i64 0, .int .i64 0, .int .i64 0, .int .i64 0, .int .i64 0, .int .i64 0, .int .i64 0, .int .i64 0, .int .i64 0, .int .i64 0, .int .i64 0, .int .i64 0, .int .i64 0, .int .i64 0, .int .i64 0, .int .i64 0, .int .i64 0, .int .i64 0, .int .i64 0, .int .i64 0, .int .i64 0, .int .i64 0, .int .i64 0, .int .i64 0, .int .i64 0, .int .i64 0, .int .i64 0, .int .i64 0, .int .i64 0, .int .i64 0, .int .i64 0, .int .i64 0, .int .i64 0, .int .i64 0, .int .i64 0, .int .i64 0, .int .i64 0, .int .i64 0, .int .i64 0, .int .i64 0, .int .i64 0, .int .i64 0, .int .i64 0, .int .i64 0, .int .i64 0, .int .i64 0] : Array Value) = arC (pad []) := by kernel_rfl
theorem arC_size {M : List CargoTankT} (h : M.length = 12) : (arC M).size = 60 := by simp [arC, recCells_length, h]
theorem arC_one (M : List CargoTankT) : (arC M).all (·.oneCell') = true := by
  rw [Array.all_eq_true_iff_forall_mem]
  intro u hu
  unfold arC at hu
  exact tyTank.cells M u (by simpa using hu)
/-- The array at block g is M. -/
def ArrT (W : World) (g : Nat) (M : List CargoTankT) : Prop := W.heap[g]? = some (.cells (arC M) 76 (0, 0)) ∧ M.length = 12
theorem ArrT.own {W : World} {g : Nat} {M : List CargoTankT} (h : ArrT W g M) : OwnV W g (recCells 5 eCargoTank M) := ⟨_, _, h.1, fun i _ => by simp [arC]⟩
theorem ArrT.lt {W : World} {g : Nat} {M : List CargoTankT} (h : ArrT W g M) : g < W.heap.size := (Array.getElem?_eq_some_iff.1 h.1).1
theorem ArrT.step {W W' : World} {g : Nat} {M : List CargoTankT} (h : ArrT W g M) (hb : Below W.heap.size W W') : ArrT W' g M := ⟨by rw [hb.block g h.lt]; exact h.1, h.2⟩
theorem ArrT.drew {W : World} {g : Nat} {M : List CargoTankT} (h : ArrT W g M) : ArrT W.drew g M := h
theorem ArrT.kept {T : Nat → Prop} {W W' : World} {g : Nat} {M : List CargoTankT} (h : ArrT W g M) (hk : Kept T W W') (hg : ¬ T g) : ArrT W' g M := ⟨(hk.block g h.lt hg).trans h.1, h.2⟩
theorem ArrT.other {W : World} {g : Nat} {M : List CargoTankT} (h : ArrT W g M) {g' i : Nat} (hne : g ≠ g') (u : Value) : ArrT (W.setCell ⟨g', i, none⟩ u) g M := ⟨by
  rw [Go.Deep.blk_setCell_other W ⟨g', i, none⟩ u g hne]
  exact h.1, h.2⟩
theorem ArrT.otherRow {W : World} {g : Nat} {M : List CargoTankT} (h : ArrT W g M) {g' : Nat} (hne : g ≠ g') (cs : Array Value) : ArrT (W.setRow g' cs) g M := ⟨by
  unfold World.setRow
  rw [show (W.heap.modify g' _)[g]? = W.heap[g]? from by rw [Array.getElem?_modify, if_neg (fun e => hne e.symm)]]
  exact h.1, h.2⟩
theorem ArrT.cells {W : World} {g i : Nat} {M : List CargoTankT} (h : ArrT W g M) (hi : i < 12) {x0 x1 x2 x3 x4 : Int} (e : tkA M i = (x0, x1, x2, x3, x4)) :
    W.cell? ⟨g, i * 5, none⟩ = some (.int .i64 x0) ∧ W.cell? ⟨g, i * 5 + 1, none⟩ = some (.int .i64 x1) ∧ W.cell? ⟨g, i * 5 + 2, none⟩ = some (.int .i64 x2) ∧ W.cell? ⟨g, i * 5 + 3, none⟩ = some (.int .i64 x3) ∧ W.cell? ⟨g, i * 5 + 4, none⟩ = some (.int .i64 x4) := by
  have hl : i < M.length := by rw [h.2]; exact hi
  have c : ∀ j, j < 5 → W.cell? ⟨g, i * 5 + j, none⟩ = some (eCargoTank (x0, x1, x2, x3, x4) j) := fun j hj => by
    have := h.own.cell (recCells_get (j := j) hl hj)
    rw [show M.getD i default = (x0, x1, x2, x3, x4) from e] at this
    exact this
  exact ⟨c 0 (by omega), c 1 (by omega), c 2 (by omega), c 3 (by omega), c 4 (by omega)⟩
theorem ArrT.frozen {W : World} {g : Nat} {M : List CargoTankT} (h : ArrT W g M) (q : Nat) : W.frozen? ⟨g, q, none⟩ = false := h.own.frozen q

theorem recCells_get5 {M : List CargoTankT} {q : Nat} (hq : q < M.length * 5) : (recCells 5 eCargoTank M)[q]? = some (eCargoTank (tkA M (q / 5)) (q % 5)) := by
  have h := recCells_get (enc := eCargoTank) (L := M) (n := 5) (i := q / 5) (j := q % 5) (by omega) (by omega)
  rwa [show q / 5 * 5 + q % 5 = q by omega] at h
/-- One cell written: one number of one tank. -/
theorem rec_set (M : List CargoTankT) {i j : Nat} (hj : j < 5) (y : CargoTankT) (h : ∀ j', j' < 5 → j' ≠ j → eCargoTank y j' = eCargoTank (tkA M i) j') :
    (recCells 5 eCargoTank M).set (i * 5 + j) (eCargoTank y j) = recCells 5 eCargoTank (M.set i y) := by
  apply List.ext_getElem?
  intro q
  by_cases hq : q < M.length * 5
  · rw [recCells_get5 (by rw [List.length_set]; exact hq), tk_set y (by omega)]
    by_cases hqi : q = i * 5 + j
    · subst hqi
      rw [List.getElem?_set_self (by rw [recCells_length]; exact hq), if_pos (by omega)]
      rw [show (i * 5 + j) % 5 = j by omega]
    · rw [List.getElem?_set_ne (fun e => hqi e.symm), recCells_get5 hq]
      by_cases hd : q / 5 = i
      · rw [if_pos hd, h (q % 5) (by omega) (by omega), hd]
      · rw [if_neg hd]
  · rw [List.getElem?_eq_none (by rw [List.length_set, recCells_length]; omega), List.getElem?_eq_none (by rw [recCells_length, List.length_set]; omega)]
theorem ArrT.put {W : World} {g i j : Nat} {M : List CargoTankT} (h : ArrT W g M) (hj : j < 5) (y : CargoTankT) (v : Value) (hv : eCargoTank y j = v) (hy : ∀ j', j' < 5 → j' ≠ j → eCargoTank y j' = eCargoTank (tkA M i) j') :
    ArrT (W.setCell ⟨g, i * 5 + j, none⟩ v) g (M.set i y) := ⟨by
  rw [heap_setCell_same W g _ _ _ _ h.1, ← hv]
  unfold arC
  rw [← rec_set M hj y hy]
  simp, by rw [List.length_set]; exact h.2⟩
theorem set_set (M : List CargoTankT) (i : Nat) (x y : CargoTankT) : (M.set i x).set i y = M.set i y := by simp
/-- A whole tank written. -/
theorem ArrT.put5 {W : World} {g i : Nat} {M : List CargoTankT} (h : ArrT W g M) (hi : i < 12) (y0 y1 y2 y3 y4 : Int) :
    ArrT (((((W.setCell ⟨g, i * 5, none⟩ (.int .i64 y0)).setCell ⟨g, i * 5 + 1, none⟩ (.int .i64 y1)).setCell ⟨g, i * 5 + 2, none⟩ (.int .i64 y2)).setCell ⟨g, i * 5 + 3, none⟩ (.int .i64 y3)).setCell ⟨g, i * 5 + 4, none⟩ (.int .i64 y4)) g (M.set i (y0, y1, y2, y3, y4)) := by
  have hl : i < M.length := by rw [h.2]; exact hi
  have e1 := h.put (i := i) (j := 0) (by omega) (y0, (tkA M i).2) (.int .i64 y0) rfl (fun j' h1 h2 => by
    have : j' = 1 ∨ j' = 2 ∨ j' = 3 ∨ j' = 4 := by omega
    rcases this with rfl | rfl | rfl | rfl <;> rfl)
  have t1 : tkA (M.set i (y0, (tkA M i).2)) i = (y0, (tkA M i).2) := by rw [tk_set _ hl, if_pos rfl]
  have e2 := e1.put (i := i) (j := 1) (by omega) (y0, y1, (tkA M i).2.2) (.int .i64 y1) rfl (fun j' h1 h2 => by
    rw [t1]
    have : j' = 0 ∨ j' = 2 ∨ j' = 3 ∨ j' = 4 := by omega
    rcases this with rfl | rfl | rfl | rfl <;> rfl)
  rw [set_set] at e2
  have t2 : tkA (M.set i (y0, y1, (tkA M i).2.2)) i = (y0, y1, (tkA M i).2.2) := by rw [tk_set _ hl, if_pos rfl]
  have e3 := e2.put (i := i) (j := 2) (by omega) (y0, y1, y2, (tkA M i).2.2.2) (.int .i64 y2) rfl (fun j' h1 h2 => by
    rw [t2]
    have : j' = 0 ∨ j' = 1 ∨ j' = 3 ∨ j' = 4 := by omega
    rcases this with rfl | rfl | rfl | rfl <;> rfl)
  rw [set_set] at e3
  have t3 : tkA (M.set i (y0, y1, y2, (tkA M i).2.2.2)) i = (y0, y1, y2, (tkA M i).2.2.2) := by rw [tk_set _ hl, if_pos rfl]
  have e4 := e3.put (i := i) (j := 3) (by omega) (y0, y1, y2, y3, (tkA M i).2.2.2.2) (.int .i64 y3) rfl (fun j' h1 h2 => by
    rw [t3]
    have : j' = 0 ∨ j' = 1 ∨ j' = 2 ∨ j' = 4 := by omega
    rcases this with rfl | rfl | rfl | rfl <;> rfl)
  rw [set_set] at e4
  have t4 : tkA (M.set i (y0, y1, y2, y3, (tkA M i).2.2.2.2)) i = (y0, y1, y2, y3, (tkA M i).2.2.2.2) := by rw [tk_set _ hl, if_pos rfl]
  have e5 := e4.put (i := i) (j := 4) (by omega) (y0, y1, y2, y3, y4) (.int .i64 y4) rfl (fun j' h1 h2 => by
    rw [t4]
    have : j' = 0 ∨ j' = 1 ∨ j' = 2 ∨ j' = 3 := by omega
    rcases this with rfl | rfl | rfl | rfl <;> rfl)
  rw [set_set] at e5
  exact e5
theorem ArrT.row {W : World} {g : Nat} {M N : List CargoTankT} (h : ArrT W g M) (hN : N.length = 12) : ArrT (W.setRow g (arC N)) g N := ⟨setRow_heap _ _ _ _ _ _ h.1, hN⟩
theorem ArrT.load {W : World} {g : Nat} {M : List CargoTankT} (h : ArrT W g M) : (loadVar 76 ⟨g, 0, none⟩).run Try.prog W = .ok (.agg (arC M)) W :=
  run_loadVar_row (P := Try.prog) W g _ _ _ _ _ h.1 undArr rfl (by rw [infoArr, arC_size h.2])
theorem ArrT.store {W : World} {g : Nat} {M N : List CargoTankT} (h : ArrT W g M) (hN : N.length = 12) : (storeVar 76 ⟨g, 0, none⟩ (.agg (arC N))).run Try.prog W = .ok () (W.setRow g (arC N)) :=
  run_storeVar_row (P := Try.prog) W g _ _ _ _ h.1 (by rw [infoArr, arC_size hN]) (by rw [arC_size h.2, arC_size hN]) (arC_one N)
theorem arrT_zero (W : World) : ArrT (W.alloc (.cells #[.int .i64 0, .int .i64 0, .int .i64 0, .int .i64 0, .int .i64 0, .int .i64 0, .int .i64 0, .int .i64 0, .int .i64 0, .int .i64 0, .int .i64 0, .int .i64 0, .int .i64 0, .int .i64 0, .int .i64 0, .int .i64 0, .int .i64 0, .int .i64 0, .int .i64 0, .int .i64 0, .int .i64 0, .int .i64 0, .int .i64 0, .int .i64 0, .int .i64 0, .int .i64 0, .int .i64 0, .int .i64 0, .int .i64 0, .int .i64 0, .int .i64 0, .int .i64 0, .int .i64 0, .int .i64 0, .int .i64 0, .int .i64 0, .int .i64 0, .int .i64 0, .int .i64 0, .int .i64 0, .int .i64 0, .int .i64 0, .int .i64 0, .int .i64 0, .int .i64 0, .int .i64 0, .int .i64 0, .int .i64 0, .int .i64 0, .int .i64 0, .int .i64 0, .int .i64 0, .int .i64 0, .int .i64 0, .int .i64 0, .int .i64 0, .int .i64 0, .int .i64 0, .int .i64 0, .int .i64 0] 76)) W.heap.size (pad []) := ⟨by rw [zeroArr]; exact Go.Deep.blk_alloc_new _ _, rfl⟩
theorem arrT_box (W : World) {M : List CargoTankT} (h : M.length = 12) : ArrT (W.alloc (.cells (arC M) 76)) W.heap.size M := ⟨Go.Deep.blk_alloc_new _ _, h⟩
theorem run_tank (V : World) {M : List CargoTankT} (hM : M.length = 12) {i : Nat} (hi : i < 12) {x0 x1 x2 x3 x4 : Int} (e : tkA M i = (x0, x1, x2, x3, x4)) :
    (Instr.index 76 (.agg (arC M)) (.int .i64 (i : Int))).run Try.prog V = .ok (.agg #[.int .i64 x0, .int .i64 x1, .int .i64 x2, .int .i64 x3, .int .i64 x4]) V := by
  have hs : (Try.prog.info? 33).map (·.size) = some 5 := by kernel_rfl
  obtain ⟨i0, hi0, hsz⟩ := Option.map_eq_some_iff.1 hs
  have hl : i < M.length := by rw [hM]; exact hi
  have hx : (arC M).extract (i * 5) (i * 5 + 5) = #[.int .i64 x0, .int .i64 x1, .int .i64 x2, .int .i64 x3, .int .i64 x4] := by
    have c : ∀ j, j < 5 → (arC M)[i * 5 + j]? = some (eCargoTank (x0, x1, x2, x3, x4) j) := fun j hj => by
      have := recCells_get (enc := eCargoTank) (L := M) (n := 5) (j := j) hl hj
      rw [show M.getD i default = (x0, x1, x2, x3, x4) from e] at this
      simpa [arC] using this
    apply Array.ext
    · simp [arC_size hM]; omega
    · intro j h1 h2
      have hj : j < 5 := by simpa using h2
      have hc := c j hj
      rw [Array.getElem?_eq_some_iff] at hc
      obtain ⟨hlt, hv⟩ := hc
      rw [Array.getElem_extract, hv]
      have : j = 0 ∨ j = 1 ∨ j = 2 ∨ j = 3 ∨ j = 4 := by omega
      rcases this with rfl | rfl | rfl | rfl | rfl <;> rfl
  simp [Instr.index, run_underlying undArr, asIntOf, part, sizeOf, typeInfo, hi0, hsz, hx, hi]

end Go.Proofs.Ytfokocpdngokfaa

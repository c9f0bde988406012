/- Channels that one goroutine alone uses: how a region goes on behind a send, a receive, a select of one send with a default. No statement about the program stands here. -/
import Derived.Test.YtogoknldhimgfaaWalkA
import Derived.Test.YtogoknldhimgfaaKept
import Derived.Conc.LoneSelect
import Derived.Deep.DeepCutAuto
import Derived.Deep.Cut
import Derived.BigRegion
namespace Go.Proofs.Ytogoknldhimgfaa
open Go.RowKit Go.Conc

/-- The operations l of a region are still to come. -/
def InReg (ops : Array Oper) (Q : Exit → Act → World → Prop) (l : List Nat) (a : Act) (w : World) : Prop :=
  ∀ (b : Frame) (k : List Item) (cs : List Frame), ∃ e a' w', Q e a' w' ∧ Arrives Try.prog (lone (b.at a (.inRegion ops l :: k)) cs w) b k cs e a' w'

section
variable {ops : Array Oper} {Q : Exit → Act → World → Prop} {a : Act} {w w' : World} {i : Nat} {rest : List Nat} {o : Oper} {v : Value}
theorem wp_inReg {id : Nat} (h : InReg ops Q (List.range ops.size) a w) : (Code.region id ops false).wp Try.prog Q a w :=
  fun b k cs => let ⟨e, a', w', q, r⟩ := h b k cs; ⟨e, a', w', q, .of_steps (.one step_region) r⟩
theorem inReg_nil (h : Q .normal a w) : InReg ops Q [] a w := fun _ _ _ => ⟨.normal, a, w, h, .one step_region_end⟩
theorem inReg_rest {l : List Nat} (h : wpOps Try.prog ops Q l a w) : InReg ops Q l a w := wp_ops l a w h
theorem inReg_step (ho : ops[i]? = some o) (hs : ∀ (b : Frame) (k : List Item) (cs : List Frame), step Try.prog (lone (b.at a (.inRegion ops (i :: rest) :: k)) cs w) = .next (lone ((b.at a (.inRegion ops (i :: rest) :: k)).finish v) cs w'))
    (h : InReg ops Q rest (a.put o.dst v) w') : InReg ops Q (i :: rest) a w := by
  intro b k cs
  obtain ⟨e, a', w'', hq, harr⟩ := h b k cs
  refine ⟨e, a', w'', hq, .of_steps (.one ?_) harr⟩
  rw [hs b k cs, Frame.finish_at, ho]
  rfl
theorem inReg_val (ho : ops[i]? = some o) (hw : Region.wanted o (yielded ops a.tmps) = true) (hr : (execOp a.eval o).run Try.prog w = .ok (.value v) w')
    (h : InReg ops Q rest (a.put o.dst v) w') : InReg ops Q (i :: rest) a w := by
  refine inReg_step ho (fun b k cs => step_lone_go ?_) h
  rw [stepG_op ho hw]
  simp [stepG.apply, hr]
theorem inReg_pure (ho : ops[i]? = some o) (hw : Region.wanted o (yielded ops a.tmps) = true) (hr : (execOp a.eval o).run Try.prog w = .ok (.value v) w) (h : InReg ops Q rest (a.put o.dst v) w) : InReg ops Q (i :: rest) a w := inReg_val ho hw hr h
theorem comm_ex {cases : Array CommCase} {blocking : Bool} {shape : CommShape} (ho : ops[i]? = some o) (hw : Region.wanted o (yielded ops a.tmps) = true) (hr : (execOp a.eval o).run Try.prog w = .ok (.comm cases blocking shape) w') (b : Frame) (k : List Item) (cs : List Frame) :
    ∃ es, stepG Try.prog true (G (b.at a (.inRegion ops (i :: rest) :: k)) cs) w = .comm (G (b.at a (.inRegion ops (i :: rest) :: k)) cs) cases blocking shape w' es := by
  unfold G
  rw [stepG_op ho hw]
  simp [stepG.apply, hr, GStep.after]
end

section
variable {ops : Array Oper} {Q : Exit → Act → World → Prop} {a : Act} {w : World} {i : Nat} {rest : List Nat} {o : Oper} {c cap s r : Nat} {buf : Array Value} {z v : Value} {closed tm : Bool}
/-- A receive from a buffer that holds something. -/
theorem inReg_recvBuf (ok : Bool) (ho : ops[i]? = some o) (hw : Region.wanted o (yielded ops a.tmps) = true) (hr : (execOp a.eval o).run Try.prog w = .ok (.comm #[rcase c z] true (.recv ok)) w)
    (hc : w.heap[c]? = some (.chan cap buf closed s r tm)) (hs : 0 < buf.size) (h : InReg ops Q rest (a.put o.dst (got ok (buf.getD 0 undef) true)) (w.setChan c cap (buf.extract 1 buf.size) closed s (r + 1) tm)) : InReg ops Q (i :: rest) a w := by
  refine inReg_step ho (fun b k cs => ?_) h
  obtain ⟨es, he⟩ := comm_ex (rest := rest) ho hw hr b k cs
  rw [lone_eq_solo, step_lone_recv_buf ok he hc hs]
  rfl
/-- A receive from a closed channel that holds nothing. -/
theorem inReg_recvShut (ok : Bool) (ho : ops[i]? = some o) (hw : Region.wanted o (yielded ops a.tmps) = true) (hr : (execOp a.eval o).run Try.prog w = .ok (.comm #[rcase c z] true (.recv ok)) w)
    (hc : w.heap[c]? = some (.chan cap #[] true s r tm)) (h : InReg ops Q rest (a.put o.dst (got ok z false)) w) : InReg ops Q (i :: rest) a w := by
  refine inReg_step ho (fun b k cs => ?_) h
  obtain ⟨es, he⟩ := comm_ex (rest := rest) ho hw hr b k cs
  rw [lone_eq_solo, step_lone_recv_shut ok he hc]
  rfl
/-- A select of one send, with a default: there is room. -/
theorem inReg_selRoom (ho : ops[i]? = some o) (hw : Region.wanted o (yielded ops a.tmps) = true) (hr : (execOp a.eval o).run Try.prog w = .ok (.comm #[scase c v z] false .select) w)
    (hc : w.heap[c]? = some (.chan cap buf false s r tm)) (hs : buf.size < cap) (h : InReg ops Q rest (a.put o.dst (.tuple #[goInt 0, .bool false])) (w.setChan c cap (buf.push v) false (s + 1) r tm)) : InReg ops Q (i :: rest) a w := by
  refine inReg_step ho (fun b k cs => ?_) h
  obtain ⟨es, he⟩ := comm_ex (rest := rest) ho hw hr b k cs
  rw [lone_eq_solo, step_lone_select_send_room he hc hs]
  rfl
/-- .. there is none. -/
theorem inReg_selFull (ho : ops[i]? = some o) (hw : Region.wanted o (yielded ops a.tmps) = true) (hr : (execOp a.eval o).run Try.prog w = .ok (.comm #[scase c v z] false .select) w)
    (hc : w.heap[c]? = some (.chan cap buf false s r tm)) (hs : cap ≤ buf.size) (h : InReg ops Q rest (a.put o.dst (.tuple #[goInt (-1), .bool false])) w) : InReg ops Q (i :: rest) a w := by
  refine inReg_step ho (fun b k cs => ?_) h
  obtain ⟨es, he⟩ := comm_ex (rest := rest) ho hw hr b k cs
  rw [lone_eq_solo, step_lone_select_send_full he hc hs]
  rfl
end

theorem Kept.setChan {T : Nat → Prop} {a w : World} (h : Kept T a w) {c : Nat} (hc : T c) (cap : Nat) (buf : Array Value) (cl : Bool) (s r : Nat) (tm : Bool) : Kept T a (w.setChan c cap buf cl s r tm) :=
  h.trans ⟨rfl, rfl, rfl, by simp [World.setChan], fun k _ hn => by
    have hne : c ≠ k := fun e => hn (e ▸ hc)
    simp only [World.setChan]
    rw [Array.getElem?_setIfInBounds_ne hne]⟩
theorem setChan_ne (w : World) {c c' : Nat} (cap : Nat) (buf : Array Value) (closed : Bool) (s r : Nat) (tm : Bool) (h : c ≠ c') : (w.setChan c cap buf closed s r tm).heap[c']? = w.heap[c']? := by
  simp [World.setChan, Array.getElem?_setIfInBounds_ne h]
theorem OwnV.setChan {w : World} {g c : Nat} {vs : List Value} (h : OwnV w g vs) (hne : g ≠ c) (cap : Nat) (buf : Array Value) (cl : Bool) (s r : Nat) (tm : Bool) : OwnV (w.setChan c cap buf cl s r tm) g vs :=
  h.kept ((Kept.refl (fun b => b = c) w).setChan rfl cap buf cl s r tm) hne
theorem size_setCh (w : World) (c cap : Nat) (buf : Array Value) (cl : Bool) (s r : Nat) (tm : Bool) : (w.setChan c cap buf cl s r tm).heap.size = w.heap.size := size_setChan w c cap buf cl s r tm

set_option maxRecDepth 10000 in
set_option maxHeartbeats 2000000 in
theorem takeFree_any (c s r : Nat) (id : Int) (w : World) (h : w.heap[c]? = some (.chan 1 #[] false s r false)) :
    Calls Try.prog 87 #[.chan (some c), .int .i64 id] w fun e w' => e = .returned (.bool true) ∧ w' = w.setChan c 1 #[.int .i64 id] false (s + 1) r false := by
  go_enter Try.func87, Try.ntmps87
  go_upto_region 3 with (fail)
  refine wp_inReg ?_
  show InReg _ _ [0, 1, 2] _ _
  refine inReg_selRoom (z := .int .i64 0) (v := .int .i64 id) rfl rfl (by simp [go_sem, execOp, scase, Act.eval]) h (by simp) ?_
  refine inReg_pure (v := goInt 0) rfl rfl (by simp [go_sem, execOp, Act.eval, Act.put]) ?_
  refine inReg_pure (v := .bool true) rfl rfl (by simp [go_sem, execOp, Act.eval, Act.put]) ?_
  refine inReg_nil ?_
  simp only [Act.put, List.push_toArray, List.nil_append]
  go_wp2
  go_ret
  exact ⟨rfl, rfl⟩

set_option maxRecDepth 10000 in
set_option maxHeartbeats 2000000 in
theorem takeFull_any (c s r : Nat) (u : Value) (id : Int) (w : World) (h : w.heap[c]? = some (.chan 1 #[u] false s r false)) :
    Calls Try.prog 87 #[.chan (some c), .int .i64 id] w fun e w' => e = .returned (.bool false) ∧ w' = w := by
  go_enter Try.func87, Try.ntmps87
  go_upto_region 3 with (fail)
  refine wp_inReg ?_
  show InReg _ _ [0, 1, 2] _ _
  refine inReg_selFull (z := .int .i64 0) (v := .int .i64 id) rfl rfl (by simp [go_sem, execOp, scase, Act.eval]) h (by simp) ?_
  refine inReg_pure (v := goInt (-1)) rfl rfl (by simp [go_sem, execOp, Act.eval, Act.put]) ?_
  refine inReg_pure (v := .bool false) rfl rfl (by simp [go_sem, execOp, Act.eval, Act.put]) ?_
  refine inReg_nil ?_
  simp only [Act.put]
  go_wp2
  go_ret
  exact ⟨rfl, rfl⟩

end Go.Proofs.Ytogoknldhimgfaa

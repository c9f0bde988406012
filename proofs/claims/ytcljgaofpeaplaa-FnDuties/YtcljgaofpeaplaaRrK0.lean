/- The program's Duty. Written by wip/mkrrB.py. -/
import Derived.Test.YtcljgaofpeaplaaRrJ
import Derived.FnLit
import Derived.Laws.Tables
import Derived.Laws.CopyOwn
namespace Go.Proofs.Ytcljgaofpeaplaa
open Go.RowKit

/-- The first that applies. -/
def firstOf : List (Bool × Int) → Int
  | [] => 3
  | x :: r => bif x.1 then x.2 else firstOf r
/-- What a has to do about c. -/
def duty (ax ay au av ak ad cx cy cu cv ck cd : Int) : Int := firstOf [(!(shipB ax ay au av ak ad && shipB cx cy cu cv ck cd), 4), (prtB ax ay au av ak ad cx cy cu cv ck cd, 0), (behB ax ay au av ak ad cx cy cu cv ck cd && !behB cx cy cu cv ck cd ax ay au av ak ad, 2), (behB cx cy cu cv ck cd ax ay au av ak ad && !behB ax ay au av ak ad cx cy cu cv ck cd, 1), (decide (ak < ck), 2), (decide (ck < ak), 1), (hdB ax ay au av ak ad cx cy cu cv ck cd && (ak == 1 && ck == 1), 3), (rgtB ax ay au av ak ad cx cy cu cv ck cd && !rgtB cx cy cu cv ck cd ax ay au av ak ad, 2), (rgtB cx cy cu cv ck cd ax ay au av ak ad && !rgtB ax ay au av ak ad cx cy cu cv ck cd, 1), (decide (ad < cd), 2), (decide (cd < ad), 1)]

def EDut (ax ay au av ak ad cx cy cu cv ck cd : Int) (w : World) (L : Nat → Bool) (us : Nat → Value) : Nat → Option (Nat × List Value)
  | 0 => some (w.heap.size, [.int .i64 ax, .int .i64 ay, .int .i64 au, .int .i64 av, .int .i64 ak, .int .i64 ad])
  | 1 => some (w.heap.size + 1, [.int .i64 cx, .int .i64 cy, .int .i64 cu, .int .i64 cv, .int .i64 ck, .int .i64 cd])
  | 2 => if L 6 then some ((gOf (us 5)), (if L 8 then [.int .i64 ax, .int .i64 ay, .int .i64 au, .int .i64 av, .int .i64 ak, .int .i64 ad, .int .i64 cx, .int .i64 cy, .int .i64 cu, .int .i64 cv, .int .i64 ck, .int .i64 cd] else [.int .i64 0, .int .i64 0, .int .i64 0, .int .i64 0, .int .i64 0, .int .i64 0, .int .i64 0, .int .i64 0, .int .i64 0, .int .i64 0, .int .i64 0, .int .i64 0])) else none
  | 3 => if L 7 then some ((gOf (us 6)), (if L 9 then [.int .i64 cx, .int .i64 cy, .int .i64 cu, .int .i64 cv, .int .i64 ck, .int .i64 cd, .int .i64 ax, .int .i64 ay, .int .i64 au, .int .i64 av, .int .i64 ak, .int .i64 ad] else [.int .i64 0, .int .i64 0, .int .i64 0, .int .i64 0, .int .i64 0, .int .i64 0, .int .i64 0, .int .i64 0, .int .i64 0, .int .i64 0, .int .i64 0, .int .i64 0])) else none
  | _ => none
def FDut (ax ay au av ak ad cx cy cu cv ck cd : Int) : FL := [(0, 10, .agg #[.int .i64 ax, .int .i64 ay, .int .i64 au, .int .i64 av, .int .i64 ak, .int .i64 ad]), (1, 11, .agg #[.int .i64 cx, .int .i64 cy, .int .i64 cu, .int .i64 cv, .int .i64 ck, .int .i64 cd]), (2, 12, .agg #[.int .i64 ax, .int .i64 ay, .int .i64 au, .int .i64 av, .int .i64 ak, .int .i64 ad, .int .i64 cx, .int .i64 cy, .int .i64 cu, .int .i64 cv, .int .i64 ck, .int .i64 cd]), (3, 13, .agg #[.int .i64 cx, .int .i64 cy, .int .i64 cu, .int .i64 cv, .int .i64 ck, .int .i64 cd]), (4, 14, .agg #[.int .i64 ax, .int .i64 ay, .int .i64 au, .int .i64 av, .int .i64 ak, .int .i64 ad]), (5, 15, .agg #[.int .i64 cx, .int .i64 cy, .int .i64 cu, .int .i64 cv, .int .i64 ck, .int .i64 cd, .int .i64 ax, .int .i64 ay, .int .i64 au, .int .i64 av, .int .i64 ak, .int .i64 ad])]
def RDut (ax ay au av ak ad cx cy cu cv ck cd : Int) (w : World) (L : Nat → Bool) (us : Nat → Value) (W : World) : Prop :=
  Facts L us (FDut ax ay au av ak ad cx cy cu cv ck cd) ∧ (L 6 = true → us 5 = .pointer (some ⟨gOf (us 5), 0, none⟩)) ∧ (L 7 = true → us 6 = .pointer (some ⟨gOf (us 6), 0, none⟩)) ∧ (L 8 = true → L 6 = true) ∧ (L 9 = true → L 7 = true) ∧ Bk w W (EDut ax ay au av ak ad cx cy cu cv ck cd w L us)
def XDut (ax ay au av ak ad cx cy cu cv ck cd : Int) (w : World) (g5 g6 : Nat) : Nat → Option (Nat × List Value)
  | 0 => some (w.heap.size, [.int .i64 ax, .int .i64 ay, .int .i64 au, .int .i64 av, .int .i64 ak, .int .i64 ad])
  | 1 => some (w.heap.size + 1, [.int .i64 cx, .int .i64 cy, .int .i64 cu, .int .i64 cv, .int .i64 ck, .int .i64 cd])
  | 2 => some (g5, [.int .i64 ax, .int .i64 ay, .int .i64 au, .int .i64 av, .int .i64 ak, .int .i64 ad, .int .i64 cx, .int .i64 cy, .int .i64 cu, .int .i64 cv, .int .i64 ck, .int .i64 cd])
  | 3 => some (g6, [.int .i64 cx, .int .i64 cy, .int .i64 cu, .int .i64 cv, .int .i64 ck, .int .i64 cd, .int .i64 ax, .int .i64 ay, .int .i64 au, .int .i64 av, .int .i64 ak, .int .i64 ad])
  | _ => none

theorem wpList_loadW {P : Program} {ops : Array Oper} {rest : List Oper} {o : Oper} {a : Act} {w : World} {Q : Exit → Act → World → Prop} (hg : o.guard = none) (x : Operand) (t : TypeId) (ho : o.op = .load t x) (ad : Addr) (hx : a.eval x = .pointer (some ad)) (v : Value) (hl : (loadVar t ad).run P w = .ok v w)
    (h : wpList P ops Q rest (a.put o.dst v) w) : wpList P ops Q (o :: rest) a w := by
  refine wpList_plain hg fun K hK => ?_
  unfold Oper.wp execOp
  simp only [ho, Instr.loadAt, Instr.sureAddr, hx, Sem.run_bind, Sem.run_pure, Result.andThen_ok, hl]
  exact hK _ _ h
theorem wpList_storeW {P : Program} {ops : Array Oper} {rest : List Oper} {o : Oper} {a : Act} {w w' : World} {Q : Exit → Act → World → Prop} (hg : o.guard = none) (x y : Operand) (t : TypeId) (ho : o.op = .store t x y) (ad : Addr) (hx : a.eval x = .pointer (some ad)) (v : Value) (hy : a.eval y = v) (hl : (storeVar t ad v).run P w = .ok () w')
    (h : wpList P ops Q rest (a.put o.dst undef) w') : wpList P ops Q (o :: rest) a w := by
  refine wpList_plain hg fun K hK => ?_
  unfold Oper.wp execOp
  simp only [ho, Instr.storeAt, Instr.sureAddr, hx, hy, Sem.run_bind, Sem.run_pure, Result.andThen_ok, hl]
  exact hK _ _ h
theorem infoTab : (Try.prog.info? 51).map (·.size) = some 22 := by kernel_rfl
theorem undTab : Try.prog.underlying 51 = some (.array 11 50) := by kernel_rfl
/-- A table is stored whole into its new block, and read back. -/
theorem table_store (W : World) (old cs : Array Value) (ho : old.size = 22) (hs : cs.size = 22) (h1 : cs.all (·.oneCell') = true) : ∃ V, (storeVar 51 ⟨W.heap.size, 0, none⟩ (.agg cs)).run Try.prog (W.alloc (.cells old 51)) = .ok () V ∧ (loadVar 51 ⟨W.heap.size, 0, none⟩).run Try.prog V = .ok (.agg cs) V ∧ Below W.heap.size W V := by
  have hg : (W.alloc (.cells old 51)).heap[W.heap.size]? = some (.cells old 51 (0, 0)) := heap_alloc_new W _
  refine ⟨(W.alloc (.cells old 51)).setRow W.heap.size cs, run_storeVar_row (P := Try.prog) _ W.heap.size _ 51 old cs hg (by rw [infoTab, hs]) (by rw [ho, hs]) h1, ?_, below_setRow (Below.alloc1 _ _) (Nat.le_refl _) cs⟩
  exact run_loadVar_row (P := Try.prog) _ W.heap.size _ 51 _ _ _ (setRow_heap _ _ _ _ _ _ hg) undTab rfl (by rw [infoTab, hs])

theorem infoRule : (Try.prog.info? 50).map (·.size) = some 2 := by kernel_rfl
theorem rule_store (W : World) (f d : Value) (h1 : (#[f, d] : Array Value).all (·.oneCell') = true) : ∃ V, (storeVar 50 ⟨W.heap.size, 0, none⟩ (.agg #[f, d])).run Try.prog (W.alloc (.cells #[.nilFunc, .int .i64 0] 50)) = .ok () V ∧ OwnV V W.heap.size [f, d] ∧ Below W.heap.size W V := by
  have hg : (W.alloc (.cells #[.nilFunc, .int .i64 0] 50)).heap[W.heap.size]? = some (.cells #[.nilFunc, .int .i64 0] 50 (0, 0)) := heap_alloc_new W _
  exact ⟨(W.alloc (.cells #[.nilFunc, .int .i64 0] 50)).setRow W.heap.size #[f, d], run_storeVar_row (P := Try.prog) _ W.heap.size _ 50 _ #[f, d] hg infoRule rfl h1, ⟨_, _, setRow_heap _ _ _ _ _ _ hg, fun i _ => by simp⟩, below_setRow (Below.alloc1 _ _) (Nat.le_refl _) _⟩

theorem tab_0 (f0 d0 f1 d1 f2 d2 f3 d3 f4 d4 f5 d5 f6 d6 f7 d7 f8 d8 f9 d9 f10 d10 : Value) (W : World) : (Instr.index 51 (.agg #[f0, d0, f1, d1, f2, d2, f3, d3, f4, d4, f5, d5, f6, d6, f7, d7, f8, d8, f9, d9, f10, d10]) (.int .i64 0)).run Try.prog W = .ok (.agg #[f0, d0]) W := by kernel_rfl
theorem tab_1 (f0 d0 f1 d1 f2 d2 f3 d3 f4 d4 f5 d5 f6 d6 f7 d7 f8 d8 f9 d9 f10 d10 : Value) (W : World) : (Instr.index 51 (.agg #[f0, d0, f1, d1, f2, d2, f3, d3, f4, d4, f5, d5, f6, d6, f7, d7, f8, d8, f9, d9, f10, d10]) (.int .i64 1)).run Try.prog W = .ok (.agg #[f1, d1]) W := by kernel_rfl
theorem tab_2 (f0 d0 f1 d1 f2 d2 f3 d3 f4 d4 f5 d5 f6 d6 f7 d7 f8 d8 f9 d9 f10 d10 : Value) (W : World) : (Instr.index 51 (.agg #[f0, d0, f1, d1, f2, d2, f3, d3, f4, d4, f5, d5, f6, d6, f7, d7, f8, d8, f9, d9, f10, d10]) (.int .i64 2)).run Try.prog W = .ok (.agg #[f2, d2]) W := by kernel_rfl
theorem tab_3 (f0 d0 f1 d1 f2 d2 f3 d3 f4 d4 f5 d5 f6 d6 f7 d7 f8 d8 f9 d9 f10 d10 : Value) (W : World) : (Instr.index 51 (.agg #[f0, d0, f1, d1, f2, d2, f3, d3, f4, d4, f5, d5, f6, d6, f7, d7, f8, d8, f9, d9, f10, d10]) (.int .i64 3)).run Try.prog W = .ok (.agg #[f3, d3]) W := by kernel_rfl
theorem tab_4 (f0 d0 f1 d1 f2 d2 f3 d3 f4 d4 f5 d5 f6 d6 f7 d7 f8 d8 f9 d9 f10 d10 : Value) (W : World) : (Instr.index 51 (.agg #[f0, d0, f1, d1, f2, d2, f3, d3, f4, d4, f5, d5, f6, d6, f7, d7, f8, d8, f9, d9, f10, d10]) (.int .i64 4)).run Try.prog W = .ok (.agg #[f4, d4]) W := by kernel_rfl
theorem tab_5 (f0 d0 f1 d1 f2 d2 f3 d3 f4 d4 f5 d5 f6 d6 f7 d7 f8 d8 f9 d9 f10 d10 : Value) (W : World) : (Instr.index 51 (.agg #[f0, d0, f1, d1, f2, d2, f3, d3, f4, d4, f5, d5, f6, d6, f7, d7, f8, d8, f9, d9, f10, d10]) (.int .i64 5)).run Try.prog W = .ok (.agg #[f5, d5]) W := by kernel_rfl
theorem tab_6 (f0 d0 f1 d1 f2 d2 f3 d3 f4 d4 f5 d5 f6 d6 f7 d7 f8 d8 f9 d9 f10 d10 : Value) (W : World) : (Instr.index 51 (.agg #[f0, d0, f1, d1, f2, d2, f3, d3, f4, d4, f5, d5, f6, d6, f7, d7, f8, d8, f9, d9, f10, d10]) (.int .i64 6)).run Try.prog W = .ok (.agg #[f6, d6]) W := by kernel_rfl
theorem tab_7 (f0 d0 f1 d1 f2 d2 f3 d3 f4 d4 f5 d5 f6 d6 f7 d7 f8 d8 f9 d9 f10 d10 : Value) (W : World) : (Instr.index 51 (.agg #[f0, d0, f1, d1, f2, d2, f3, d3, f4, d4, f5, d5, f6, d6, f7, d7, f8, d8, f9, d9, f10, d10]) (.int .i64 7)).run Try.prog W = .ok (.agg #[f7, d7]) W := by kernel_rfl
theorem tab_8 (f0 d0 f1 d1 f2 d2 f3 d3 f4 d4 f5 d5 f6 d6 f7 d7 f8 d8 f9 d9 f10 d10 : Value) (W : World) : (Instr.index 51 (.agg #[f0, d0, f1, d1, f2, d2, f3, d3, f4, d4, f5, d5, f6, d6, f7, d7, f8, d8, f9, d9, f10, d10]) (.int .i64 8)).run Try.prog W = .ok (.agg #[f8, d8]) W := by kernel_rfl
theorem tab_9 (f0 d0 f1 d1 f2 d2 f3 d3 f4 d4 f5 d5 f6 d6 f7 d7 f8 d8 f9 d9 f10 d10 : Value) (W : World) : (Instr.index 51 (.agg #[f0, d0, f1, d1, f2, d2, f3, d3, f4, d4, f5, d5, f6, d6, f7, d7, f8, d8, f9, d9, f10, d10]) (.int .i64 9)).run Try.prog W = .ok (.agg #[f9, d9]) W := by kernel_rfl
theorem tab_10 (f0 d0 f1 d1 f2 d2 f3 d3 f4 d4 f5 d5 f6 d6 f7 d7 f8 d8 f9 d9 f10 d10 : Value) (W : World) : (Instr.index 51 (.agg #[f0, d0, f1, d1, f2, d2, f3, d3, f4, d4, f5, d5, f6, d6, f7, d7, f8, d8, f9, d9, f10, d10]) (.int .i64 10)).run Try.prog W = .ok (.agg #[f10, d10]) W := by kernel_rfl
set_option maxRecDepth 10000 in
set_option maxHeartbeats 16000000 in
theorem implDuty_any (ax ay au av ak ad cx cy cu cv ck cd : Int) (w : World) : Calls Try.prog 7 #[vShip ax ay au av ak ad, vShip cx cy cu cv ck cd] w fun e w' => e = .returned (.int .i64 (duty ax ay au av ak ad cx cy cu cv ck cd)) ∧ Below w.heap.size w w' := by
  have HB := hide (bk_two w #[.int .i64 ax, .int .i64 ay, .int .i64 au, .int .i64 av, .int .i64 ak, .int .i64 ad] #[.int .i64 cx, .int .i64 cy, .int .i64 cu, .int .i64 cv, .int .i64 ck, .int .i64 cd] 25 25)
  obtain ⟨ok, eok⟩ : ∃ b, b = (shipB ax ay au av ak ad && shipB cx cy cu cv ck cd) := ⟨_, rfl⟩
  have HOK : Hid (ok = true → shipB ax ay au av ak ad = true ∧ shipB cx cy cu cv ck cd = true) := by
    show _ → _
    intro h
    rw [eok] at h
    simpa using h
  have HC0 := hide fun W => isBad_any ax ay au av ak ad cx cy cu cv ck cd W
  have HC1 : Hid (ok = true → ∀ W, Calls Try.prog 18 #[vM ax ay au av ak ad cx cy cu cv ck cd] W fun e w' => e = .returned (.bool (prtB ax ay au av ak ad cx cy cu cv ck cd)) ∧ Below W.heap.size W w') := by
    show _ → _
    intro h W
    obtain ⟨h1, h2⟩ := unhide HOK h
    exact isParting_any ax ay au av ak ad cx cy cu cv ck cd W h1 h2
  have HC2 := hide fun W => overtakes_any ax ay au av ak ad cx cy cu cv ck cd W
  have HC3 := hide fun W => overtakes_any cx cy cu cv ck cd ax ay au av ak ad W
  have HC4 := hide fun W => isLessInSort_any ax ay au av ak ad cx cy cu cv ck cd W
  have HC5 := hide fun W => isLessInSort_any cx cy cu cv ck cd ax ay au av ak ad W
  have HC6 := hide fun W => isEndOn_any ax ay au av ak ad cx cy cu cv ck cd W
  have HC7 : Hid (ok = true → ∀ W, Calls Try.prog 22 #[vM ax ay au av ak ad cx cy cu cv ck cd] W fun e w' => e = .returned (.bool (rgtB ax ay au av ak ad cx cy cu cv ck cd && !rgtB cx cy cu cv ck cd ax ay au av ak ad)) ∧ Below W.heap.size W w') := by
    show _ → _
    intro h W
    obtain ⟨h1, h2⟩ := unhide HOK h
    exact hasOnRight_any ax ay au av ak ad cx cy cu cv ck cd W h1 h2
  have HC8 : Hid (ok = true → ∀ W, Calls Try.prog 22 #[vM cx cy cu cv ck cd ax ay au av ak ad] W fun e w' => e = .returned (.bool (rgtB cx cy cu cv ck cd ax ay au av ak ad && !rgtB ax ay au av ak ad cx cy cu cv ck cd)) ∧ Below W.heap.size W w') := by
    show _ → _
    intro h W
    obtain ⟨h1, h2⟩ := unhide HOK h
    exact hasOnRight_any cx cy cu cv ck cd ax ay au av ak ad W h2 h1
  have HC9 := hide fun W => isLessInDraft_any ax ay au av ak ad cx cy cu cv ck cd W
  have HC10 := hide fun W => isLessInDraft_any cx cy cu cv ck cd ax ay au av ak ad W
  have HD : Hid (duty ax ay au av ak ad cx cy cu cv ck cd = firstOf [(!(shipB ax ay au av ak ad && shipB cx cy cu cv ck cd), 4), (prtB ax ay au av ak ad cx cy cu cv ck cd, 0), (behB ax ay au av ak ad cx cy cu cv ck cd && !behB cx cy cu cv ck cd ax ay au av ak ad, 2), (behB cx cy cu cv ck cd ax ay au av ak ad && !behB ax ay au av ak ad cx cy cu cv ck cd, 1), (decide (ak < ck), 2), (decide (ck < ak), 1), (hdB ax ay au av ak ad cx cy cu cv ck cd && (ak == 1 && ck == 1), 3), (rgtB ax ay au av ak ad cx cy cu cv ck cd && !rgtB cx cy cu cv ck cd ax ay au av ak ad, 2), (rgtB cx cy cu cv ck cd ax ay au av ak ad && !rgtB ax ay au av ak ad cx cy cu cv ck cd, 1), (decide (ad < cd), 2), (decide (cd < ad), 1)]) := hide rfl
  rw [← eok] at HC0 HD
  clear eok HOK
  generalize (prtB ax ay au av ak ad cx cy cu cv ck cd) = b1 at HC1 HD
  generalize (behB ax ay au av ak ad cx cy cu cv ck cd && !behB cx cy cu cv ck cd ax ay au av ak ad) = b2 at HC2 HD
  generalize (behB cx cy cu cv ck cd ax ay au av ak ad && !behB ax ay au av ak ad cx cy cu cv ck cd) = b3 at HC3 HD
  obtain ⟨b4, e4⟩ : ∃ z, z = decide (ak < ck) := ⟨_, rfl⟩
  rw [← e4] at HC4 HD
  clear e4
  obtain ⟨b5, e5⟩ : ∃ z, z = decide (ck < ak) := ⟨_, rfl⟩
  rw [← e5] at HC5 HD
  clear e5
  generalize (hdB ax ay au av ak ad cx cy cu cv ck cd && (ak == 1 && ck == 1)) = b6 at HC6 HD
  generalize (rgtB ax ay au av ak ad cx cy cu cv ck cd && !rgtB cx cy cu cv ck cd ax ay au av ak ad) = b7 at HC7 HD
  generalize (rgtB cx cy cu cv ck cd ax ay au av ak ad && !rgtB ax ay au av ak ad cx cy cu cv ck cd) = b8 at HC8 HD
  obtain ⟨b9, e9⟩ : ∃ z, z = decide (ad < cd) := ⟨_, rfl⟩
  rw [← e9] at HC9 HD
  clear e9
  obtain ⟨b10, e10⟩ : ∃ z, z = decide (cd < ad) := ⟨_, rfl⟩
  rw [← e10] at HC10 HD
  clear e10
  generalize duty ax ay au av ak ad cx cy cu cv ck cd = D at HD ⊢
  unfold vM at HC0 HC1 HC2 HC3 HC4 HC5 HC6 HC7 HC8 HC9 HC10
  unfold vShip
  have hmf : ∀ (fn : Fn) (first cap : Array Value) (w : World), (Instr.makeFunc fn first cap).run Try.prog w = .ok (.func fn first cap) w := fun _ _ _ _ => rfl
  go_enter Try.func7, Try.ntmps7
  go_wp2_with fail
  have HB0 : Hid (∀ us, Bk w _ (EDut ax ay au av ak ad cx cy cu cv ck cd w (fun _ => false) us)) := hide (fun us => ((unhide HB)).congr (fun k => by rcases k with _ | _ | _ | _ | k <;> simp [EDut, E2]))
  refine wp_region_slots [10, 11, 12, 13, 14, 15, 5, 6] (RDut ax ay au av ak ad cx cy cu cv ck cd w) (by kernel_rfl) (by kernel_rfl) (by decide) (by kernel_rfl) ?_ ?_ ?_
  · intro us
    exact ⟨facts_start us _, fun h => (by cases h), fun h => (by cases h), fun h => (by cases h), fun h => (by cases h), (unhide HB0 us).drew⟩
  · clear HB0
    refine StepsR.cons 1 rfl ?_ ?_
    · intro L us W hi hdep hR Kx hNx
      have hF := hide hR.1
      have f6 := hide hR.2.1
      have f7 := hide hR.2.2.1
      have f8 := hide hR.2.2.2.1
      have f9 := hide hR.2.2.2.2.1
      have hB := hR.2.2.2.2.2
      clear hR
      clear hdep
      have hE : EDut ax ay au av ak ad cx cy cu cv ck cd w L us 0 = some (w.heap.size, [.int .i64 ax, .int .i64 ay, .int .i64 au, .int .i64 av, .int .i64 ak, .int .i64 ad]) := by simp [EDut]
      have hO := hB.ownV hE
      have c0 := hO.cell (i := 0) rfl
      have c1 := hO.cell (i := 1) rfl
      have c2 := hO.cell (i := 2) rfl
      have c3 := hO.cell (i := 3) rfl
      have c4 := hO.cell (i := 4) rfl
      have c5 := hO.cell (i := 5) rfl
      clear hO
      have HB := hide hB
      clear hB
      have HE := hide hE
      clear hE
      simp only [fillA, Act.put, List.setIfInBounds_toArray, List.set_cons_zero, List.set_cons_succ] at hNx ⊢
      rw [if_pos (by rfl)]
      go_simp
      first | refine hNx _ _ ?_ | skip
      exact ⟨(unhide hF).step rfl rfl, keepG (unhide f6) (by decide) (by decide), keepG (unhide f7) (by decide) (by decide), keepL (unhide f8) (by decide), keepL (unhide f9) (by decide), (unhide HB).congr (fun k => by rcases k with _ | _ | _ | _ | k <;> simp [EDut])⟩
    refine StepsR.cons 2 rfl ?_ ?_
    · intro L us W hi hdep hR Kx hNx
      have hF := hide hR.1
      have f6 := hide hR.2.1
      have f7 := hide hR.2.2.1
      have f8 := hide hR.2.2.2.1
      have f9 := hide hR.2.2.2.2.1
      have hB := hR.2.2.2.2.2
      clear hR
      clear hdep
      have hE : EDut ax ay au av ak ad cx cy cu cv ck cd w L us 1 = some (w.heap.size + 1, [.int .i64 cx, .int .i64 cy, .int .i64 cu, .int .i64 cv, .int .i64 ck, .int .i64 cd]) := by simp [EDut]
      have hO := hB.ownV hE
      have c0 := hO.cell (i := 0) rfl
      have c1 := hO.cell (i := 1) rfl
      have c2 := hO.cell (i := 2) rfl
      have c3 := hO.cell (i := 3) rfl
      have c4 := hO.cell (i := 4) rfl
      have c5 := hO.cell (i := 5) rfl
      clear hO
      have HB := hide hB
      clear hB
      have HE := hide hE
      clear hE
      simp only [fillA, Act.put, List.setIfInBounds_toArray, List.set_cons_zero, List.set_cons_succ] at hNx ⊢
      rw [if_pos (by rfl)]
      go_simp
      first | refine hNx _ _ ?_ | skip
      exact ⟨(unhide hF).step rfl rfl, keepG (unhide f6) (by decide) (by decide), keepG (unhide f7) (by decide) (by decide), keepL (unhide f8) (by decide), keepL (unhide f9) (by decide), (unhide HB).congr (fun k => by rcases k with _ | _ | _ | _ | k <;> simp [EDut])⟩
    refine StepsR.cons 3 rfl ?_ ?_
    · intro L us W hi hdep hR Kx hNx
      have hF := hide hR.1
      have f6 := hide hR.2.1
      have f7 := hide hR.2.2.1
      have f8 := hide hR.2.2.2.1
      have f9 := hide hR.2.2.2.2.1
      have hB := hR.2.2.2.2.2
      clear hR
      have d0 : L 0 = true := hdep 0 (by kernel_rfl)
      have d1 : L 1 = true := hdep 1 (by kernel_rfl)
      clear hdep
      have e10 : us 10 = .agg #[.int .i64 ax, .int .i64 ay, .int .i64 au, .int .i64 av, .int .i64 ak, .int .i64 ad] := (unhide hF).get (k := 0) rfl d0
      have e11 : us 11 = .agg #[.int .i64 cx, .int .i64 cy, .int .i64 cu, .int .i64 cv, .int .i64 ck, .int .i64 cd] := (unhide hF).get (k := 1) rfl d1
      have HB := hide hB
      clear hB
      simp only [fillA, Act.put, List.setIfInBounds_toArray, List.set_cons_zero, List.set_cons_succ] at hNx ⊢
      simp only [e10, e11] at hNx ⊢
      clear e10 e11
      rw [if_pos (by rfl)]
      go_simp
      first | refine hNx _ _ ?_ | skip
      exact ⟨(unhide hF).step rfl rfl, keepG (unhide f6) (by decide) (by decide), keepG (unhide f7) (by decide) (by decide), keepL (unhide f8) (by decide), keepL (unhide f9) (by decide), (unhide HB).congr (fun k => by rcases k with _ | _ | _ | _ | k <;> simp [EDut])⟩
    refine StepsR.cons 4 rfl ?_ ?_
    · intro L us W hi hdep hR Kx hNx
      have hF := hide hR.1
      have f6 := hide hR.2.1
      have f7 := hide hR.2.2.1
      have f8 := hide hR.2.2.2.1
      have f9 := hide hR.2.2.2.2.1
      have hB := hR.2.2.2.2.2
      clear hR
      clear hdep
      have hE : EDut ax ay au av ak ad cx cy cu cv ck cd w L us 1 = some (w.heap.size + 1, [.int .i64 cx, .int .i64 cy, .int .i64 cu, .int .i64 cv, .int .i64 ck, .int .i64 cd]) := by simp [EDut]
      have hO := hB.ownV hE
      have c0 := hO.cell (i := 0) rfl
      have c1 := hO.cell (i := 1) rfl
      have c2 := hO.cell (i := 2) rfl
      have c3 := hO.cell (i := 3) rfl
      have c4 := hO.cell (i := 4) rfl
      have c5 := hO.cell (i := 5) rfl
      clear hO
      have HB := hide hB
      clear hB
      have HE := hide hE
      clear hE
      simp only [fillA, Act.put, List.setIfInBounds_toArray, List.set_cons_zero, List.set_cons_succ] at hNx ⊢
      rw [if_pos (by rfl)]
      go_simp
      first | refine hNx _ _ ?_ | skip
      exact ⟨(unhide hF).step rfl rfl, keepG (unhide f6) (by decide) (by decide), keepG (unhide f7) (by decide) (by decide), keepL (unhide f8) (by decide), keepL (unhide f9) (by decide), (unhide HB).congr (fun k => by rcases k with _ | _ | _ | _ | k <;> simp [EDut])⟩
    refine StepsR.cons 5 rfl ?_ ?_
    · intro L us W hi hdep hR Kx hNx
      have hF := hide hR.1
      have f6 := hide hR.2.1
      have f7 := hide hR.2.2.1
      have f8 := hide hR.2.2.2.1
      have f9 := hide hR.2.2.2.2.1
      have hB := hR.2.2.2.2.2
      clear hR
      clear hdep
      have hE : EDut ax ay au av ak ad cx cy cu cv ck cd w L us 0 = some (w.heap.size, [.int .i64 ax, .int .i64 ay, .int .i64 au, .int .i64 av, .int .i64 ak, .int .i64 ad]) := by simp [EDut]
      have hO := hB.ownV hE
      have c0 := hO.cell (i := 0) rfl
      have c1 := hO.cell (i := 1) rfl
      have c2 := hO.cell (i := 2) rfl
      have c3 := hO.cell (i := 3) rfl
      have c4 := hO.cell (i := 4) rfl
      have c5 := hO.cell (i := 5) rfl
      clear hO
      have HB := hide hB
      clear hB
      have HE := hide hE
      clear hE
      simp only [fillA, Act.put, List.setIfInBounds_toArray, List.set_cons_zero, List.set_cons_succ] at hNx ⊢
      rw [if_pos (by rfl)]
      go_simp
      first | refine hNx _ _ ?_ | skip
      exact ⟨(unhide hF).step rfl rfl, keepG (unhide f6) (by decide) (by decide), keepG (unhide f7) (by decide) (by decide), keepL (unhide f8) (by decide), keepL (unhide f9) (by decide), (unhide HB).congr (fun k => by rcases k with _ | _ | _ | _ | k <;> simp [EDut])⟩
    refine StepsR.cons 6 rfl ?_ ?_
    · intro L us W hi hdep hR Kx hNx
      have hF := hide hR.1
      have f6 := hide hR.2.1
      have f7 := hide hR.2.2.1
      have f8 := hide hR.2.2.2.1
      have f9 := hide hR.2.2.2.2.1
      have hB := hR.2.2.2.2.2
      clear hR
      have d3 : L 3 = true := hdep 3 (by kernel_rfl)
      have d4 : L 4 = true := hdep 4 (by kernel_rfl)
      clear hdep
      have e13 : us 13 = .agg #[.int .i64 cx, .int .i64 cy, .int .i64 cu, .int .i64 cv, .int .i64 ck, .int .i64 cd] := (unhide hF).get (k := 3) rfl d3
      have e14 : us 14 = .agg #[.int .i64 ax, .int .i64 ay, .int .i64 au, .int .i64 av, .int .i64 ak, .int .i64 ad] := (unhide hF).get (k := 4) rfl d4
      have HB := hide hB
      clear hB
      simp only [fillA, Act.put, List.setIfInBounds_toArray, List.set_cons_zero, List.set_cons_succ] at hNx ⊢
      simp only [e13, e14] at hNx ⊢
      clear e13 e14
      rw [if_pos (by rfl)]
      go_simp
      first | refine hNx _ _ ?_ | skip
      exact ⟨(unhide hF).step rfl rfl, keepG (unhide f6) (by decide) (by decide), keepG (unhide f7) (by decide) (by decide), keepL (unhide f8) (by decide), keepL (unhide f9) (by decide), (unhide HB).congr (fun k => by rcases k with _ | _ | _ | _ | k <;> simp [EDut])⟩
    refine StepsR.cons 7 rfl ?_ ?_
    · intro L us W hi hdep hR Kx hNx
      have hF := hide hR.1
      have f6 := hide hR.2.1
      have f7 := hide hR.2.2.1
      have f8 := hide hR.2.2.2.1
      have f9 := hide hR.2.2.2.2.1
      have hB := hR.2.2.2.2.2
      clear hR
      clear hdep
      have HB := hide hB
      clear hB
      simp only [fillA, Act.put, List.setIfInBounds_toArray, List.set_cons_zero, List.set_cons_succ] at hNx ⊢
      rw [if_pos (by rfl)]
      have A1 := hide ((unhide HB).made 2 #[.int .i64 0, .int .i64 0, .int .i64 0, .int .i64 0, .int .i64 0, .int .i64 0, .int .i64 0, .int .i64 0, .int .i64 0, .int .i64 0, .int .i64 0, .int .i64 0] 47)
      go_simp
      first | refine hNx _ _ ?_ | skip
      have nst : L 8 = false := notL (unhide f8) hi
      exact ⟨(unhide hF).stepO rfl, newG, keepG (unhide f7) (by decide) (by decide), keepL (unhide f8) (by decide), keepL (unhide f9) (by decide), (unhide A1).congr (fun k => by rcases k with _ | _ | _ | _ | k <;> simp [EDut, *])⟩
    refine StepsR.cons 8 rfl ?_ ?_
    · intro L us W hi hdep hR Kx hNx
      have hF := hide hR.1
      have f6 := hide hR.2.1
      have f7 := hide hR.2.2.1
      have f8 := hide hR.2.2.2.1
      have f9 := hide hR.2.2.2.2.1
      have hB := hR.2.2.2.2.2
      clear hR
      clear hdep
      have HB := hide hB
      clear hB
      simp only [fillA, Act.put, List.setIfInBounds_toArray, List.set_cons_zero, List.set_cons_succ] at hNx ⊢
      rw [if_pos (by rfl)]
      have A1 := hide ((unhide HB).made 3 #[.int .i64 0, .int .i64 0, .int .i64 0, .int .i64 0, .int .i64 0, .int .i64 0, .int .i64 0, .int .i64 0, .int .i64 0, .int .i64 0, .int .i64 0, .int .i64 0] 47)
      go_simp
      first | refine hNx _ _ ?_ | skip
      have nst : L 9 = false := notL (unhide f9) hi
      exact ⟨(unhide hF).stepO rfl, keepG (unhide f6) (by decide) (by decide), newG, keepL (unhide f8) (by decide), keepL (unhide f9) (by decide), (unhide A1).congr (fun k => by rcases k with _ | _ | _ | _ | k <;> simp [EDut, *])⟩
    refine StepsR.cons 9 rfl ?_ ?_
    · intro L us W hi hdep hR Kx hNx
      have hF := hide hR.1
      have f6 := hide hR.2.1
      have f7 := hide hR.2.2.1
      have f8 := hide hR.2.2.2.1
      have f9 := hide hR.2.2.2.2.1
      have hB := hR.2.2.2.2.2
      clear hR
      have d2 : L 2 = true := hdep 2 (by kernel_rfl)
      have d6 : L 6 = true := hdep 6 (by kernel_rfl)
      clear hdep
      have hE : EDut ax ay au av ak ad cx cy cu cv ck cd w L us 2 = some ((gOf (us 5)), [.int .i64 0, .int .i64 0, .int .i64 0, .int .i64 0, .int .i64 0, .int .i64 0, .int .i64 0, .int .i64 0, .int .i64 0, .int .i64 0, .int .i64 0, .int .i64 0]) := by simp [EDut, *]
      have e12 : us 12 = .agg #[.int .i64 ax, .int .i64 ay, .int .i64 au, .int .i64 av, .int .i64 ak, .int .i64 ad, .int .i64 cx, .int .i64 cy, .int .i64 cu, .int .i64 cv, .int .i64 ck, .int .i64 cd] := (unhide hF).get (k := 2) rfl d2
      have e5 := unhide f6 d6
      have hO := hB.ownV hE
      have c0 := hO.cell (i := 0) rfl
      have c1 := hO.cell (i := 1) rfl
      have c2 := hO.cell (i := 2) rfl
      have c3 := hO.cell (i := 3) rfl
      have c4 := hO.cell (i := 4) rfl
      have c5 := hO.cell (i := 5) rfl
      have c6 := hO.cell (i := 6) rfl
      have c7 := hO.cell (i := 7) rfl
      have c8 := hO.cell (i := 8) rfl
      have c9 := hO.cell (i := 9) rfl
      have c10 := hO.cell (i := 10) rfl
      have c11 := hO.cell (i := 11) rfl
      have z0 := hO.frozen 0
      have z1 := hO.frozen 1
      have z2 := hO.frozen 2
      have z3 := hO.frozen 3
      have z4 := hO.frozen 4
      have z5 := hO.frozen 5
      have z6 := hO.frozen 6
      have z7 := hO.frozen 7
      have z8 := hO.frozen 8
      have z9 := hO.frozen 9
      have z10 := hO.frozen 10
      have z11 := hO.frozen 11
      clear hO
      have HB := hide hB
      clear hB
      have HE := hide hE
      clear hE
      simp only [fillA, Act.put, List.setIfInBounds_toArray, List.set_cons_zero, List.set_cons_succ] at hNx ⊢
      simp only [e12] at hNx ⊢
      rw [e5] at hNx ⊢
      clear e12 e5
      rw [if_pos (by rfl)]
      have A1 := hide (((((((((((((unhide HB).set (k := 2) (g := (gOf (us 5))) (vs := [.int .i64 0, .int .i64 0, .int .i64 0, .int .i64 0, .int .i64 0, .int .i64 0, .int .i64 0, .int .i64 0, .int .i64 0, .int .i64 0, .int .i64 0, .int .i64 0]) (unhide HE) 0 (.int .i64 ax) (by simp)).set (k := 2) (g := (gOf (us 5))) (vs := [.int .i64 ax, .int .i64 0, .int .i64 0, .int .i64 0, .int .i64 0, .int .i64 0, .int .i64 0, .int .i64 0, .int .i64 0, .int .i64 0, .int .i64 0, .int .i64 0]) (by simp) 1 (.int .i64 ay) (by simp)).set (k := 2) (g := (gOf (us 5))) (vs := [.int .i64 ax, .int .i64 ay, .int .i64 0, .int .i64 0, .int .i64 0, .int .i64 0, .int .i64 0, .int .i64 0, .int .i64 0, .int .i64 0, .int .i64 0, .int .i64 0]) (by simp) 2 (.int .i64 au) (by simp)).set (k := 2) (g := (gOf (us 5))) (vs := [.int .i64 ax, .int .i64 ay, .int .i64 au, .int .i64 0, .int .i64 0, .int .i64 0, .int .i64 0, .int .i64 0, .int .i64 0, .int .i64 0, .int .i64 0, .int .i64 0]) (by simp) 3 (.int .i64 av) (by simp)).set (k := 2) (g := (gOf (us 5))) (vs := [.int .i64 ax, .int .i64 ay, .int .i64 au, .int .i64 av, .int .i64 0, .int .i64 0, .int .i64 0, .int .i64 0, .int .i64 0, .int .i64 0, .int .i64 0, .int .i64 0]) (by simp) 4 (.int .i64 ak) (by simp)).set (k := 2) (g := (gOf (us 5))) (vs := [.int .i64 ax, .int .i64 ay, .int .i64 au, .int .i64 av, .int .i64 ak, .int .i64 0, .int .i64 0, .int .i64 0, .int .i64 0, .int .i64 0, .int .i64 0, .int .i64 0]) (by simp) 5 (.int .i64 ad) (by simp)).set (k := 2) (g := (gOf (us 5))) (vs := [.int .i64 ax, .int .i64 ay, .int .i64 au, .int .i64 av, .int .i64 ak, .int .i64 ad, .int .i64 0, .int .i64 0, .int .i64 0, .int .i64 0, .int .i64 0, .int .i64 0]) (by simp) 6 (.int .i64 cx) (by simp)).set (k := 2) (g := (gOf (us 5))) (vs := [.int .i64 ax, .int .i64 ay, .int .i64 au, .int .i64 av, .int .i64 ak, .int .i64 ad, .int .i64 cx, .int .i64 0, .int .i64 0, .int .i64 0, .int .i64 0, .int .i64 0]) (by simp) 7 (.int .i64 cy) (by simp)).set (k := 2) (g := (gOf (us 5))) (vs := [.int .i64 ax, .int .i64 ay, .int .i64 au, .int .i64 av, .int .i64 ak, .int .i64 ad, .int .i64 cx, .int .i64 cy, .int .i64 0, .int .i64 0, .int .i64 0, .int .i64 0]) (by simp) 8 (.int .i64 cu) (by simp)).set (k := 2) (g := (gOf (us 5))) (vs := [.int .i64 ax, .int .i64 ay, .int .i64 au, .int .i64 av, .int .i64 ak, .int .i64 ad, .int .i64 cx, .int .i64 cy, .int .i64 cu, .int .i64 0, .int .i64 0, .int .i64 0]) (by simp) 9 (.int .i64 cv) (by simp)).set (k := 2) (g := (gOf (us 5))) (vs := [.int .i64 ax, .int .i64 ay, .int .i64 au, .int .i64 av, .int .i64 ak, .int .i64 ad, .int .i64 cx, .int .i64 cy, .int .i64 cu, .int .i64 cv, .int .i64 0, .int .i64 0]) (by simp) 10 (.int .i64 ck) (by simp)).set (k := 2) (g := (gOf (us 5))) (vs := [.int .i64 ax, .int .i64 ay, .int .i64 au, .int .i64 av, .int .i64 ak, .int .i64 ad, .int .i64 cx, .int .i64 cy, .int .i64 cu, .int .i64 cv, .int .i64 ck, .int .i64 0]) (by simp) 11 (.int .i64 cd) (by simp))
      go_simp
      first | refine hNx undef _ ?_ | skip
      exact ⟨(unhide hF).stepN rfl, keepGN (unhide f6) (by decide), keepGN (unhide f7) (by decide), newL d6 (by decide), keepL (unhide f9) (by decide), (unhide A1).congr (fun k => by rcases k with _ | _ | _ | _ | k <;> simp [EDut, *])⟩
    refine StepsR.cons 10 rfl ?_ ?_
    · intro L us W hi hdep hR Kx hNx
      have hF := hide hR.1
      have f6 := hide hR.2.1
      have f7 := hide hR.2.2.1
      have f8 := hide hR.2.2.2.1
      have f9 := hide hR.2.2.2.2.1
      have hB := hR.2.2.2.2.2
      clear hR
      have d5 : L 5 = true := hdep 5 (by kernel_rfl)
      have d7 : L 7 = true := hdep 7 (by kernel_rfl)
      clear hdep
      have hE : EDut ax ay au av ak ad cx cy cu cv ck cd w L us 3 = some ((gOf (us 6)), [.int .i64 0, .int .i64 0, .int .i64 0, .int .i64 0, .int .i64 0, .int .i64 0, .int .i64 0, .int .i64 0, .int .i64 0, .int .i64 0, .int .i64 0, .int .i64 0]) := by simp [EDut, *]
      have e15 : us 15 = .agg #[.int .i64 cx, .int .i64 cy, .int .i64 cu, .int .i64 cv, .int .i64 ck, .int .i64 cd, .int .i64 ax, .int .i64 ay, .int .i64 au, .int .i64 av, .int .i64 ak, .int .i64 ad] := (unhide hF).get (k := 5) rfl d5
      have e6 := unhide f7 d7
      have hO := hB.ownV hE
      have c0 := hO.cell (i := 0) rfl
      have c1 := hO.cell (i := 1) rfl
      have c2 := hO.cell (i := 2) rfl
      have c3 := hO.cell (i := 3) rfl
      have c4 := hO.cell (i := 4) rfl
      have c5 := hO.cell (i := 5) rfl
      have c6 := hO.cell (i := 6) rfl
      have c7 := hO.cell (i := 7) rfl
      have c8 := hO.cell (i := 8) rfl
      have c9 := hO.cell (i := 9) rfl
      have c10 := hO.cell (i := 10) rfl
      have c11 := hO.cell (i := 11) rfl
      have z0 := hO.frozen 0
      have z1 := hO.frozen 1
      have z2 := hO.frozen 2
      have z3 := hO.frozen 3
      have z4 := hO.frozen 4
      have z5 := hO.frozen 5
      have z6 := hO.frozen 6
      have z7 := hO.frozen 7
      have z8 := hO.frozen 8
      have z9 := hO.frozen 9
      have z10 := hO.frozen 10
      have z11 := hO.frozen 11
      clear hO
      have HB := hide hB
      clear hB
      have HE := hide hE
      clear hE
      simp only [fillA, Act.put, List.setIfInBounds_toArray, List.set_cons_zero, List.set_cons_succ] at hNx ⊢
      simp only [e15] at hNx ⊢
      rw [e6] at hNx ⊢
      clear e15 e6
      rw [if_pos (by rfl)]
      have A1 := hide (((((((((((((unhide HB).set (k := 3) (g := (gOf (us 6))) (vs := [.int .i64 0, .int .i64 0, .int .i64 0, .int .i64 0, .int .i64 0, .int .i64 0, .int .i64 0, .int .i64 0, .int .i64 0, .int .i64 0, .int .i64 0, .int .i64 0]) (unhide HE) 0 (.int .i64 cx) (by simp)).set (k := 3) (g := (gOf (us 6))) (vs := [.int .i64 cx, .int .i64 0, .int .i64 0, .int .i64 0, .int .i64 0, .int .i64 0, .int .i64 0, .int .i64 0, .int .i64 0, .int .i64 0, .int .i64 0, .int .i64 0]) (by simp) 1 (.int .i64 cy) (by simp)).set (k := 3) (g := (gOf (us 6))) (vs := [.int .i64 cx, .int .i64 cy, .int .i64 0, .int .i64 0, .int .i64 0, .int .i64 0, .int .i64 0, .int .i64 0, .int .i64 0, .int .i64 0, .int .i64 0, .int .i64 0]) (by simp) 2 (.int .i64 cu) (by simp)).set (k := 3) (g := (gOf (us 6))) (vs := [.int .i64 cx, .int .i64 cy, .int .i64 cu, .int .i64 0, .int .i64 0, .int .i64 0, .int .i64 0, .int .i64 0, .int .i64 0, .int .i64 0, .int .i64 0, .int .i64 0]) (by simp) 3 (.int .i64 cv) (by simp)).set (k := 3) (g := (gOf (us 6))) (vs := [.int .i64 cx, .int .i64 cy, .int .i64 cu, .int .i64 cv, .int .i64 0, .int .i64 0, .int .i64 0, .int .i64 0, .int .i64 0, .int .i64 0, .int .i64 0, .int .i64 0]) (by simp) 4 (.int .i64 ck) (by simp)).set (k := 3) (g := (gOf (us 6))) (vs := [.int .i64 cx, .int .i64 cy, .int .i64 cu, .int .i64 cv, .int .i64 ck, .int .i64 0, .int .i64 0, .int .i64 0, .int .i64 0, .int .i64 0, .int .i64 0, .int .i64 0]) (by simp) 5 (.int .i64 cd) (by simp)).set (k := 3) (g := (gOf (us 6))) (vs := [.int .i64 cx, .int .i64 cy, .int .i64 cu, .int .i64 cv, .int .i64 ck, .int .i64 cd, .int .i64 0, .int .i64 0, .int .i64 0, .int .i64 0, .int .i64 0, .int .i64 0]) (by simp) 6 (.int .i64 ax) (by simp)).set (k := 3) (g := (gOf (us 6))) (vs := [.int .i64 cx, .int .i64 cy, .int .i64 cu, .int .i64 cv, .int .i64 ck, .int .i64 cd, .int .i64 ax, .int .i64 0, .int .i64 0, .int .i64 0, .int .i64 0, .int .i64 0]) (by simp) 7 (.int .i64 ay) (by simp)).set (k := 3) (g := (gOf (us 6))) (vs := [.int .i64 cx, .int .i64 cy, .int .i64 cu, .int .i64 cv, .int .i64 ck, .int .i64 cd, .int .i64 ax, .int .i64 ay, .int .i64 0, .int .i64 0, .int .i64 0, .int .i64 0]) (by simp) 8 (.int .i64 au) (by simp)).set (k := 3) (g := (gOf (us 6))) (vs := [.int .i64 cx, .int .i64 cy, .int .i64 cu, .int .i64 cv, .int .i64 ck, .int .i64 cd, .int .i64 ax, .int .i64 ay, .int .i64 au, .int .i64 0, .int .i64 0, .int .i64 0]) (by simp) 9 (.int .i64 av) (by simp)).set (k := 3) (g := (gOf (us 6))) (vs := [.int .i64 cx, .int .i64 cy, .int .i64 cu, .int .i64 cv, .int .i64 ck, .int .i64 cd, .int .i64 ax, .int .i64 ay, .int .i64 au, .int .i64 av, .int .i64 0, .int .i64 0]) (by simp) 10 (.int .i64 ak) (by simp)).set (k := 3) (g := (gOf (us 6))) (vs := [.int .i64 cx, .int .i64 cy, .int .i64 cu, .int .i64 cv, .int .i64 ck, .int .i64 cd, .int .i64 ax, .int .i64 ay, .int .i64 au, .int .i64 av, .int .i64 ak, .int .i64 0]) (by simp) 11 (.int .i64 ad) (by simp))
      go_simp
      first | refine hNx undef _ ?_ | skip
      exact ⟨(unhide hF).stepN rfl, keepGN (unhide f6) (by decide), keepGN (unhide f7) (by decide), keepL (unhide f8) (by decide), newL d7 (by decide), (unhide A1).congr (fun k => by rcases k with _ | _ | _ | _ | k <;> simp [EDut, *])⟩
    exact StepsR.nil
  · intro L us W hL hR
    have hF := hide hR.1
    have f6 := hide hR.2.1
    have f7 := hide hR.2.2.1
    have f8 := hide hR.2.2.2.1
    have f9 := hide hR.2.2.2.2.1
    have hB := hR.2.2.2.2.2
    clear hR
    have l6 := hL 6 (by decide)
    have l7 := hL 7 (by decide)
    have l8 := hL 8 (by decide)
    have l9 := hL 9 (by decide)
    have hE0 : EDut ax ay au av ak ad cx cy cu cv ck cd w L us 0 = some (w.heap.size, [.int .i64 ax, .int .i64 ay, .int .i64 au, .int .i64 av, .int .i64 ak, .int .i64 ad]) := by simp [EDut]
    have hO0 := hB.ownV hE0
    have hE1 : EDut ax ay au av ak ad cx cy cu cv ck cd w L us 1 = some (w.heap.size + 1, [.int .i64 cx, .int .i64 cy, .int .i64 cu, .int .i64 cv, .int .i64 ck, .int .i64 cd]) := by simp [EDut]
    have hO1 := hB.ownV hE1
    have hE2 : EDut ax ay au av ak ad cx cy cu cv ck cd w L us 2 = some ((gOf (us 5)), [.int .i64 ax, .int .i64 ay, .int .i64 au, .int .i64 av, .int .i64 ak, .int .i64 ad, .int .i64 cx, .int .i64 cy, .int .i64 cu, .int .i64 cv, .int .i64 ck, .int .i64 cd]) := by simp [EDut, *]
    have hO2 := hB.ownV hE2
    have hE3 : EDut ax ay au av ak ad cx cy cu cv ck cd w L us 3 = some ((gOf (us 6)), [.int .i64 cx, .int .i64 cy, .int .i64 cu, .int .i64 cv, .int .i64 ck, .int .i64 cd, .int .i64 ax, .int .i64 ay, .int .i64 au, .int .i64 av, .int .i64 ak, .int .i64 ad]) := by simp [EDut, *]
    have hO3 := hB.ownV hE3
    have hg2 := (hB.own 2 _ _ hE2).1
    have ha2_0 := hB.apart 2 0 _ _ _ _ hE2 hE0 (by decide)
    have ha2_1 := hB.apart 2 1 _ _ _ _ hE2 hE1 (by decide)
    have hg3 := (hB.own 3 _ _ hE3).1
    have ha3_0 := hB.apart 3 0 _ _ _ _ hE3 hE0 (by decide)
    have ha3_1 := hB.apart 3 1 _ _ _ _ hE3 hE1 (by decide)
    have ha3_2 := hB.apart 3 2 _ _ _ _ hE3 hE2 (by decide)
    clear hE0 hE1 hE2 hE3
    have HA : Hid (Bk w W (XDut ax ay au av ak ad cx cy cu cv ck cd w (gOf (us 5)) (gOf (us 6)))) := hide (hB.congr (fun k => by rcases k with _ | _ | _ | _ | k <;> simp [EDut, XDut, *]))
    have f0 : us 10 = .agg #[.int .i64 ax, .int .i64 ay, .int .i64 au, .int .i64 av, .int .i64 ak, .int .i64 ad] := (unhide hF).get (k := 0) rfl (hL 0 (by decide))
    have f1 : us 11 = .agg #[.int .i64 cx, .int .i64 cy, .int .i64 cu, .int .i64 cv, .int .i64 ck, .int .i64 cd] := (unhide hF).get (k := 1) rfl (hL 1 (by decide))
    have f2 : us 12 = .agg #[.int .i64 ax, .int .i64 ay, .int .i64 au, .int .i64 av, .int .i64 ak, .int .i64 ad, .int .i64 cx, .int .i64 cy, .int .i64 cu, .int .i64 cv, .int .i64 ck, .int .i64 cd] := (unhide hF).get (k := 2) rfl (hL 2 (by decide))
    have f3 : us 13 = .agg #[.int .i64 cx, .int .i64 cy, .int .i64 cu, .int .i64 cv, .int .i64 ck, .int .i64 cd] := (unhide hF).get (k := 3) rfl (hL 3 (by decide))
    have f4 : us 14 = .agg #[.int .i64 ax, .int .i64 ay, .int .i64 au, .int .i64 av, .int .i64 ak, .int .i64 ad] := (unhide hF).get (k := 4) rfl (hL 4 (by decide))
    have f5 : us 15 = .agg #[.int .i64 cx, .int .i64 cy, .int .i64 cu, .int .i64 cv, .int .i64 ck, .int .i64 cd, .int .i64 ax, .int .i64 ay, .int .i64 au, .int .i64 av, .int .i64 ak, .int .i64 ad] := (unhide hF).get (k := 5) rfl (hL 5 (by decide))
    replace f6 := unhide f6 (hL 6 (by decide))
    replace f7 := unhide f7 (hL 7 (by decide))
    have HW := hide hB.below
    clear hB hL l6 l7 l8 l9
    simp only [fillA, Act.put, List.setIfInBounds_toArray, List.set_cons_zero, List.set_cons_succ]
    simp only [f0, f1, f2, f3, f4, f5]
    rw [f6]
    rw [f7]
    clear hF f0 f1 f2 f3 f4 f5 f6 f7 f8 f9
    generalize gOf (us 5) = g5 at *
    generalize gOf (us 6) = g6 at *
    clear us L
    have m0 := hO2.cell (i := 0) rfl
    have m1 := hO2.cell (i := 1) rfl
    have m2 := hO2.cell (i := 2) rfl
    have m3 := hO2.cell (i := 3) rfl
    have m4 := hO2.cell (i := 4) rfl
    have m5 := hO2.cell (i := 5) rfl
    have m6 := hO2.cell (i := 6) rfl
    have m7 := hO2.cell (i := 7) rfl
    have m8 := hO2.cell (i := 8) rfl
    have m9 := hO2.cell (i := 9) rfl
    have m10 := hO2.cell (i := 10) rfl
    have m11 := hO2.cell (i := 11) rfl
    have n0 := hO3.cell (i := 0) rfl
    have n1 := hO3.cell (i := 1) rfl
    have n2 := hO3.cell (i := 2) rfl
    have n3 := hO3.cell (i := 3) rfl
    have n4 := hO3.cell (i := 4) rfl
    have n5 := hO3.cell (i := 5) rfl
    have n6 := hO3.cell (i := 6) rfl
    have n7 := hO3.cell (i := 7) rfl
    have n8 := hO3.cell (i := 8) rfl
    have n9 := hO3.cell (i := 9) rfl
    have n10 := hO3.cell (i := 10) rfl
    have n11 := hO3.cell (i := 11) rfl
    clear hO0 hO1 hO2 hO3 hg2 hg3 ha2_0 ha2_1 ha3_0 ha3_1 ha3_2 HA HB
    have hts := table_store W #[.nilFunc, .int .i64 0, .nilFunc, .int .i64 0, .nilFunc, .int .i64 0, .nilFunc, .int .i64 0, .nilFunc, .int .i64 0, .nilFunc, .int .i64 0, .nilFunc, .int .i64 0, .nilFunc, .int .i64 0, .nilFunc, .int .i64 0, .nilFunc, .int .i64 0, .nilFunc, .int .i64 0] #[.func (.func 17) #[.agg #[.int .i64 ax, .int .i64 ay, .int .i64 au, .int .i64 av, .int .i64 ak, .int .i64 ad, .int .i64 cx, .int .i64 cy, .int .i64 cu, .int .i64 cv, .int .i64 ck, .int .i64 cd]] #[], .int .i64 4, .func (.func 18) #[.agg #[.int .i64 ax, .int .i64 ay, .int .i64 au, .int .i64 av, .int .i64 ak, .int .i64 ad, .int .i64 cx, .int .i64 cy, .int .i64 cu, .int .i64 cv, .int .i64 ck, .int .i64 cd]] #[], .int .i64 0, .func (.func 19) #[.agg #[.int .i64 ax, .int .i64 ay, .int .i64 au, .int .i64 av, .int .i64 ak, .int .i64 ad, .int .i64 cx, .int .i64 cy, .int .i64 cu, .int .i64 cv, .int .i64 ck, .int .i64 cd]] #[], .int .i64 2, .func (.func 19) #[.agg #[.int .i64 cx, .int .i64 cy, .int .i64 cu, .int .i64 cv, .int .i64 ck, .int .i64 cd, .int .i64 ax, .int .i64 ay, .int .i64 au, .int .i64 av, .int .i64 ak, .int .i64 ad]] #[], .int .i64 1, .func (.func 20) #[.agg #[.int .i64 ax, .int .i64 ay, .int .i64 au, .int .i64 av, .int .i64 ak, .int .i64 ad, .int .i64 cx, .int .i64 cy, .int .i64 cu, .int .i64 cv, .int .i64 ck, .int .i64 cd]] #[], .int .i64 2, .func (.func 20) #[.agg #[.int .i64 cx, .int .i64 cy, .int .i64 cu, .int .i64 cv, .int .i64 ck, .int .i64 cd, .int .i64 ax, .int .i64 ay, .int .i64 au, .int .i64 av, .int .i64 ak, .int .i64 ad]] #[], .int .i64 1, .func (.func 21) #[.agg #[.int .i64 ax, .int .i64 ay, .int .i64 au, .int .i64 av, .int .i64 ak, .int .i64 ad, .int .i64 cx, .int .i64 cy, .int .i64 cu, .int .i64 cv, .int .i64 ck, .int .i64 cd]] #[], .int .i64 3, .func (.func 22) #[.agg #[.int .i64 ax, .int .i64 ay, .int .i64 au, .int .i64 av, .int .i64 ak, .int .i64 ad, .int .i64 cx, .int .i64 cy, .int .i64 cu, .int .i64 cv, .int .i64 ck, .int .i64 cd]] #[], .int .i64 2, .func (.func 22) #[.agg #[.int .i64 cx, .int .i64 cy, .int .i64 cu, .int .i64 cv, .int .i64 ck, .int .i64 cd, .int .i64 ax, .int .i64 ay, .int .i64 au, .int .i64 av, .int .i64 ak, .int .i64 ad]] #[], .int .i64 1, .func (.func 23) #[.agg #[.int .i64 ax, .int .i64 ay, .int .i64 au, .int .i64 av, .int .i64 ak, .int .i64 ad, .int .i64 cx, .int .i64 cy, .int .i64 cu, .int .i64 cv, .int .i64 ck, .int .i64 cd]] #[], .int .i64 2, .func (.func 23) #[.agg #[.int .i64 cx, .int .i64 cy, .int .i64 cu, .int .i64 cv, .int .i64 ck, .int .i64 cd, .int .i64 ax, .int .i64 ay, .int .i64 au, .int .i64 av, .int .i64 ak, .int .i64 ad]] #[], .int .i64 1] rfl rfl (by simp [Value.oneCell'])
    obtain ⟨V, hst, hld, hbV⟩ := hts
    have HV := hide (Below.step (unhide HW) hbV)
    clear hbV HW
    go_wp2_with (first | (refine wpList_storeW (by rfl) (.tmp 7) (.tmp 49) 51 (by rfl) ⟨W.heap.size, 0, none⟩ (by rfl) _ (by rfl) (by exact hst) ?_) | (refine wpList_loadW (by rfl) (.tmp 7) 51 (by rfl) ⟨W.heap.size, 0, none⟩ (by rfl) _ (by exact hld) ?_))
    clear hst hld hmf m0 m1 m2 m3 m4 m5 m6 m7 m8 m9 m10 m11 n0 n1 n2 n3 n4 n5 n6 n7 n8 n9 n10 n11
    have HD0 : Hid (D = firstOf ([(!ok, 4), (b1, 0), (b2, 2), (b3, 1), (b4, 2), (b5, 1), (b6, 3), (b7, 2), (b8, 1), (b9, 2), (b10, 1)] : List (Bool × Int))) := HD
    go_loopg [51] 11 (fun g i wr => ∃ k : Nat, k ≤ 11 ∧ g = 11 - k ∧ i = .int .i64 k ∧ Hid (Below w.heap.size w wr) ∧ Hid (D = firstOf (([(!ok, 4), (b1, 0), (b2, 2), (b3, 1), (b4, 2), (b5, 1), (b6, 3), (b7, 2), (b8, 1), (b9, 2), (b10, 1)] : List (Bool × Int)).drop k)) ∧ Hid (k = 0 ∨ ok = true))
    case atStart => exact ⟨0, Nat.zero_le _, rfl, rfl, HV, HD0, Or.inl rfl⟩
    case round =>
      clear HV HD HD0
      obtain ⟨k, hk, rfl, rfl, HB2, HDk, HOk⟩ := hrel
      generalize wr = W2 at *
      by_cases h11 : k < 11
      case neg =>
        have e11 : k = 11 := by omega
        subst e11
        clear HC0 HC1 HC2 HC3 HC4 HC5 HC6 HC7 HC8 HC9 HC10
        go_wp2
        go_ret
        exact ⟨ret_int (unhide HDk).symm, unhide HB2⟩
      have hcs : k = 0 ∨ k = 1 ∨ k = 2 ∨ k = 3 ∨ k = 4 ∨ k = 5 ∨ k = 6 ∨ k = 7 ∨ k = 8 ∨ k = 9 ∨ k = 10 := by omega
      rcases hcs with rfl | rfl | rfl | rfl | rfl | rfl | rfl | rfl | rfl | rfl | rfl
      · obtain ⟨V2, hst, hO, hbV⟩ := rule_store W2 (.func (.func 17) #[.agg #[.int .i64 ax, .int .i64 ay, .int .i64 au, .int .i64 av, .int .i64 ak, .int .i64 ad, .int .i64 cx, .int .i64 cy, .int .i64 cu, .int .i64 cv, .int .i64 ck, .int .i64 cd]] #[]) (.int .i64 4) (by simp [Value.oneCell'])
        have c0 := hO.cell (i := 0) rfl
        have HO := hide hO
        have HN := hide (Below.step (unhide HB2) hbV)
        clear hO HB2 hbV
        clear HC1 HC2 HC3 HC4 HC5 HC6 HC7 HC8 HC9 HC10 HOk
        have hix := tab_0
        go_wp2_with (refine wpList_storeW (by rfl) (.tmp 9) (.tmp 53) 50 (by rfl) ⟨W2.heap.size, 0, none⟩ (by rfl) _ (by rfl) (by exact hst) ?_)
        clear hix hst c0
        refine (unhide HC0 _).mono ?_
        rintro e w1 ⟨rfl, hb⟩
        replace HN := hide (Below.step (unhide HN) hb)
        have c1 := (OwnV.step (unhide HO) hb).cell (i := 1) rfl
        clear hb HC0 HO
        cases ok
        case false =>
          go_wp2
          go_ret
          exact ⟨ret_int (unhide HDk).symm, unhide HN⟩
        case true =>
          go_wp2
          go_roundg (11 - 1)
          case measure => omega
          case rel => exact ⟨1, by omega, rfl, by go_num, HN, unhide HDk, Or.inr (by first | exact rfl | trivial)⟩
      · obtain ⟨V2, hst, hO, hbV⟩ := rule_store W2 (.func (.func 18) #[.agg #[.int .i64 ax, .int .i64 ay, .int .i64 au, .int .i64 av, .int .i64 ak, .int .i64 ad, .int .i64 cx, .int .i64 cy, .int .i64 cu, .int .i64 cv, .int .i64 ck, .int .i64 cd]] #[]) (.int .i64 0) (by simp [Value.oneCell'])
        have c0 := hO.cell (i := 0) rfl
        have HO := hide hO
        have HN := hide (Below.step (unhide HB2) hbV)
        clear hO HB2 hbV
        have hok : ok = true := by
          rcases unhide HOk with h | h
          · exact absurd h (by decide)
          · exact h
        replace HC1 := hide (unhide HC1 hok)
        clear HC0 HC2 HC3 HC4 HC5 HC6 HC7 HC8 HC9 HC10 HOk
        have hix := tab_1
        go_wp2_with (refine wpList_storeW (by rfl) (.tmp 9) (.tmp 53) 50 (by rfl) ⟨W2.heap.size, 0, none⟩ (by rfl) _ (by rfl) (by exact hst) ?_)
        clear hix hst c0
        refine (unhide HC1 _).mono ?_
        rintro e w1 ⟨rfl, hb⟩
        replace HN := hide (Below.step (unhide HN) hb)
        have c1 := (OwnV.step (unhide HO) hb).cell (i := 1) rfl
        clear hb HC1 HO
        cases b1
        case true =>
          go_wp2
          go_ret
          exact ⟨ret_int (unhide HDk).symm, unhide HN⟩
        case false =>
          go_wp2
          go_roundg (11 - 2)
          case measure => omega
          case rel => exact ⟨2, by omega, rfl, by go_num, HN, unhide HDk, Or.inr hok⟩
      · obtain ⟨V2, hst, hO, hbV⟩ := rule_store W2 (.func (.func 19) #[.agg #[.int .i64 ax, .int .i64 ay, .int .i64 au, .int .i64 av, .int .i64 ak, .int .i64 ad, .int .i64 cx, .int .i64 cy, .int .i64 cu, .int .i64 cv, .int .i64 ck, .int .i64 cd]] #[]) (.int .i64 2) (by simp [Value.oneCell'])
        have c0 := hO.cell (i := 0) rfl
        have HO := hide hO
        have HN := hide (Below.step (unhide HB2) hbV)
        clear hO HB2 hbV
        have hok : ok = true := by
          rcases unhide HOk with h | h
          · exact absurd h (by decide)
          · exact h
        clear HC0 HC1 HC3 HC4 HC5 HC6 HC7 HC8 HC9 HC10 HOk
        have hix := tab_2
        go_wp2_with (refine wpList_storeW (by rfl) (.tmp 9) (.tmp 53) 50 (by rfl) ⟨W2.heap.size, 0, none⟩ (by rfl) _ (by rfl) (by exact hst) ?_)
        clear hix hst c0
        refine (unhide HC2 _).mono ?_
        rintro e w1 ⟨rfl, hb⟩
        replace HN := hide (Below.step (unhide HN) hb)
        have c1 := (OwnV.step (unhide HO) hb).cell (i := 1) rfl
        clear hb HC2 HO
        cases b2
        case true =>
          go_wp2
          go_ret
          exact ⟨ret_int (unhide HDk).symm, unhide HN⟩
        case false =>
          go_wp2
          go_roundg (11 - 3)
          case measure => omega
          case rel => exact ⟨3, by omega, rfl, by go_num, HN, unhide HDk, Or.inr hok⟩
      · obtain ⟨V2, hst, hO, hbV⟩ := rule_store W2 (.func (.func 19) #[.agg #[.int .i64 cx, .int .i64 cy, .int .i64 cu, .int .i64 cv, .int .i64 ck, .int .i64 cd, .int .i64 ax, .int .i64 ay, .int .i64 au, .int .i64 av, .int .i64 ak, .int .i64 ad]] #[]) (.int .i64 1) (by simp [Value.oneCell'])
        have c0 := hO.cell (i := 0) rfl
        have HO := hide hO
        have HN := hide (Below.step (unhide HB2) hbV)
        clear hO HB2 hbV
        have hok : ok = true := by
          rcases unhide HOk with h | h
          · exact absurd h (by decide)
          · exact h
        clear HC0 HC1 HC2 HC4 HC5 HC6 HC7 HC8 HC9 HC10 HOk
        have hix := tab_3
        go_wp2_with (refine wpList_storeW (by rfl) (.tmp 9) (.tmp 53) 50 (by rfl) ⟨W2.heap.size, 0, none⟩ (by rfl) _ (by rfl) (by exact hst) ?_)
        clear hix hst c0
        refine (unhide HC3 _).mono ?_
        rintro e w1 ⟨rfl, hb⟩
        replace HN := hide (Below.step (unhide HN) hb)
        have c1 := (OwnV.step (unhide HO) hb).cell (i := 1) rfl
        clear hb HC3 HO
        cases b3
        case true =>
          go_wp2
          go_ret
          exact ⟨ret_int (unhide HDk).symm, unhide HN⟩
        case false =>
          go_wp2
          go_roundg (11 - 4)
          case measure => omega
          case rel => exact ⟨4, by omega, rfl, by go_num, HN, unhide HDk, Or.inr hok⟩
      · obtain ⟨V2, hst, hO, hbV⟩ := rule_store W2 (.func (.func 20) #[.agg #[.int .i64 ax, .int .i64 ay, .int .i64 au, .int .i64 av, .int .i64 ak, .int .i64 ad, .int .i64 cx, .int .i64 cy, .int .i64 cu, .int .i64 cv, .int .i64 ck, .int .i64 cd]] #[]) (.int .i64 2) (by simp [Value.oneCell'])
        have c0 := hO.cell (i := 0) rfl
        have HO := hide hO
        have HN := hide (Below.step (unhide HB2) hbV)
        clear hO HB2 hbV
        have hok : ok = true := by
          rcases unhide HOk with h | h
          · exact absurd h (by decide)
          · exact h
        clear HC0 HC1 HC2 HC3 HC5 HC6 HC7 HC8 HC9 HC10 HOk
        have hix := tab_4
        go_wp2_with (refine wpList_storeW (by rfl) (.tmp 9) (.tmp 53) 50 (by rfl) ⟨W2.heap.size, 0, none⟩ (by rfl) _ (by rfl) (by exact hst) ?_)
        clear hix hst c0
        refine (unhide HC4 _).mono ?_
        rintro e w1 ⟨rfl, hb⟩
        replace HN := hide (Below.step (unhide HN) hb)
        have c1 := (OwnV.step (unhide HO) hb).cell (i := 1) rfl
        clear hb HC4 HO
        cases b4
        case true =>
          go_wp2
          go_ret
          exact ⟨ret_int (unhide HDk).symm, unhide HN⟩
        case false =>
          go_wp2
          go_roundg (11 - 5)
          case measure => omega
          case rel => exact ⟨5, by omega, rfl, by go_num, HN, unhide HDk, Or.inr hok⟩
      · obtain ⟨V2, hst, hO, hbV⟩ := rule_store W2 (.func (.func 20) #[.agg #[.int .i64 cx, .int .i64 cy, .int .i64 cu, .int .i64 cv, .int .i64 ck, .int .i64 cd, .int .i64 ax, .int .i64 ay, .int .i64 au, .int .i64 av, .int .i64 ak, .int .i64 ad]] #[]) (.int .i64 1) (by simp [Value.oneCell'])
        have c0 := hO.cell (i := 0) rfl
        have HO := hide hO
        have HN := hide (Below.step (unhide HB2) hbV)
        clear hO HB2 hbV
        have hok : ok = true := by
          rcases unhide HOk with h | h
          · exact absurd h (by decide)
          · exact h
        clear HC0 HC1 HC2 HC3 HC4 HC6 HC7 HC8 HC9 HC10 HOk
        have hix := tab_5
        go_wp2_with (refine wpList_storeW (by rfl) (.tmp 9) (.tmp 53) 50 (by rfl) ⟨W2.heap.size, 0, none⟩ (by rfl) _ (by rfl) (by exact hst) ?_)
        clear hix hst c0
        refine (unhide HC5 _).mono ?_
        rintro e w1 ⟨rfl, hb⟩
        replace HN := hide (Below.step (unhide HN) hb)
        have c1 := (OwnV.step (unhide HO) hb).cell (i := 1) rfl
        clear hb HC5 HO
        cases b5
        case true =>
          go_wp2
          go_ret
          exact ⟨ret_int (unhide HDk).symm, unhide HN⟩
        case false =>
          go_wp2
          go_roundg (11 - 6)
          case measure => omega
          case rel => exact ⟨6, by omega, rfl, by go_num, HN, unhide HDk, Or.inr hok⟩
      · obtain ⟨V2, hst, hO, hbV⟩ := rule_store W2 (.func (.func 21) #[.agg #[.int .i64 ax, .int .i64 ay, .int .i64 au, .int .i64 av, .int .i64 ak, .int .i64 ad, .int .i64 cx, .int .i64 cy, .int .i64 cu, .int .i64 cv, .int .i64 ck, .int .i64 cd]] #[]) (.int .i64 3) (by simp [Value.oneCell'])
        have c0 := hO.cell (i := 0) rfl
        have HO := hide hO
        have HN := hide (Below.step (unhide HB2) hbV)
        clear hO HB2 hbV
        have hok : ok = true := by
          rcases unhide HOk with h | h
          · exact absurd h (by decide)
          · exact h
        clear HC0 HC1 HC2 HC3 HC4 HC5 HC7 HC8 HC9 HC10 HOk
        have hix := tab_6
        go_wp2_with (refine wpList_storeW (by rfl) (.tmp 9) (.tmp 53) 50 (by rfl) ⟨W2.heap.size, 0, none⟩ (by rfl) _ (by rfl) (by exact hst) ?_)
        clear hix hst c0
        refine (unhide HC6 _).mono ?_
        rintro e w1 ⟨rfl, hb⟩
        replace HN := hide (Below.step (unhide HN) hb)
        have c1 := (OwnV.step (unhide HO) hb).cell (i := 1) rfl
        clear hb HC6 HO
        cases b6
        case true =>
          go_wp2
          go_ret
          exact ⟨ret_int (unhide HDk).symm, unhide HN⟩
        case false =>
          go_wp2
          go_roundg (11 - 7)
          case measure => omega
          case rel => exact ⟨7, by omega, rfl, by go_num, HN, unhide HDk, Or.inr hok⟩
      · obtain ⟨V2, hst, hO, hbV⟩ := rule_store W2 (.func (.func 22) #[.agg #[.int .i64 ax, .int .i64 ay, .int .i64 au, .int .i64 av, .int .i64 ak, .int .i64 ad, .int .i64 cx, .int .i64 cy, .int .i64 cu, .int .i64 cv, .int .i64 ck, .int .i64 cd]] #[]) (.int .i64 2) (by simp [Value.oneCell'])
        have c0 := hO.cell (i := 0) rfl
        have HO := hide hO
        have HN := hide (Below.step (unhide HB2) hbV)
        clear hO HB2 hbV
        have hok : ok = true := by
          rcases unhide HOk with h | h
          · exact absurd h (by decide)
          · exact h
        replace HC7 := hide (unhide HC7 hok)
        clear HC0 HC1 HC2 HC3 HC4 HC5 HC6 HC8 HC9 HC10 HOk
        have hix := tab_7
        go_wp2_with (refine wpList_storeW (by rfl) (.tmp 9) (.tmp 53) 50 (by rfl) ⟨W2.heap.size, 0, none⟩ (by rfl) _ (by rfl) (by exact hst) ?_)
        clear hix hst c0
        refine (unhide HC7 _).mono ?_
        rintro e w1 ⟨rfl, hb⟩
        replace HN := hide (Below.step (unhide HN) hb)
        have c1 := (OwnV.step (unhide HO) hb).cell (i := 1) rfl
        clear hb HC7 HO
        cases b7
        case true =>
          go_wp2
          go_ret
          exact ⟨ret_int (unhide HDk).symm, unhide HN⟩
        case false =>
          go_wp2
          go_roundg (11 - 8)
          case measure => omega
          case rel => exact ⟨8, by omega, rfl, by go_num, HN, unhide HDk, Or.inr hok⟩
      · obtain ⟨V2, hst, hO, hbV⟩ := rule_store W2 (.func (.func 22) #[.agg #[.int .i64 cx, .int .i64 cy, .int .i64 cu, .int .i64 cv, .int .i64 ck, .int .i64 cd, .int .i64 ax, .int .i64 ay, .int .i64 au, .int .i64 av, .int .i64 ak, .int .i64 ad]] #[]) (.int .i64 1) (by simp [Value.oneCell'])
        have c0 := hO.cell (i := 0) rfl
        have HO := hide hO
        have HN := hide (Below.step (unhide HB2) hbV)
        clear hO HB2 hbV
        have hok : ok = true := by
          rcases unhide HOk with h | h
          · exact absurd h (by decide)
          · exact h
        replace HC8 := hide (unhide HC8 hok)
        clear HC0 HC1 HC2 HC3 HC4 HC5 HC6 HC7 HC9 HC10 HOk
        have hix := tab_8
        go_wp2_with (refine wpList_storeW (by rfl) (.tmp 9) (.tmp 53) 50 (by rfl) ⟨W2.heap.size, 0, none⟩ (by rfl) _ (by rfl) (by exact hst) ?_)
        clear hix hst c0
        refine (unhide HC8 _).mono ?_
        rintro e w1 ⟨rfl, hb⟩
        replace HN := hide (Below.step (unhide HN) hb)
        have c1 := (OwnV.step (unhide HO) hb).cell (i := 1) rfl
        clear hb HC8 HO
        cases b8
        case true =>
          go_wp2
          go_ret
          exact ⟨ret_int (unhide HDk).symm, unhide HN⟩
        case false =>
          go_wp2
          go_roundg (11 - 9)
          case measure => omega
          case rel => exact ⟨9, by omega, rfl, by go_num, HN, unhide HDk, Or.inr hok⟩
      · obtain ⟨V2, hst, hO, hbV⟩ := rule_store W2 (.func (.func 23) #[.agg #[.int .i64 ax, .int .i64 ay, .int .i64 au, .int .i64 av, .int .i64 ak, .int .i64 ad, .int .i64 cx, .int .i64 cy, .int .i64 cu, .int .i64 cv, .int .i64 ck, .int .i64 cd]] #[]) (.int .i64 2) (by simp [Value.oneCell'])
        have c0 := hO.cell (i := 0) rfl
        have HO := hide hO
        have HN := hide (Below.step (unhide HB2) hbV)
        clear hO HB2 hbV
        have hok : ok = true := by
          rcases unhide HOk with h | h
          · exact absurd h (by decide)
          · exact h
        clear HC0 HC1 HC2 HC3 HC4 HC5 HC6 HC7 HC8 HC10 HOk
        have hix := tab_9
        go_wp2_with (refine wpList_storeW (by rfl) (.tmp 9) (.tmp 53) 50 (by rfl) ⟨W2.heap.size, 0, none⟩ (by rfl) _ (by rfl) (by exact hst) ?_)
        clear hix hst c0
        refine (unhide HC9 _).mono ?_
        rintro e w1 ⟨rfl, hb⟩
        replace HN := hide (Below.step (unhide HN) hb)
        have c1 := (OwnV.step (unhide HO) hb).cell (i := 1) rfl
        clear hb HC9 HO
        cases b9
        case true =>
          go_wp2
          go_ret
          exact ⟨ret_int (unhide HDk).symm, unhide HN⟩
        case false =>
          go_wp2
          go_roundg (11 - 10)
          case measure => omega
          case rel => exact ⟨10, by omega, rfl, by go_num, HN, unhide HDk, Or.inr hok⟩
      · obtain ⟨V2, hst, hO, hbV⟩ := rule_store W2 (.func (.func 23) #[.agg #[.int .i64 cx, .int .i64 cy, .int .i64 cu, .int .i64 cv, .int .i64 ck, .int .i64 cd, .int .i64 ax, .int .i64 ay, .int .i64 au, .int .i64 av, .int .i64 ak, .int .i64 ad]] #[]) (.int .i64 1) (by simp [Value.oneCell'])
        have c0 := hO.cell (i := 0) rfl
        have HO := hide hO
        have HN := hide (Below.step (unhide HB2) hbV)
        clear hO HB2 hbV
        have hok : ok = true := by
          rcases unhide HOk with h | h
          · exact absurd h (by decide)
          · exact h
        clear HC0 HC1 HC2 HC3 HC4 HC5 HC6 HC7 HC8 HC9 HOk
        have hix := tab_10
        go_wp2_with (refine wpList_storeW (by rfl) (.tmp 9) (.tmp 53) 50 (by rfl) ⟨W2.heap.size, 0, none⟩ (by rfl) _ (by rfl) (by exact hst) ?_)
        clear hix hst c0
        refine (unhide HC10 _).mono ?_
        rintro e w1 ⟨rfl, hb⟩
        replace HN := hide (Below.step (unhide HN) hb)
        have c1 := (OwnV.step (unhide HO) hb).cell (i := 1) rfl
        clear hb HC10 HO
        cases b10
        case true =>
          go_wp2
          go_ret
          exact ⟨ret_int (unhide HDk).symm, unhide HN⟩
        case false =>
          go_wp2
          go_roundg (11 - 11)
          case measure => omega
          case rel => exact ⟨11, by omega, rfl, by go_num, HN, unhide HDk, Or.inr hok⟩

end Go.Proofs.Ytcljgaofpeaplaa

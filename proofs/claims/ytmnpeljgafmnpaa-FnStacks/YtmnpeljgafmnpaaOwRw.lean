/- Rows of bytes of the call's own, which may bear the run-time's mark behind their last cell: stores, texts, appends of one byte. No statement about the program stands here. -/
import Derived.Test.YtmnpeljgafmnpaaDgM
import Derived.Test.YtmnpeljgafmnpaaKept
import Derived.Test.YtmnpeljgafmnpaaGrow
import Derived.Deep.RegionLaw
import Derived.ArgAppend
import Derived.Laws.IdiomStrings
namespace Go.Proofs.Ytmnpeljgafmnpaa
open Go.RowKit

theorem Try.infoU8 : (Try.prog.info? 5).map (fun i => (i.zero, i.size, i.bytes)) = some (some (.int .u8 0), 1, 1) := by kernel_rfl

/-- Bytes in a block g that is the call's own: the first n of its cap cells; none of the cells is frozen. -/
structure M8 (w : World) (g n cap : Nat) (X : List Int) : Prop where
  len : X.length = n
  room : n ≤ cap
  most : cap ≤ maxLen
  row : ∃ cur lo hi, w.heap[g]? = some (.cells cur 5 (lo, hi)) ∧ cur.size = cap ∧ (cap ≤ lo ∨ hi = 0) ∧ ∀ i, i < n → cur[i]? = some (.int .u8 (X.getD i 0))
namespace M8
variable {w w' : World} {g n cap : Nat} {X : List Int}
theorem lt (h : M8 w g n cap X) : g < w.heap.size := by
  obtain ⟨cur, lo, hi, hh, _⟩ := h.row
  exact (Array.getElem?_eq_some_iff.1 hh).1
theorem of_block (h : M8 w g n cap X) (e : w'.heap[g]? = w.heap[g]?) : M8 w' g n cap X := by
  obtain ⟨cur, lo, hi, hh, r⟩ := h.row
  exact ⟨h.len, h.room, h.most, cur, lo, hi, e.trans hh, r⟩
theorem below (h : M8 w g n cap X) (hb : Below w.heap.size w w') : M8 w' g n cap X := h.of_block (hb.block g h.lt)
theorem kept {T : Nat → Prop} (h : M8 w g n cap X) (hk : Kept T w w') (hg : ¬ T g) : M8 w' g n cap X := h.of_block (hk.block g h.lt hg)
theorem drew (h : M8 w g n cap X) : M8 w.drew g n cap X := h.of_block rfl
theorem cell (h : M8 w g n cap X) {i : Nat} (hi : i < n) : w.cell? ⟨g, i, none⟩ = some (.int .u8 (X.getD i 0)) := by
  obtain ⟨cur, lo, hi', hh, _, _, hc⟩ := h.row
  simp [World.cell?, hh, hc i hi]
theorem cell_some (h : M8 w g n cap X) {i : Nat} (hi : i < cap) : (w.cell? ⟨g, i, none⟩).isSome = true := by
  obtain ⟨cur, lo, hi', hh, hs, _, _⟩ := h.row
  simp [World.cell?, hh, hs, hi]
theorem frozen (h : M8 w g n cap X) {i : Nat} (hi : i < cap) : w.frozen? ⟨g, i, none⟩ = false := by
  obtain ⟨cur, lo, hi', hh, hs, hf, _⟩ := h.row
  simp only [World.frozen?, hh]
  rcases hf with hf | hf
  · simp; omega
  · simp [hf]
theorem set (h : M8 w g n cap X) {i : Nat} (hi : i < n) (x : Int) : M8 (w.setCell ⟨g, i, none⟩ (.int .u8 x)) g n cap (X.set i x) := by
  obtain ⟨cur, lo, hi', hh, hs, hf, hc⟩ := h.row
  refine ⟨by rw [List.length_set]; exact h.len, h.room, h.most, cur.setIfInBounds i (.int .u8 x), lo, hi', by simp [World.setCell, Array.getElem?_modify, hh], by simpa using hs, hf, fun j hj => ?_⟩
  rw [Array.getElem?_setIfInBounds, getD_setN X i j x (by rw [h.len]; exact hi)]
  by_cases e : i = j
  · subst e
    have := h.room
    rw [if_pos rfl, if_pos rfl, if_pos (by omega)]
  · rw [if_neg e, if_neg (fun h => e h.symm), hc j hj]
/-- The first m of it. -/
theorem take (h : M8 w g n cap X) {m : Nat} (hm : m ≤ n) : M8 w g m cap (X.take m) := by
  obtain ⟨cur, lo, hi', hh, hs, hf, hc⟩ := h.row
  refine ⟨by rw [List.length_take, h.len]; omega, by have := h.room; omega, h.most, cur, lo, hi', hh, hs, hf, fun j hj => ?_⟩
  rw [hc j (by omega)]
  simp [List.getD, hj]
theorem text (h : M8 w g n cap X) (c : Nat) : (convert 22 9 (.slice (some ⟨g, 0, none⟩) n c)).run Try.prog w = .ok (.string (strOfNums X)) w :=
  run_convert_bytes_arg w _ _ Try.underlying22 Try.underlying5 g 0 n c X h.len (fun i hi => by rw [Nat.zero_add]; exact h.cell hi) _ Try.underlying9
end M8
theorem below_set {w w' : World} {B g : Nat} (h : Below B w w') (hg : B ≤ g) (i : Nat) (v : Value) : Below B w (w'.setCell ⟨g, i, none⟩ v) :=
  h.trans ⟨rfl, rfl, rfl, by simp [World.setCell], fun k hk => Below.heap_setCell _ _ _ _ (fun e => by simp only at e; omega)⟩
theorem m8_of_owns {w : World} {B g n cap : Nat} {X : List Int} (h : w.ownsRow B 5 1 (.slice (some ⟨g, 0, none⟩) n cap) n (by8 X)) : M8 w g n cap X := by
  obtain ⟨h1, h2⟩ := h
  rw [by8_len] at h1
  rcases h2 with ⟨hv, _⟩ | ⟨g', cap', cur, hv, hg, hh, hc, hm, hs, ht⟩
  · cases hv
  · simp only [Value.slice.injEq, Option.some.injEq, Addr.mk.injEq, and_true, true_and] at hv
    obtain ⟨rfl, rfl⟩ := hv
    refine ⟨by omega, hc, hm, cur, 0, 0, hh, by omega, Or.inr rfl, fun i hi => ?_⟩
    have := by8_get X (i := i) (by omega)
    rw [← ht, List.getElem?_take, if_pos (by omega)] at this
    simpa using this
theorem m8_lit (w : World) (X : List Int) (n lo hi : Nat) (hn : X.length = n) (hf : n ≤ lo ∨ hi = 0) (hm : n ≤ maxLen) : M8 (w.alloc (.cells (by8 X).toArray 5 (lo, hi))) w.heap.size n n X := by
  refine ⟨hn, Nat.le_refl _, hm, (by8 X).toArray, lo, hi, Go.Deep.blk_alloc_new _ _, by simp [by8_len, hn], hf, fun i hi => ?_⟩
  have := by8_get X (i := i) (by omega)
  simpa using this

theorem freeze_new (w : World) (C : Array Value) (e : TypeId) (n : Nat) : (w.alloc (.cells C e)).freeze ⟨w.heap.size, n, none⟩ 1 = w.alloc (.cells C e (n, n + 1)) := by
  have hm : ∀ (a : Array Obj) (x : Obj) (f : Obj → Obj), (a.push x).modify a.size f = a.push (f x) := by
    intro a x f
    apply Array.ext
    · simp
    · intro i h1 h2
      simp only [Array.getElem_modify, Array.getElem_push]
      by_cases h : a.size = i
      · subst h
        simp
      · have hi : i < a.size := by simp at h1; omega
        simp [h, hi]
  unfold World.freeze
  rw [if_neg (by decide)]
  show ({ w.alloc (.cells C e) with heap := (w.heap.push (.cells C e)).modify w.heap.size _ } : World) = _
  rw [hm]
  rfl
/-- A conversion of a literal's bytes: the row bears the run-time's mark. -/
theorem run_conv_lit (w : World) (C : Array Value) (n c : Nat) : (convert 22 22 (.slice (some ⟨w.heap.size, 0, none⟩) n c)).run Try.prog (w.alloc (.cells C 5)) = .ok (.slice (some ⟨w.heap.size, 0, none⟩) n c) (w.alloc (.cells C 5 (C.size, C.size + 1))) := by
  have hsh : (w.alloc (.cells C 5)).shape? w.heap.size = some (5, C.size) := by
    have : (w.alloc (.cells C 5)).heap[w.heap.size]? = some (.cells C 5) := by
      show (w.heap.push (.cells C 5))[w.heap.size]? = _
      simp
    unfold World.shape?
    rw [this]
  simp [convert, run_underlying Try.underlying22, run_underlying Try.underlying5, markStringish, hsh]
  exact freeze_new _ _ _ _

theorem run_app8 (w : World) (ty : TypeId) {g n cap : Nat} {X : List Int} (h : M8 w g n cap X) (hn : n ≤ 1000) (G : Nat) (d : Int) (c : Nat) (hG : w.cell? ⟨G, 0, none⟩ = some (.int .u8 d)) :
    ∃ g' cap' w', (Builtin.append_ #[22, 22] ty #[.slice (some ⟨g, 0, none⟩) n cap, .slice (some ⟨G, 0, none⟩) 1 c]).run Try.prog w = .ok (.slice (some ⟨g', 0, none⟩) (n + 1) cap') w' ∧
      M8 w' g' (n + 1) cap' (X ++ [d]) ∧ Kept (fun b => b = g ∧ n < cap) w w' ∧ (g' = g ∨ w.heap.size ≤ g') := by
  obtain ⟨i0, hinf, hzz⟩ := Option.map_eq_some_iff.1 Try.infoU8
  simp only [Prod.mk.injEq] at hzz
  obtain ⟨hz0, hz1, hz2⟩ := hzz
  have hnews : ∀ j u, [Value.int .u8 d][j]? = some u → w.cell? ((⟨G, 0, none⟩ : Addr).add j) = some u := fun j u hu => by
    rcases j with _ | j
    · simp at hu
      subst hu
      simpa [Addr.add] using hG
    · simp at hu
  by_cases hr : n + 1 ≤ cap
  · have hrun := run_append_room_cells (P := Try.prog) w 22 ty 5 i0 Try.underlying22 hinf g 0 n cap ⟨G, 0, none⟩ 1 c [.int .u8 d] (by rw [hz1]; rfl) hnews (by simp [Value.oneCell']) hr
      (fun j hj => by simp at hj; subst hj; rw [hz1]; simpa using h.cell_some (i := n) (by omega)) (fun j hj => by simp at hj; subst hj; rw [hz1]; simpa using h.frozen (i := n) (by omega))
    simp only [hz1, Nat.mul_one, Nat.zero_add, World.setCells] at hrun
    refine ⟨g, cap, _, hrun, ?_, (Kept.refl _ w).setCell (p := ⟨g, n, none⟩) ⟨rfl, by omega⟩ _, Or.inl rfl⟩
    obtain ⟨cur, lo, hi', hh, hs, hf, hc⟩ := h.row
    have hl := h.len
    refine ⟨by simp [hl], hr, h.most, cur.setIfInBounds n (.int .u8 d), lo, hi', by simp [World.setCell, Array.getElem?_modify, hh], by simpa using hs, hf, fun j hj => ?_⟩
    rw [Array.getElem?_setIfInBounds]
    by_cases e : n = j
    · subst e
      rw [if_pos rfl, if_pos (by omega)]
      simp [List.getD, ← hl]
    · rw [if_neg e, hc j (by omega)]
      simp [List.getD, List.getElem?_append_left (show j < X.length by omega)]
  · obtain ⟨v', w', hrun, ho, hg⟩ := run_append_arg_grows (P := Try.prog) w 22 ty 5 i0 _ 1 1 Try.underlying22 hinf hz0 hz1 hz2 rfl (by decide) ⟨g, 0, none⟩ n cap (by8 X) (by rw [by8_len, h.len]; omega) (fun j u hu => by
      have hj : j < n := by
        have := (List.getElem?_eq_some_iff.1 hu).1
        rw [by8_len, h.len] at this
        exact this
      rw [by8_get X (by rw [h.len]; exact hj)] at hu
      cases hu
      have ha : (⟨g, 0, none⟩ : Addr).add j = ⟨g, j, none⟩ := by unfold Addr.add; split <;> simp_all
      rw [ha]
      exact h.cell hj) ⟨G, 0, none⟩ 1 c [.int .u8 d] rfl hnews (by omega) (by unfold maxLen; omega) (by omega)
    rw [by8_app] at ho
    have ho' := ho
    rcases ho.2 with ⟨hv, hn0⟩ | ⟨g', cap', cur, hv, hg', _⟩
    · omega
    · subst hv
      exact ⟨g', cap', w', hrun, m8_of_owns ho', ⟨hg.os, hg.tape, hg.output, hg.size, fun k hk _ => hg.block k hk (by simp)⟩, Or.inr hg'⟩
theorem wpList_app8 (w : World) {ops : Array Oper} {rest : List Oper} {o : Oper} {a : Act} {Q : Exit → Act → World → Prop} (hwt : Region.wanted o (yielded ops a.tmps) = true) (s x : Operand)
    (ho : o.op = .call { callee := .builtin .append, args := #[s, x], argTypes := #[22, 22] })
    (g n cap : Nat) (X : List Int) (hs : a.eval s = .slice (some ⟨g, 0, none⟩) n cap) (h : M8 w g n cap X) (hn : n ≤ 1000) (G : Nat) (d : Int) (c : Nat) (hx : a.eval x = .slice (some ⟨G, 0, none⟩) 1 c) (hG : w.cell? ⟨G, 0, none⟩ = some (.int .u8 d))
    (hK : ∀ g' cap' w', M8 w' g' (n + 1) cap' (X ++ [d]) → Kept (fun b => b = g ∧ n < cap) w w' → (g' = g ∨ w.heap.size ≤ g') → wpList Try.prog ops Q rest (a.put o.dst (.slice (some ⟨g', 0, none⟩) (n + 1) cap')) w') : wpList Try.prog ops Q (o :: rest) a w := by
  refine wpList_step fun K hK' => ?_
  rw [if_pos hwt]
  obtain ⟨g', cap', w', hr, h2, h3, h4⟩ := run_app8 w o.type h hn G d c hG
  unfold Oper.wp execOp
  simp only [ho, resolve, invoke, builtin, Sem.run_bind, Sem.run_pure, Result.andThen_ok, List.map_toArray, List.map_cons, List.map_nil, hs, hx, hr]
  exact hK' _ _ (hK g' cap' w' h2 h3 h4)
theorem step_app8 {w : World} {ops : Array Oper} {o : Oper} {a : Act} {K : Act → World → Prop} {Q : Exit → Act → World → Prop} {E : Prop} (hwt : Region.wanted o (yielded ops a.tmps) = true) (s x : Operand)
    (ho : o.op = .call { callee := .builtin .append, args := #[s, x], argTypes := #[22, 22] })
    (g n cap : Nat) (X : List Int) (hs : a.eval s = .slice (some ⟨g, 0, none⟩) n cap) (h : M8 w g n cap X) (hn : n ≤ 1000) (G : Nat) (d : Int) (c : Nat) (hx : a.eval x = .slice (some ⟨G, 0, none⟩) 1 c) (hG : w.cell? ⟨G, 0, none⟩ = some (.int .u8 d))
    (hK : ∀ g' cap' w', M8 w' g' (n + 1) cap' (X ++ [d]) → Kept (fun b => b = g ∧ n < cap) w w' → (g' = g ∨ w.heap.size ≤ g') → K (a.put o.dst (.slice (some ⟨g', 0, none⟩) (n + 1) cap')) w') :
    if Region.wanted o (yielded ops a.tmps) = true then Oper.wp Try.prog o a w K Q else E := by
  rw [if_pos hwt]
  obtain ⟨g', cap', w', hr, h2, h3, h4⟩ := run_app8 w o.type h hn G d c hG
  unfold Oper.wp execOp
  simp only [ho, resolve, invoke, builtin, Sem.run_bind, Sem.run_pure, Result.andThen_ok, List.map_toArray, List.map_cons, List.map_nil, hs, hx, hr]
  exact hK g' cap' w' h2 h3 h4
/-- A call of a function of 1 argument, as one step of a region that draws its order. -/
theorem step_fun1 {P : Program} {w : World} {ops : Array Oper} {o : Oper} {a : Act} {K : Act → World → Prop} {Q : Exit → Act → World → Prop} {E : Prop} (hwt : Region.wanted o (yielded ops a.tmps) = true) (f : FuncId) (x0 : Operand) (ts : Array TypeId)
    (ho : o.op = .call { callee := .value (.func f), args := #[x0], argTypes := ts }) (u0 : Value) (h0 : a.eval x0 = u0) (hf : (callFunc f #[u0]).run P w = .ok (.enter f #[u0]) w) (v : Value) (R : World → Prop) (hc : Calls P f #[u0] w fun e w' => e = .returned v ∧ R w') (h : ∀ w', R w' → K (a.put o.dst v) w') :
    if Region.wanted o (yielded ops a.tmps) = true then Oper.wp P o a w K Q else E := by
  rw [if_pos hwt]
  unfold Oper.wp
  have hr : (execOp a.eval o).run P w = .ok (.enter f #[u0]) w := by
    have he : execOp a.eval o = callFunc f (#[] ++ #[x0].map a.eval ++ #[]) := by
      obtain ⟨_, _, _, _, _, _⟩ := o
      simp only at ho
      subst ho
      rfl
    rw [he]
    simp [h0, hf]
  rw [hr, Oper.upon_enter]
  refine hc.mono ?_
  rintro e w' ⟨rfl, hR⟩
  exact h w' hR
/-- A call of a function of 2 arguments, as one step of a region that draws its order. -/
theorem step_fun2 {P : Program} {w : World} {ops : Array Oper} {o : Oper} {a : Act} {K : Act → World → Prop} {Q : Exit → Act → World → Prop} {E : Prop} (hwt : Region.wanted o (yielded ops a.tmps) = true) (f : FuncId) (x0 x1 : Operand) (ts : Array TypeId)
    (ho : o.op = .call { callee := .value (.func f), args := #[x0, x1], argTypes := ts }) (u0 u1 : Value) (h0 : a.eval x0 = u0) (h1 : a.eval x1 = u1) (hf : (callFunc f #[u0, u1]).run P w = .ok (.enter f #[u0, u1]) w) (v : Value) (R : World → Prop) (hc : Calls P f #[u0, u1] w fun e w' => e = .returned v ∧ R w') (h : ∀ w', R w' → K (a.put o.dst v) w') :
    if Region.wanted o (yielded ops a.tmps) = true then Oper.wp P o a w K Q else E := by
  rw [if_pos hwt]
  unfold Oper.wp
  have hr : (execOp a.eval o).run P w = .ok (.enter f #[u0, u1]) w := by
    have he : execOp a.eval o = callFunc f (#[] ++ #[x0, x1].map a.eval ++ #[]) := by
      obtain ⟨_, _, _, _, _, _⟩ := o
      simp only at ho
      subst ho
      rfl
    rw [he]
    simp [h0, h1, hf]
  rw [hr, Oper.upon_enter]
  refine hc.mono ?_
  rintro e w' ⟨rfl, hR⟩
  exact h w' hR
/-- An append to a row that is full leaves all that was there. -/
theorem kept_full {g n : Nat} {w w' : World} (h : Kept (fun b => b = g ∧ n < n) w w') : Below w.heap.size w w' := h.below (Nat.le_refl _) (fun k hk => by omega)

end Go.Proofs.Ytmnpeljgafmnpaa

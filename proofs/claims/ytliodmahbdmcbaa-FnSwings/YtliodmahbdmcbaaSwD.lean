/- The contract of the program's Swings. -/
import Derived.Test.YtliodmahbdmcbaaSwC
import Derived.Maps.OwnIn
import Derived.Sort.LoopGhostIn
import Derived.Stop.RegionWithIn
namespace Go.Proofs.Ytliodmahbdmcbaa
open Go.RowKit Go.Shelf

attribute [local go_sem] Oper.semAt_some

theorem inR {n l : Nat} {P : Program} {f : FuncId} {args : Array Value} {w : World} {R : Ending → World → Prop} (h : Calls P f args w R) : CallsIn (Fence.wide.inRound l) n P f args w R := (callsIn_wide (n := n)).2 h

/-- What Swings holds between two rounds: what it told in block N, the stack in block N + 1, the list for turning in block N + 2; its rows from N + 12 on. -/
structure SwI (N : Nat) (w : World) (lv : Value) (xs : List Int) (out : List Sw) (A : World) : Prop where
  both : ∃ v gb, Boxed A N 35 v ∧ A.ownsRow (N + 12) 38 2 v out.length (recCells 2 eSw out) ∧ Stk A (N + 1) gb xs ∧ ∀ g, gb = some g → N + 12 ≤ g ∧ v.ownBlock ≠ some g
  list : Boxed A (N + 2) 24 lv
  below : Below N w A

theorem SwI.kept {N : Nat} {w : World} {lv : Value} {xs : List Int} {out : List Sw} {A B : World} {T : Nat → Prop} (h : SwI N w lv xs out A) (hN : N = w.heap.size) (hk : Kept T A B) (hT : ∀ k, T k → N + 3 ≤ k ∧ k < N + 12) : SwI N w lv xs out B := by
  obtain ⟨v, gb, hv, hr, hs, hg⟩ := h.both
  refine ⟨⟨v, gb, (hk.block N hv.lt (fun e => by have := hT _ e; omega)).trans hv, ownsRow_keptT hr hk (fun k h1 h2 => by have := hT _ h2; omega), ?_, hg⟩, (hk.block (N + 2) h.list.lt (fun e => by have := hT _ e; omega)).trans h.list, ?_⟩
  · refine hs.same (hk.block _ hs.lt (fun e => by have := hT _ e; omega)) (fun g e => ?_)
    subst e
    exact hk.block _ hs.gb_lt (fun e => by have := hT _ e; have := hg g rfl; omega)
  · exact h.below.trans (hk.below (by have := h.below.size; omega) (fun k e => by have := hT _ e; omega))

/-- Only what a round of Swings may turn has turned. -/
abbrev SwT (N : Nat) (k : Nat) : Prop := k = N ∨ k = N + 1 ∨ N + 12 ≤ k

theorem lvl_of {L ts : List Int} (hl : lvOk L = true) (ht : ts.length ≤ 201) (hm : ∀ y ∈ ts, y ∈ L) : lvl (swSt ts).1 ∧ (swSt ts).2.length + (swSt ts).1.length ≤ ts.length := by
  have h := swSt_inv ts ht (fun x hx => by
    simp only [lvOk, Bool.and_eq_true, List.all_eq_true] at hl
    have := hl.2 x (hm x hx)
    simp only [inB, Bool.and_eq_true, decide_eq_true_eq] at this
    exact this) ts.length (Nat.le_refl _)
  rwa [List.take_length] at h

theorem Try.infoSw : (Try.prog.info? 38).map (fun i => (i.zero, i.size, i.bytes)) = some (some (.agg #[.int .i64 0, .bool false]), 2, 16) := by kernel_rfl

theorem recCells_snocS (L : List Sw) (p : Sw) : recCells 2 eSw (L ++ [p]) = recCells 2 eSw L ++ [.int .i64 p.1, .bool p.2] := by
  apply List.ext_getElem?
  intro q
  rcases Nat.lt_or_ge q ((L ++ [p]).length * 2) with hq | hq
  · rw [recCells_at _ hq, List.getElem?_append, recCells_length]
    simp only [List.length_append, List.length_singleton] at hq
    by_cases h1 : q < L.length * 2
    · rw [if_pos h1, recCells_at _ h1]
      simp [List.getD, List.getElem?_append_left (show q / 2 < L.length by omega)]
    · rw [if_neg h1]
      have e1 : q / 2 = L.length := by omega
      have e2 : (L ++ [p]).getD (q / 2) default = p := by rw [e1]; simp [List.getD]
      rw [e2]
      rcases Nat.lt_or_ge (q % 2) 1 with h2 | h2
      · have : q - L.length * 2 = 0 := by omega
        rw [this, show q % 2 = 0 by omega]; rfl
      · have : q - L.length * 2 = 1 := by omega
        rw [this, show q % 2 = 1 by omega]; rfl
  · rw [List.getElem?_eq_none (by rw [recCells_length]; exact hq), List.getElem?_eq_none (by simp [recCells_length] at hq ⊢; omega)]

/-- append of what the call owns, as one step of a region that draws, inside a fence. -/
theorem step_append_own_atIn {F : Fence} {nF : Nat} {P : Program} {w : World} {ops : Array Oper} {o : Oper} {a : Act} {K : Act → World → Prop} {Q : Exit → Act → World → Prop} {E : Prop} (hgd : o.guard = none) (s x : Operand) (t : TypeId)
    (ho : o.op = .call { callee := .builtin .append, args := #[s, x], argTypes := #[t, t] })
    (base : Nat) (e : TypeId) (i : TypeInfo) (z : Value) (size bytes : Nat) (ht : P.underlying t = some (.slice e)) (hi : P.info? e = some i) (hz : i.zero = some z)
    (hsize : i.size = size) (hby : i.bytes = bytes) (hzs : z.cells.size = size) (hsz : 0 < size)
    (v : Value) (n : Nat) (xs : List Value) (hs : a.eval s = v) (hown : w.ownsRow base e size v n xs)
    (ad : Addr) (m c : Nat) (news : List Value) (hx : a.eval x = .slice (some ad) m c) (hl : news.length = m * size) (hnews : ∀ j u, news[j]? = some u → w.cell? (ad.add j) = some u) (h1 : ∀ u ∈ news, u.oneCell' = true)
    (h63 : n + m ≤ maxLen) (hbytes : (n + m) * bytes ≤ 140737488355328) (hbase : base ≤ w.heap.size)
    (h : ∀ v' w', w'.ownsRow base e size v' (n + m) (xs ++ news) → w.grownBy w' v.ownBlock → (v' = .slice none 0 0 ↔ v = .slice none 0 0 ∧ m = 0) → (v'.ownBlock = v.ownBlock ∨ v'.ownBlock = some w.heap.size) → K (a.put o.dst v') w') :
    if Region.wanted o (yielded ops a.tmps) = true then Oper.wpIn F nF P o a w K Q else E := by
  have hw : Region.wanted o (yielded ops a.tmps) = true := by simp [Region.wanted, hgd]
  rw [if_pos hw]
  obtain ⟨v', w', hr, h2, h3, h4, h5⟩ := run_append_own_at (P := P) w base t o.type e i z size bytes ht hi hz hsize hby hzs hsz v n xs hown ad m c news hl hnews h1 h63 hbytes hbase
  unfold Oper.wpIn
  refine ⟨by simp [Oper.about, ho, resolve, Target.leads, Sem.run_pure], ?_⟩
  rw [Oper.semAt_plain F _ _ (by rw [ho]; intro c hc'; cases hc')]
  simp [execOp, ho, resolve, invoke, builtin, hs, hx, hr, Result.andThen]
  exact h v' w' h2 h3 h4 h5

theorem cell_two_new (w : World) (x y : Value) (t : TypeId) : ∀ j u, [x, y][j]? = some u → (w.alloc (.cells #[x, y] t)).cell? ((⟨w.heap.size, 0, none⟩ : Addr).add j) = some u := by
  intro j u hj
  match j, hj with
  | 0, hj => simp at hj; subst hj; simp [Go.WideShapes.add_plain]
  | 1, hj => simp at hj; subst hj; simp [Go.WideShapes.add_plain]
  | j + 2, hj => simp at hj

/-- The stack has turned; what was told has not. -/
theorem swI_turn {N : Nat} {w : World} {lv v : Value} {gb gb1 : Option Nat} {xs ys : List Int} {out : List Sw} {A A1 : World} (hN : N = w.heap.size) (hI : SwI N w lv xs out A) (hlo : N + 12 ≤ A.heap.size)
    (hv : Boxed A N 35 v) (hrow : A.ownsRow (N + 12) 38 2 v out.length (recCells 2 eSw out)) (hgb : ∀ g, gb = some g → N + 12 ≤ g ∧ v.ownBlock ≠ some g)
    (stk : Stk A1 (N + 1) gb1 ys) (kept : Kept (fun k => k = N + 1 ∨ gb = some k) A A1) (own : gb1 = gb ∨ ∃ g, gb1 = some g ∧ A.heap.size ≤ g) :
    SwI N w lv ys out A1 ∧ Kept (SwT N) A A1 ∧ Boxed A1 N 35 v ∧ A1.ownsRow (N + 12) 38 2 v out.length (recCells 2 eSw out) ∧ ∀ g, gb1 = some g → N + 12 ≤ g ∧ v.ownBlock ≠ some g := by
  have b1 : Boxed A1 N 35 v := (kept.block N hv.lt (fun e => by rcases e with e | e; (· omega); (· have := hgb _ e; omega))).trans hv
  have r1 : A1.ownsRow (N + 12) 38 2 v out.length (recCells 2 eSw out) := by
    obtain ⟨h1, h2⟩ := hrow
    refine ⟨h1, ?_⟩
    rcases h2 with h2 | ⟨g, cap, cur, hv', hg, hh, r⟩
    · exact Or.inl h2
    · obtain ⟨hlt, _⟩ := Array.getElem?_eq_some_iff.1 hh
      exact Or.inr ⟨g, cap, cur, hv', hg, (kept.block g hlt (fun e => by rcases e with e | e; (· omega); (· exact (hgb _ e).2 (by rw [hv']; rfl)))).trans hh, r⟩
  have g1 : ∀ g, gb1 = some g → N + 12 ≤ g ∧ v.ownBlock ≠ some g := fun g e => by
    rcases own with h | ⟨g', h, h'⟩
    · exact hgb g (by rw [← h]; exact e)
    · rw [h] at e; cases e
      exact ⟨by omega, fun e => by have := (hrow.lt g e).2; omega⟩
  exact ⟨⟨⟨v, gb1, b1, r1, stk, g1⟩, (kept.block _ hI.list.lt (fun e => by rcases e with e | e; (· omega); (· have := hgb _ e; omega))).trans hI.list, hI.below.trans (kept.below (by omega) (fun k e => by rcases e with e | e; (· omega); (· have := hgb _ e; omega)))⟩,
    kept.mono (fun k _ e => by rcases e with e | e; (· exact Or.inr (Or.inl e)); (· exact Or.inr (Or.inr (hgb _ e).1))), b1, r1, g1⟩

/-- One swing more was told. -/
theorem swI_told {N : Nat} {w : World} {lv v v' : Value} {gb : Option Nat} {xs : List Int} {out : List Sw} {s : Sw} {A A1 A2 : World} (hN : N = w.heap.size) (hI : SwI N w lv xs out A) (hlo : N + 12 ≤ A.heap.size)
    (hv : Boxed A N 35 v) (hrow : A.ownsRow (N + 12) 38 2 v out.length (recCells 2 eSw out)) (hst : Stk A (N + 1) gb xs) (hgb : ∀ g, gb = some g → N + 12 ≤ g ∧ v.ownBlock ≠ some g)
    (hA1 : Below A.heap.size A A1) (hown : A2.ownsRow (N + 12) 38 2 v' (out.length + 1) (recCells 2 eSw out ++ [.int .i64 s.1, .bool s.2])) (hgrow : A1.grownBy A2 v.ownBlock) (hat : v'.ownBlock = v.ownBlock ∨ v'.ownBlock = some A1.heap.size) :
    A2.cell? ⟨N, 0, none⟩ = some v ∧ A2.frozen? ⟨N, 0, none⟩ = false ∧ SwI N w lv xs (out ++ [s]) (A2.setCell ⟨N, 0, none⟩ v') ∧ Kept (SwT N) A (A2.setCell ⟨N, 0, none⟩ v') ∧ ∃ ao cap, v' = .slice ao (out.length + 1) cap := by
  have hob : ∀ g, v.ownBlock = some g → N + 12 ≤ g ∧ g < A.heap.size := fun g hg => hrow.lt g hg
  have hz1 := hA1.size
  have same : ∀ k, k < A.heap.size → v.ownBlock ≠ some k → A2.heap[k]? = A.heap[k]? := fun k h1 h2 => (hgrow.block k (by omega) (fun e => h2 e.symm)).trans (hA1.block k h1)
  have b2 : Boxed A2 N 35 v := (same N hv.lt (fun e => by have := hob _ e; omega)).trans hv
  have st : ∀ k, k ≠ N → k < A.heap.size → v.ownBlock ≠ some k → (A2.setCell ⟨N, 0, none⟩ v').heap[k]? = A.heap[k]? := fun k h0 h1 h2 => (Below.heap_setCell _ _ _ k (fun e => h0 e)).trans (same k h1 h2)
  have kp : Kept (SwT N) A (A2.setCell ⟨N, 0, none⟩ v') := by
    refine Kept.setCell ?_ (p := ⟨N, 0, none⟩) (Or.inl rfl) _
    exact ⟨hgrow.os.trans hA1.os, hgrow.tape.trans hA1.tape, hgrow.output.trans hA1.output, by have := hgrow.size; omega, fun k h1 h2 => same k h1 (fun e => h2 (Or.inr (Or.inr (hob _ e).1)))⟩
  have ho2 := ownsRow_keptT hown ((Kept.refl (fun k => k = N) A2).setCell (p := ⟨N, 0, none⟩) rfl v') (fun k h e => by omega)
  refine ⟨b2.cell, b2.frozen, ⟨⟨v', gb, b2.set _, by rw [recCells_snocS]; simpa using ho2, ?_, fun g hg => ⟨(hgb g hg).1, fun e => ?_⟩⟩, ?_, ?_⟩, kp, ?_⟩
  · refine hst.same (st _ (by omega) hst.lt (fun e => by have := hob _ e; omega)) (fun g e => ?_)
    subst e
    exact st g (by have := hgb g rfl; omega) hst.gb_lt (hgb g rfl).2
  · rcases hat with h | h
    · exact (hgb g hg).2 (h ▸ e)
    · rw [h] at e; cases e; subst hg
      have := hst.gb_lt; omega
  · exact (st _ (by omega) hI.list.lt (fun e => by have := hob _ e; omega)).trans hI.list
  · exact hI.below.trans (kp.below (by omega) (fun k e => by rcases e with e | e | e <;> omega))
  · obtain ⟨_, h2⟩ := hown
    rcases h2 with ⟨_, h0⟩ | ⟨g, cap, cur, rfl, r⟩
    · omega
    · exact ⟨_, _, rfl⟩

theorem turnsOf_mem (L : List Int) : ∀ y ∈ turnsOf L, y ∈ L := by
  intro y hy
  unfold turnsOf at hy
  split at hy
  · have hm : ∀ z ∈ mvTo L L.length, z ∈ L := mvTo_mem L L.length (Nat.le_refl _)
    obtain ⟨h1, h2⟩ := tSt_mem (mvTo L L.length)
    unfold tOut at hy
    split at hy
    · simp at hy
    · rcases List.mem_append.1 hy with hy | hy
      · exact hm y (h1 y hy)
      · simp only [List.mem_singleton] at hy
        subst hy
        exact hm _ (h2 (by omega))
  · simp at hy

theorem swEnd_lvl (L : List Int) : lvl (swSt (turnsOf L)).1 ∧ (swSt (turnsOf L)).2.length + (swSt (turnsOf L)).1.length ≤ 201 := by
  cases hok : lvOk L with
  | true =>
    have hl := turnsOf_len L
    obtain ⟨h1, h2⟩ := lvl_of hok hl (turnsOf_mem L)
    exact ⟨h1, by omega⟩
  | false =>
    have : turnsOf L = [] := by simp [turnsOf, hok]
    rw [this]
    simp [swSt, lvl]

/-- A step of a region that draws: append of what the call owns. -/
theorem step_append_own_at {P : Program} {w : World} {ops : Array Oper} {o : Oper} {a : Act} {K : Act → World → Prop} {Q : Exit → Act → World → Prop} {E : Prop} (hgd : o.guard = none) (s x : Operand) (t : TypeId)
    (ho : o.op = .call { callee := .builtin .append, args := #[s, x], argTypes := #[t, t] })
    (base : Nat) (e : TypeId) (i : TypeInfo) (z : Value) (size bytes : Nat) (ht : P.underlying t = some (.slice e)) (hi : P.info? e = some i) (hz : i.zero = some z)
    (hsize : i.size = size) (hby : i.bytes = bytes) (hzs : z.cells.size = size) (hsz : 0 < size)
    (v : Value) (n : Nat) (xs : List Value) (hs : a.eval s = v) (hown : w.ownsRow base e size v n xs)
    (ad : Addr) (m c : Nat) (news : List Value) (hx : a.eval x = .slice (some ad) m c) (hl : news.length = m * size) (hnews : ∀ j u, news[j]? = some u → w.cell? (ad.add j) = some u) (h1 : ∀ u ∈ news, u.oneCell' = true)
    (h63 : n + m ≤ maxLen) (hbytes : (n + m) * bytes ≤ 140737488355328) (hbase : base ≤ w.heap.size)
    (h : ∀ v' w', w'.ownsRow base e size v' (n + m) (xs ++ news) → w.grownBy w' v.ownBlock → (v' = .slice none 0 0 ↔ v = .slice none 0 0 ∧ m = 0) → (v'.ownBlock = v.ownBlock ∨ v'.ownBlock = some w.heap.size) → K (a.put o.dst v') w') :
    if Region.wanted o (yielded ops a.tmps) = true then Oper.wp P o a w K Q else E := by
  have hw : Region.wanted o (yielded ops a.tmps) = true := by simp [Region.wanted, hgd]
  rw [if_pos hw]
  obtain ⟨v', w', hr, h2, h3, h4, h5⟩ := run_append_own_at (P := P) w base t o.type e i z size bytes ht hi hz hsize hby hzs hsz v n xs hown ad m c news hl hnews h1 h63 hbytes hbase
  unfold Oper.wp
  simp [execOp, ho, resolve, invoke, builtin, hs, hx, hr, Result.andThen]
  exact h v' w' h2 h3 h4 h5

/-- What is told of the stack in the end, up to k. -/
def halvesTo (S : List Int) (k : Nat) : List Sw := (List.range k).map fun i => (((S.getD i 0 - S.getD (i + 1) 0).natAbs : Int), true)
theorem halvesTo_len (S : List Int) (k : Nat) : (halvesTo S k).length = k := by simp [halvesTo]
theorem halvesTo_succ (S : List Int) (k : Nat) : halvesTo S (k + 1) = halvesTo S k ++ [(((S.getD k 0 - S.getD (k + 1) 0).natAbs : Int), true)] := by simp [halvesTo, List.range_succ]

theorem swingsOf_len (L : List Int) : (swingsOf L).length ≤ 402 := by
  have h := (swEnd_lvl L).2
  simp [swingsOf, halves]
  omega

theorem ownsRow_ownSw {w : World} {base : Nat} {e : TypeId} {v : Value} {L : List Sw} (h : w.ownsRow base e 2 v L.length (recCells 2 eSw L)) : OwnSw base w v L ∧ ∃ ao cap, v = .slice ao L.length cap := by
  obtain ⟨h1, h2⟩ := h
  rcases h2 with ⟨rfl, h0⟩ | ⟨g, cap, cur, rfl, hg, hh, hc, hm, hs, ht⟩
  · have : L = [] := List.length_eq_zero_iff.1 h0
    subst this
    exact ⟨⟨none, 0, rfl, Nat.le_refl _, Nat.zero_le _, fun h => absurd rfl h⟩, none, 0, rfl⟩
  · refine ⟨⟨_, cap, rfl, hc, hm, fun _ => ⟨g, rfl, hg, cur, e, hh, fun i hi => ?_⟩⟩, _, cap, rfl⟩
    rw [← ht]
    rw [recCells_length] at hi
    simp [hi]

set_option maxRecDepth 100000 in
set_option maxHeartbeats 2000000 in
theorem implSwings_any (v : Value) (L : List Int) (w : World) (h : IntsIn w v L) :
    Calls Try.prog 22 #[v] w fun e w' => ∃ ao n cap, e = .returned (.slice ao n cap) ∧ OwnSw w.heap.size w' (.slice ao n cap) (swingsOf L) ∧ Below w.heap.size w w' := by
  have HV := hide h
  obtain ⟨ao, cap, rfl, hl, hm, hc⟩ := h
  clear hc hl hm
  obtain ⟨i0, hi, hz0, hz1, hz2⟩ := info_parts Try.infoSw
  refine (callsIn_wide (n := 12)).1 ?_
  refine callsIn_of_wp_marks Try.func22 rfl trivial ?_ rfl
  simp only [Try.ntmps22, List.size_toArray, List.length_cons, List.length_nil, Nat.reduceAdd, Nat.reduceSub, Array.replicate_succ, Array.replicate_zero, List.push_toArray, List.append_toArray, List.nil_append, List.cons_append]
  gi_wp2_with (refine ⟨trivial, ?_⟩; gi_at_call 47; refine (turning_any _ _ _ _ Fence.wide _ trivial rfl).mono ?_; rintro e w9 ⟨rfl, rfl⟩)
  have HS : Hid (SwI w.heap.size w (.slice ao L.length cap) [] [] (((w.alloc (.cells #[.slice none 0 0] 35)).alloc (.cells #[.slice none 0 0] 67)).alloc (.cells #[.slice ao L.length cap] 24))) := by
    refine ⟨⟨_, none, ((Boxed.new w _ _).alloc _).alloc _, World.ownsRow_nil _ _ _ _, Or.inl ⟨rfl, rfl, ?_⟩, fun g e => by cases e⟩, ?_, Below.step (Below.step (Below.alloc1 _ _) (Below.alloc1 _ _)) (Below.alloc1 _ _)⟩
    · have h := (Boxed.new (w.alloc (.cells #[.slice none 0 0] 35)) 67 (.slice none 0 0)).alloc (.cells #[.slice ao L.length cap] 24)
      simp only [World.size_alloc] at h
      exact h
    · have h := Boxed.new ((w.alloc (.cells #[.slice none 0 0] 35)).alloc (.cells #[.slice none 0 0] 67)) 24 (.slice ao L.length cap)
      simp only [World.size_alloc] at h
      exact h
  obtain ⟨w2, e2⟩ : ∃ x, x = ((w.alloc (.cells #[.slice none 0 0] 35)).alloc (.cells #[.slice none 0 0] 67)).alloc (.cells #[.slice ao L.length cap] 24) := ⟨_, rfl⟩
  rw [← e2] at HS ⊢
  have HH : Hid (w2.heap.size = w.heap.size + 3) := by show _ = _; rw [e2]; simp
  clear e2
  refine rangeFunc_all (F := Fence.wide) rfl (by omega) (gf := 69) (lb := #[.pointer (some ⟨w.heap.size + 1 + 1, 0, none⟩)]) rfl trivial (enters_of Try.func69 (by kernel_rfl) rfl)
    (fun x : Int => #[.int .i64 x]) (fun xs => xs = turnsOf L) (fun xs => xs.length ≤ 201 ∧ (∀ y ∈ xs, y ∈ L) ∧ lvOk L = true) (w.heap.size + 12) (fun _ => rfl)
    (fun A B => (∀ k, w.heap.size + 5 ≤ k → k < w.heap.size + 12 → k < A.heap.size → B.heap[k]? = A.heap[k]?) ∧ A.heap.size ≤ B.heap.size) (fun h1 h2 => ⟨fun k a b c => (h2.1 k a b (by omega)).trans (h1.1 k a b c), by omega⟩) (fun A B hk => ⟨fun k a b c => hk.block k c (by have := unhide HH; omega), hk.size⟩)
    (fun pre A => SwI w.heap.size w (.slice ao L.length cap) (swSt pre).1 (swSt pre).2 A)
    (fun s A B hs hk => hs.kept rfl hk (fun k e => by have := unhide HH; omega))
    (unhide HS)
    (fun x => { tmps := #[.slice ao L.length cap, undef, .slice none 0 0, .pointer (some ⟨w.heap.size, 0, none⟩), .pointer (some ⟨w.heap.size + 1, 0, none⟩), .int .i64 x, .slice ao L.length cap, .func (.func 69) #[] #[.pointer (some ⟨w.heap.size + 1 + 1, 0, none⟩)], .int .i64 x, undef, undef, undef, undef, undef, undef, undef, undef, undef, undef, undef, undef, undef, undef, undef, undef, undef, undef], defers := [] })
    ?call ?assign ?body ?done
  case call =>
    intro J' W1 hJI hJT hsz hY' h0'
    have hh := unhide HH
    refine (turning1_in (12 - 1) (by omega) (w2.heap.size + 1) (w.heap.size + 1 + 1) ao L.length cap L J' W1 (fun pre A hA => ⟨(hJI _ _ hA).list.cell, (unhide HV).below (hJI _ _ hA).below⟩) (fun pre A B hA hk => ?_) (fun pre x A hA hlo hok hm hv => ?_) h0').mono ?_
    · exact hJT _ _ _ hA ((hJI _ _ hA).kept rfl hk (fun k e => by omega)) (hk.mono (fun k _ e => by omega))
    · obtain ⟨fn, tmps, assign, body, hy, hRd⟩ := hY' pre x A hA (by omega) ⟨hok, hm, hv⟩
      refine ⟨fn, tmps, assign, body, hy, hRd.mono ?_⟩
      rintro e A' ⟨rfl, h, hk⟩
      exact ⟨rfl, h, fun k a b => hk.1 k (by omega) (by omega) (by omega), hk.2⟩
    · rintro e A' ⟨hv, h⟩
      exact ⟨hv, _, rfl, h⟩
  case assign =>
    intro l' x A K hK
    gi_wp2
    exact hK
  case body =>
    rintro l' pre x A hI hlo hsz ⟨hlen, hmem, hok⟩
    have hN2 := unhide HH
    obtain ⟨hlv, hln⟩ := lvl_of hok (ts := pre) (by simp at hlen; omega) (fun y hy => hmem y (List.mem_append.2 (Or.inl hy)))
    have hx : -1000000000 ≤ x ∧ x ≤ 1000000000 := by
      simp only [lvOk, Bool.and_eq_true, List.all_eq_true] at hok
      have := hok.2 x (hmem x (by simp))
      simpa only [inB, Bool.and_eq_true, decide_eq_true_eq] using this
    have HE := hide (swSt_snoc pre x)
    have hln' : (swSt pre).2.length + (swSt pre).1.length ≤ 200 := by simp at hlen; omega
    obtain ⟨⟨xs, out⟩, es⟩ : ∃ s, s = swSt pre := ⟨_, rfl⟩
    rw [← es] at hI hlv hln' HE
    dsimp only at hI hlv hln'
    clear hln hlen hmem hok es
    obtain ⟨v, gb, hv, hrow, hst, hgb⟩ := hI.both
    have HP := hide (push_any (w.heap.size + 1) gb xs x A hst (by omega))
    have HI := hide hI
    have HGB := hide hgb
    have HRW := hide hrow
    have HV1 := hide hv
    have HST := hide hst
    clear hI hv hrow hst hgb
    gi_wp2_with (refine ⟨trivial, ?_⟩; gi_at_call 48; refine (inR (unhide HP)).mono ?_; rintro e A1 ⟨rfl, gb1, hP1⟩; have HP1 := hide hP1; clear hP1)
    obtain ⟨hI1, hK1, -⟩ := swI_turn rfl (unhide HI) hlo (unhide HV1) (unhide HRW) (unhide HGB) (unhide HP1).stk (unhide HP1).kept (unhide HP1).own
    have HI1 := hide hI1
    have HK1 := hide hK1
    have HR1 : Hid (∃ n, (xs ++ [x]).length ≤ n ∧ red n (xs ++ [x]) out = swSt (pre ++ [x])) := ⟨xs.length + 1, by simp, (unhide HE).symm⟩
    have HL1 : Hid (lvl (xs ++ [x])) := by
      refine ⟨by simp; omega, fun y hy => ?_⟩
      rcases List.mem_append.1 hy with hy | hy
      · exact hlv.2 y hy
      · simp only [List.mem_singleton] at hy
        subst hy; exact hx
    have hn1 : out.length + (xs ++ [x]).length ≤ 201 := by simp; omega
    generalize xs ++ [x] = ys at *
    clear hI1 hK1 HP HP1 HST HV1 HRW HGB HI HE hlv hx hln'
    gi_loopg [] ys.length (fun g wr => ∃ ys ot, g = List.length ys ∧ Hid (lvl ys) ∧ List.length ot + List.length ys ≤ 201 ∧ Hid (∃ n, ys.length ≤ n ∧ red n ys ot = swSt (pre ++ [x])) ∧ Hid (SwI w.heap.size w (.slice ao L.length cap) ys ot wr) ∧ Hid (Kept (SwT w.heap.size) A wr))
    case atStart => exact ⟨ys, out, rfl, HL1, hn1, HR1, HI1, HK1⟩
    case round =>
      clear HL1 hn1 HR1 HI1 HK1
      clear ys out
      obtain ⟨ys, ot, rfl, HL, hn, HR, HI, HK⟩ := hrel
      obtain ⟨v, gb, hv, hrow, hst, hgb⟩ := (unhide HI).both
      have HRW := hide hrow
      have HV1 := hide hv
      have HST := hide hst
      have HGB := hide hgb
      have HC := hide (isClosed_any (w.heap.size + 1) gb ys wr hst (unhide HL))
      clear hv hrow hst hgb
      cases hcl : closedB ys with
      | false =>
        rw [hcl] at HC
        have HC2 := hide hcl
        clear hcl
        gi_wp2_with (refine ⟨trivial, ?_⟩; gi_at_call 49; refine (inR (unhide HC)).mono ?_; rintro e A1 ⟨rfl, hb⟩; have HB := hide hb; clear hb)
        obtain ⟨n, hn', hr⟩ := unhide HR
        rw [red_stop (unhide HC2)] at hr
        have hI1 : SwI w.heap.size w (.slice ao L.length cap) ys ot A1 := (unhide HI).kept rfl (kept_of_below (T := fun _ => False) (unhide HB)) (fun _ h => h.elim)
        have hK1 : Kept (SwT w.heap.size) A A1 := (unhide HK).trans (kept_of_below (unhide HB))
        refine ⟨by show SwI _ _ _ (swSt (pre ++ [x])).1 (swSt (pre ++ [x])).2 _; rw [← hr]; exact hI1, ⟨fun k h1 h2 h3 => hK1.block k h3 (by simp only [SwT]; omega), hK1.size⟩, hK1.block _ (by omega) (by simp only [SwT]; omega), hK1.block _ (by omega) (by simp only [SwT]; omega)⟩
      | true =>
        rw [hcl] at HC
        have HC2 := hide hcl
        clear hcl
        gi_wp2_with (refine ⟨trivial, ?_⟩; gi_at_call 49; refine (inR (unhide HC)).mono ?_; rintro e A1 ⟨rfl, hb⟩; have HB := hide hb; clear hb)
        have hI1 : SwI w.heap.size w (.slice ao L.length cap) ys ot A1.drew := (unhide HI).kept rfl (kept_of_below (T := fun _ => False) (unhide HB).drew) (fun _ h => h.elim)
        obtain ⟨v, gb, hv, hrow, hst, hgb⟩ := hI1.both
        have hlo1 : w.heap.size + 12 ≤ A1.drew.heap.size := by have := (unhide HK).size; have := (unhide HB).drew.size; omega
        have HCL := hide (closeSwing_any (w.heap.size + 1) gb ys A1.drew hst (unhide HL) (closedB_len (unhide HC2)))
        have c0 := hv.cell
        have NEXT : Hid (∀ (A2 : World) gb2, Closed A1.drew A2 (w.heap.size + 1) gb gb2 (closeS ys) → A2.cell? ⟨w.heap.size, 0, none⟩ = some v ∧ w.heap.size + 12 ≤ A2.heap.size ∧ A2.ownsRow (w.heap.size + 12) 38 2 v ot.length (recCells 2 eSw ot) ∧
            ∀ A3 v' A4, Below A2.heap.size A2 A3 → A4.ownsRow (w.heap.size + 12) 38 2 v' (ot.length + 1) (recCells 2 eSw ot ++ [.int .i64 (swing ys).1, .bool (swing ys).2]) → A3.grownBy A4 v.ownBlock → (v'.ownBlock = v.ownBlock ∨ v'.ownBlock = some A3.heap.size) →
            A4.cell? ⟨w.heap.size, 0, none⟩ = some v ∧ A4.frozen? ⟨w.heap.size, 0, none⟩ = false ∧ SwI w.heap.size w (.slice ao L.length cap) (closeS ys) (ot ++ [swing ys]) (A4.setCell ⟨w.heap.size, 0, none⟩ v') ∧ Kept (SwT w.heap.size) A (A4.setCell ⟨w.heap.size, 0, none⟩ v') ∧ ∃ ao cap, v' = .slice ao (ot.length + 1) cap) := by
          intro A2 gb2 hcl
          obtain ⟨hI2, hK2, hv2, hr2, hg2⟩ := swI_turn rfl hI1 hlo1 hv hrow hgb hcl.stk hcl.kept hcl.own
          have hz2 := hK2.size
          refine ⟨hv2.cell, by omega, hr2, fun A3 v' A4 h3 ho hgr hat => ?_⟩
          obtain ⟨q1, q2, q3, q4, q5⟩ := swI_told rfl hI2 (by omega) hv2 hr2 hcl.stk hg2 h3 ho hgr hat
          exact ⟨q1, q2, q3, ((unhide HK).trans (kept_of_below (unhide HB).drew)).trans (hK2.trans q4), q5⟩
        have HN := hide (closeS_lvl (unhide HL) (closedB_len (unhide HC2)))
        have HR2 : Hid (∃ n, (closeS ys).length ≤ n ∧ red n (closeS ys) (ot ++ [swing ys]) = swSt (pre ++ [x])) := by
          obtain ⟨n, h1, h2⟩ := unhide HR
          have h3 := (unhide HN).2
          have h4 := closedB_len (unhide HC2)
          cases n with
          | zero => omega
          | succ n => exact ⟨n, by omega, by rw [← red_go (unhide HC2)]; exact h2⟩
        have hn2 : ot.length ≤ 200 := by have h4 := closedB_len (unhide HC2); omega
        have hn3 : (ot ++ [swing ys]).length + (closeS ys).length ≤ 201 := by have := (unhide HN).2; simp; omega
        have hn4 : (closeS ys).length < ys.length := by have := (unhide HN).2; omega
        clear hI1 hv hrow hst hgb HC HB HI HK HR HL HST HGB HV1 HRW
        unfold vSw at HCL
        generalize swing ys = sw at *
        obtain ⟨sr, sh⟩ := sw
        dsimp only at HCL NEXT
        refine wpIn_region_any (by kernel_rfl) ?_
        try (change wpAnyIn _ _ _ _ _ _ _ _ _ (World.drew _))
        refine wpAnyIn_ready (rs := [0, 1]) (by kernel_rfl) (by simp) ?_
        refine AllReadyIn.cons rfl (fun K hK => ?_) (AllReadyIn.cons rfl (fun K hK => ?_) AllReadyIn.nil)
        · go_simp
          refine hK _ _ ?_
          clear hK K
          refine wpAnyIn_ready (rs := [1]) (by kernel_rfl) (by simp) ?_
          refine AllReadyIn.cons rfl (fun K hK => ?_) AllReadyIn.nil
          go_simp
          gi_wp2_with (refine ⟨trivial, ?_⟩; gi_at_call 50; refine (inR (unhide HCL)).mono ?_; rintro e A2 ⟨rfl, gb2, hC2⟩; obtain ⟨c2, z2, hr2, hN2'⟩ := unhide NEXT A2 gb2 hC2; have HRW := hide hr2; have HNX := hide hN2'; have hne : ¬ w.heap.size = A2.heap.size := (by omega); clear hC2 hr2 hN2')
          refine wpAnyIn_ready (rs := [2]) (by kernel_rfl) (by simp) ?_
          refine AllReadyIn.cons rfl (fun K hK => ?_) AllReadyIn.nil
          go_simp
          refine hK _ _ ?_
          clear hK K
          refine wpAnyIn_ready (rs := [3]) (by kernel_rfl) (by simp) ?_
          refine AllReadyIn.cons rfl (fun K hK => ?_) AllReadyIn.nil
          refine step_append_own_atIn rfl (.tmp 12) (.tmp 14) 35 rfl (w.heap.size + 12) 38 i0 _ 2 16 Try.underlying35 hi hz0 hz1 hz2 rfl (by decide) v ot.length (recCells 2 eSw ot) rfl ((unhide HRW).alloc _) ⟨A2.heap.size, 0, none⟩ 1 1 [.int .i64 sr, .bool sh] rfl rfl (cell_two_new _ _ _ _) (by simp [Value.oneCell']) (by unfold maxLen; omega) (by omega) (by simp; omega) ?_
          intro v' A4 hown hgrow _ hat
          obtain ⟨q1, q2, q3, q4, ao', cap', rfl⟩ := unhide HNX _ v' A4 (Below.alloc1 _ _) hown hgrow hat
          have HQ3 := hide q3
          have HQ4 := hide q4
          clear q3 q4 hown hgrow hat
          go_simp
          refine hK _ _ ?_
          clear hK K
          refine wpAnyIn_ready (rs := [4]) (by kernel_rfl) (by simp) ?_
          refine AllReadyIn.cons rfl (fun K hK => ?_) AllReadyIn.nil
          go_simp
          refine hK _ _ ?_
          clear hK K
          refine wpAnyIn_done (by kernel_rfl) ?_ _
          gi_wp2
          gi_roundg (closeS ys).length
          case measure => exact hn4
          case rel => exact ⟨closeS ys, ot ++ [(sr, sh)], rfl, (unhide HN).1, hn3, HR2, HQ3, HQ4⟩
        · go_simp
          gi_wp2_with (refine ⟨trivial, ?_⟩; gi_at_call 50; refine (inR (unhide HCL)).mono ?_; rintro e A2 ⟨rfl, gb2, hC2⟩; obtain ⟨c2, z2, hr2, hN2'⟩ := unhide NEXT A2 gb2 hC2; have HRW := hide hr2; have HNX := hide hN2'; have hne : ¬ w.heap.size = A2.heap.size := (by omega); clear hC2 hr2 hN2')
          refine wpAnyIn_ready (rs := [0, 2]) (by kernel_rfl) (by simp) ?_
          refine AllReadyIn.cons rfl (fun K hK => ?_) (AllReadyIn.cons rfl (fun K hK => ?_) AllReadyIn.nil)
          · go_simp
            refine hK _ _ ?_
            clear hK K
            refine wpAnyIn_ready (rs := [2]) (by kernel_rfl) (by simp) ?_
            refine AllReadyIn.cons rfl (fun K hK => ?_) AllReadyIn.nil
            go_simp
            refine hK _ _ ?_
            clear hK K
            refine wpAnyIn_ready (rs := [3]) (by kernel_rfl) (by simp) ?_
            refine AllReadyIn.cons rfl (fun K hK => ?_) AllReadyIn.nil
            refine step_append_own_atIn rfl (.tmp 12) (.tmp 14) 35 rfl (w.heap.size + 12) 38 i0 _ 2 16 Try.underlying35 hi hz0 hz1 hz2 rfl (by decide) v ot.length (recCells 2 eSw ot) rfl ((unhide HRW).alloc _) ⟨A2.heap.size, 0, none⟩ 1 1 [.int .i64 sr, .bool sh] rfl rfl (cell_two_new _ _ _ _) (by simp [Value.oneCell']) (by unfold maxLen; omega) (by omega) (by simp; omega) ?_
            intro v' A4 hown hgrow _ hat
            obtain ⟨q1, q2, q3, q4, ao', cap', rfl⟩ := unhide HNX _ v' A4 (Below.alloc1 _ _) hown hgrow hat
            have HQ3 := hide q3
            have HQ4 := hide q4
            clear q3 q4 hown hgrow hat
            go_simp
            refine hK _ _ ?_
            clear hK K
            refine wpAnyIn_ready (rs := [4]) (by kernel_rfl) (by simp) ?_
            refine AllReadyIn.cons rfl (fun K hK => ?_) AllReadyIn.nil
            go_simp
            refine hK _ _ ?_
            clear hK K
            refine wpAnyIn_done (by kernel_rfl) ?_ _
            gi_wp2
            gi_roundg (closeS ys).length
            case measure => exact hn4
            case rel => exact ⟨closeS ys, ot ++ [(sr, sh)], rfl, (unhide HN).1, hn3, HR2, HQ3, HQ4⟩
          · go_simp
            refine hK _ _ ?_
            clear hK K
            have cA : (A2.alloc (.cells #[.int .i64 sr, .bool sh] 38)).cell? ⟨w.heap.size, 0, none⟩ = some v := (World.cell?_of_block (w := A2) (a := ⟨w.heap.size, 0, none⟩) (Below.heap_alloc _ _ _ (by show w.heap.size < _; omega))).trans c2
            refine wpAnyIn_ready (rs := [0]) (by kernel_rfl) (by simp) ?_
            refine AllReadyIn.cons rfl (fun K hK => ?_) AllReadyIn.nil
            go_simp
            refine hK _ _ ?_
            clear hK K
            refine wpAnyIn_ready (rs := [3]) (by kernel_rfl) (by simp) ?_
            refine AllReadyIn.cons rfl (fun K hK => ?_) AllReadyIn.nil
            refine step_append_own_atIn rfl (.tmp 12) (.tmp 14) 35 rfl (w.heap.size + 12) 38 i0 _ 2 16 Try.underlying35 hi hz0 hz1 hz2 rfl (by decide) v ot.length (recCells 2 eSw ot) rfl ((unhide HRW).alloc _) ⟨A2.heap.size, 0, none⟩ 1 1 [.int .i64 sr, .bool sh] rfl rfl (cell_two_new _ _ _ _) (by simp [Value.oneCell']) (by unfold maxLen; omega) (by omega) (by simp; omega) ?_
            intro v' A4 hown hgrow _ hat
            obtain ⟨q1, q2, q3, q4, ao', cap', rfl⟩ := unhide HNX _ v' A4 (Below.alloc1 _ _) hown hgrow hat
            have HQ3 := hide q3
            have HQ4 := hide q4
            clear q3 q4 hown hgrow hat
            go_simp
            refine hK _ _ ?_
            clear hK K
            refine wpAnyIn_ready (rs := [4]) (by kernel_rfl) (by simp) ?_
            refine AllReadyIn.cons rfl (fun K hK => ?_) AllReadyIn.nil
            go_simp
            refine hK _ _ ?_
            clear hK K
            refine wpAnyIn_done (by kernel_rfl) ?_ _
            gi_wp2
            gi_roundg (closeS ys).length
            case measure => exact hn4
            case rel => exact ⟨closeS ys, ot ++ [(sr, sh)], rfl, (unhide HN).1, hn3, HR2, HQ3, HQ4⟩
  case done =>
    rintro ts A rfl hI hsz hK
    obtain ⟨hlv, hln⟩ := swEnd_lvl L
    have HE : Hid (swingsOf L = (swSt (turnsOf L)).2 ++ halvesTo (swSt (turnsOf L)).1 ((swSt (turnsOf L)).1.length - 1)) := rfl
    obtain ⟨⟨S, out⟩, es⟩ : ∃ s, s = swSt (turnsOf L) := ⟨_, rfl⟩
    rw [← es] at hI hlv hln HE
    dsimp only at hI hlv hln HE
    clear es
    have HLV := hide hlv
    have HI := hide hI
    have HDF := hide hK
    clear hI hK HS HV hlv
    gi_wp2
    refine wpIn_wide.2 ?_
    go_loopg [] S.length (fun g wr => ∃ k, k ≤ S.length - 1 ∧ g = S.length - k ∧ Hid (SwI w.heap.size w (.slice ao L.length cap) (S.drop k) (out ++ halvesTo S k) wr) ∧ Hid (wr.heap[w2.heap.size]? = some (.deferred (some []))))
    case atStart => exact ⟨0, Nat.zero_le _, rfl, by simpa [halvesTo] using HI, HDF⟩
    case round =>
      clear HI HDF
      obtain ⟨k, hk, rfl, HI, HD⟩ := hrel
      obtain ⟨v, gb, hv, hrow, hst, hgb⟩ := (unhide HI).both
      have HC := hide (count_any (w.heap.size + 1) gb _ wr hst)
      have hdl : (S.drop k).length = S.length - k := by simp
      by_cases h2 : 2 ≤ S.length - k
      · have HV1 := hide hv
        have HRW := hide hrow
        have HST := hide hst
        have HGB := hide hgb
        have e2 : decide (2 ≤ ((S.drop k).length : Int)) = true := by rw [hdl]; simp; omega
        have e2' : decide (2 ≤ (S.drop k).length) = true := by rw [hdl]; simp; omega
        have h2' : (2 : Int) ≤ ((S.drop k).length : Int) := by rw [hdl]; omega
        have c0 : wr.cell? ⟨w.heap.size, 0, none⟩ = some v := hv.cell
        have hz : w.heap.size + 12 ≤ wr.heap.size := by
          rcases hst with ⟨_, e, _⟩ | ⟨g, o, cap', e, _, hlt, _⟩
          · rw [e] at hdl; simp at hdl; omega
          · have := (hgb g e).1; omega
        have F0 := hide (first_any (w.heap.size + 1) gb _ 0 0 wr.drew hst rfl (by omega))
        have F1 := hide (first_any (w.heap.size + 1) gb _ 1 1 wr.drew hst rfl (by omega))
        have g0 : (S.drop k).getD 0 0 = S.getD k 0 := by simp [List.getD]
        have g1 : (S.drop k).getD 1 0 = S.getD (k + 1) 0 := by simp [List.getD]
        rw [g0] at F0
        rw [g1] at F1
        have b0 : -1000000000 ≤ S.getD k 0 ∧ S.getD k 0 ≤ 1000000000 := (unhide HLV).2 _ (by rw [getD_lt (show k < S.length by omega)]; exact List.getElem_mem _)
        have b1 : -1000000000 ≤ S.getD (k + 1) 0 ∧ S.getD (k + 1) 0 ≤ 1000000000 := (unhide HLV).2 _ (by rw [getD_lt (show k + 1 < S.length by omega)]; exact List.getElem_mem _)
        have G0 := hide (gap_any (S.getD k 0) (S.getD (k + 1) 0) wr.drew b0.1 b0.2 b1.1 b1.2)
        have HS1 : Hid (out ++ halvesTo S (k + 1) = out ++ halvesTo S k ++ [(((S.getD k 0 - S.getD (k + 1) 0).natAbs : Int), true)]) := by show _ = _; rw [halvesTo_succ, List.append_assoc]
        have hol : (out ++ halvesTo S k).length ≤ 201 := by simp [halvesTo_len]; omega
        have NEXT : Hid (∀ (sw : Sw) A3 v' A4, Below wr.heap.size wr A3 → A4.ownsRow (w.heap.size + 12) 38 2 v' ((out ++ halvesTo S k).length + 1) (recCells 2 eSw (out ++ halvesTo S k) ++ [.int .i64 sw.1, .bool sw.2]) → A3.grownBy A4 v.ownBlock → (v'.ownBlock = v.ownBlock ∨ v'.ownBlock = some A3.heap.size) →
            A4.cell? ⟨w.heap.size, 0, none⟩ = some v ∧ A4.frozen? ⟨w.heap.size, 0, none⟩ = false ∧ SwI w.heap.size w (.slice ao L.length cap) (S.drop k) (out ++ halvesTo S k ++ [sw]) (A4.setCell ⟨w.heap.size, 0, none⟩ v') ∧ Kept (SwT w.heap.size) wr (A4.setCell ⟨w.heap.size, 0, none⟩ v') ∧ ∃ ao cap, v' = .slice ao ((out ++ halvesTo S k).length + 1) cap) := by
          intro sw A3 v' A4 h3 ho hgr hat
          exact swI_told rfl (unhide HI) hz hv hrow hst hgb h3 ho hgr hat
        clear hv hrow hst hgb g0 g1 b0 b1 HV1 HST HGB
        generalize hsx : S.getD k 0 = sx at *
        generalize hsy : S.getD (k + 1) 0 = sy at *
        clear hsx hsy
        generalize ((sx - sy).natAbs : Int) = sr at *
        generalize out ++ halvesTo S k = ot at *
        have cA : (wr.alloc (.cells #[.int .i64 sr, .bool true] 38)).cell? ⟨w.heap.size, 0, none⟩ = some v := (World.cell?_of_block (w := wr) (a := ⟨w.heap.size, 0, none⟩) (Below.heap_alloc _ _ _ (by show w.heap.size < wr.heap.size; omega))).trans c0
        go_wp2_with (go_at_call 51; refine (unhide HC).mono ?_; rintro e w' ⟨rfl, rfl⟩)
        first
          | (go_region_law (first | (refine step_append_own_at (by rfl) (.tmp 18) (.tmp 23) 35 (by rfl) (w.heap.size + 12) 38 i0 _ 2 16 Try.underlying35 hi hz0 hz1 hz2 rfl (by decide) v ot.length (recCells 2 eSw ot) (by rfl) ((unhide HRW).alloc _).drew ⟨wr.heap.size, 0, none⟩ 1 1 [.int .i64 sr, .bool true] (by rfl) (by rfl) (cell_two_new wr _ _ _) (by simp [Value.oneCell']) (by unfold maxLen; omega) (by omega) (by simp; omega) ?_; intro v' A4 hown hgrow _ hat; obtain ⟨q1, q2, q3, q4, ao', cap', rfl⟩ := unhide NEXT (sr, true) _ v' A4 (Below.alloc1 _ _).drew hown hgrow hat; have HQ3 := hide q3; have HQ4 := hide q4; clear q3 q4 hown hgrow hat) | (go_simp; go_at_call 53; (first | (refine (unhide F0).mono ?_; clear F0) | refine (unhide F1).mono ?_); rintro e w' ⟨rfl, rfl⟩) | (go_simp; go_at_call 52; refine (unhide G0).mono ?_; rintro e w' ⟨rfl, rfl⟩)))
          | fail
        all_goals
          obtain ⟨A5, e5⟩ : ∃ x, x = A4.setCell ⟨w.heap.size, 0, none⟩ (.slice ao' (ot.length + 1) cap') := ⟨_, rfl⟩
          rw [← e5] at HQ3 HQ4 ⊢
          clear e5 q1 q2 c0 cA NEXT
          obtain ⟨v5, gb5, hv5, hrow5, hst5, hgb5⟩ := (unhide HQ3).both
          have HDR := hide (dropFirst_any (w.heap.size + 1) gb5 (S.drop k) A5 hst5 (by omega))
          have hz5 : w.heap.size + 12 ≤ A5.heap.size := by have := (unhide HQ4).size; omega
          have HV5 := hide hv5
          have HR5 := hide hrow5
          have HG5 := hide hgb5
          clear hv5 hrow5 hst5 hgb5
          go_wp2_with (go_at_call 54; refine (unhide HDR).mono ?_; rintro e A6 ⟨rfl, hst6, hk6⟩; have HS6 := hide hst6; have HK6 := hide hk6; clear hst6 hk6)
          obtain ⟨hI6, hK6, -⟩ := swI_turn rfl (unhide HQ3) hz5 (unhide HV5) (unhide HR5) (unhide HG5) (unhide HS6) ((unhide HK6).mono (fun k _ e => Or.inl e)) (Or.inl rfl)
          have hD6 : A6.heap[w2.heap.size]? = some (.deferred (some [])) := (((unhide HQ4).trans hK6).block _ (by have := unhide HH; omega) (by have := unhide HH; simp only [SwT]; omega)).trans (unhide HD)
          go_roundg (S.length - (k + 1))
          case measure => omega
          case rel => exact ⟨k + 1, by omega, rfl, by rw [← List.tail_drop, unhide HS1]; exact hI6, hD6⟩
      · have h2' : ((S.drop k).length : Int) < 2 := by rw [hdl]; omega
        obtain ⟨hsl, a', c', rfl⟩ := ownsRow_ownSw (ownsRow_keptT hrow (kept_putObj wr (l := w2.heap.size) (.deferred none)) (fun j h e => by have e' : j = w2.heap.size := e; have := unhide HH; omega))
        have HSL := hide hsl
        have HB2 := hide ((unhide HI).kept rfl (kept_putObj wr (l := w2.heap.size) (.deferred none)) (fun j e => by have e' : j = w2.heap.size := e; have := unhide HH; omega)).below
        have c0 := hv.cell
        have HEE : Hid (out ++ halvesTo S k = swingsOf L) := by
          show _ = _
          rw [unhide HE, show S.length - 1 = k by omega]
        clear hv hrow hst hgb hsl HE
        generalize out ++ halvesTo S k = ot at *
        obtain ⟨m, em⟩ : ∃ m, m = ot.length := ⟨_, rfl⟩
        rw [← em] at HSL c0
        clear em
        go_wp2_with (go_at_call 51; refine (unhide HC).mono ?_; rintro e w' ⟨rfl, rfl⟩)
        gi_wp2
        refine ⟨by simp, .inl ⟨_, _, rfl, run_takeDeferred (unhide HD), ?_⟩⟩
        exact ⟨_, results_tmp rfl _ _ _, _, _, _, rfl, by rw [← unhide HEE]; exact (unhide HSL).mono (show w.heap.size ≤ w.heap.size + 12 by omega), unhide HB2⟩

end Go.Proofs.Ytliodmahbdmcbaa

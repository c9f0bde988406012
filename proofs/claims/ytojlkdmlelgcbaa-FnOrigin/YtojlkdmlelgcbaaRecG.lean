/- Records of the call's own: one cell of one record written; blocks told whole; copies. No statement about the program stands here. -/
import Derived.Test.YtojlkdmlelgcbaaRowK
import Derived.Test.YtojlkdmlelgcbaaOwR
import Derived.Test.YtojlkdmlelgcbaaCpK
import Derived.Test.YtojlkdmlelgcbaaSetC
import Derived.Test.YtojlkdmlelgcbaaCsM
namespace Go.Proofs.Ytojlkdmlelgcbaa
open Go.RowKit

theorem recG_set {α : Type} [Inhabited α] {n : Nat} {enc : α → Nat → Value} (M : List α) {i j : Nat} (hj : j < n) (hi : i < M.length) (y : α) (h : ∀ j', j' < n → j' ≠ j → enc y j' = enc (M.getD i default) j') :
    (recCells n enc M).set (i * n + j) (enc y j) = recCells n enc (M.set i y) := by
  have hn : 0 < n := by omega
  apply List.ext_getElem?
  intro q
  by_cases hq : q < M.length * n
  · have hd : q / n < M.length := by rw [Nat.div_lt_iff_lt_mul hn]; exact hq
    have hm := Nat.mod_lt q hn
    have hqe : q / n * n + q % n = q := by rw [Nat.mul_comm]; exact Nat.div_add_mod q n
    have e1 : (recCells n enc (M.set i y))[q]? = some (enc ((M.set i y).getD (q / n) default) (q % n)) := by
      have := recCells_get (enc := enc) (L := M.set i y) (n := n) (i := q / n) (j := q % n) (by rw [List.length_set]; exact hd) hm
      rwa [hqe] at this
    have e2 : (recCells n enc M)[q]? = some (enc (M.getD (q / n) default) (q % n)) := by
      have := recCells_get (enc := enc) (L := M) (n := n) (i := q / n) (j := q % n) hd hm
      rwa [hqe] at this
    rw [e1]
    obtain ⟨p1, p2⟩ := rec_place (i := i) hj
    by_cases hqi : q = i * n + j
    · subst hqi
      rw [List.getElem?_set_self (by rw [recCells_length]; exact hq), p1, p2]
      simp [List.getD, hi]
    · rw [List.getElem?_set_ne (fun e => hqi e.symm), e2]
      by_cases hdi : q / n = i
      · rw [hdi, List.getD_eq_getElem?_getD (l := M.set i y), List.getElem?_set_self hi]
        have hne : q % n ≠ j := fun e => hqi (by rw [← hqe, hdi, e])
        rw [← h (q % n) hm hne]
        rfl
      · rw [List.getD_eq_getElem?_getD (l := M.set i y), List.getElem?_set_ne (fun e => hdi e.symm), ← List.getD_eq_getElem?_getD]
  · rw [List.getElem?_eq_none (by rw [List.length_set, recCells_length]; omega), List.getElem?_eq_none (by rw [recCells_length, List.length_set]; omega)]
theorem RowB.set {α : Type} [Inhabited α] {T : TypeId} {n : Nat} {enc : α → Nat → Value} {B : Nat} {w : World} {g m cap : Nat} {L : List α} (h : RowB T n enc B w (some ⟨g, 0, none⟩) m cap L) {i j : Nat} (hj : j < n) (hi : i < L.length) (y : α) (u : Value) (hu : enc y j = u) (hy : ∀ j', j' < n → j' ≠ j → enc y j' = enc (L.getD i default) j') :
    RowB T n enc B (w.setCell ⟨g, i * n + j, none⟩ u) (some ⟨g, 0, none⟩) m cap (L.set i y) := by
  have hn : 0 < n := by omega
  have hl := h.len hn
  have h' := h
  obtain ⟨h1, h2⟩ := h'
  refine ⟨by rw [recCells_length, List.length_set, hl], ?_⟩
  rcases h2 with ⟨e, _⟩ | ⟨g', cap', cur, e, hg, hh, hc, hm, hs, ht⟩
  · cases e
  · simp only [Value.slice.injEq, Option.some.injEq, Addr.mk.injEq, and_true, true_and] at e
    obtain ⟨rfl, rfl⟩ := e
    refine Or.inr ⟨g, cap, cur.setIfInBounds (i * n + j) u, rfl, hg, heap_setCell_same w g _ _ _ _ hh, hc, hm, by simpa using hs, ?_⟩
    rw [← recG_set L hj hi y hy, hu, ← ht]
    simp [List.take_set]
/-- Block g is just the cells vs, of type T. -/
def Blk (w : World) (g : Nat) (T : TypeId) (vs : List Value) : Prop := w.heap[g]? = some (.cells vs.toArray T (0, 0))
section
variable {w w' : World} {g : Nat} {T : TypeId} {vs : List Value}
theorem Blk.own (h : Blk w g T vs) : OwnV w g vs := ⟨vs.toArray, T, h, fun i _ => by simp⟩
theorem Blk.lt (h : Blk w g T vs) : g < w.heap.size := h.own.lt
theorem Blk.kept {P : Nat → Prop} (h : Blk w g T vs) (hk : Kept P w w') (hg : ¬ P g) : Blk w' g T vs := (hk.block g h.lt hg).trans h
theorem Blk.step (h : Blk w g T vs) (hb : Below w.heap.size w w') : Blk w' g T vs := (hb.block g h.lt).trans h
theorem Blk.set (h : Blk w g T vs) (i : Nat) (v : Value) : Blk (w.setCell ⟨g, i, none⟩ v) g T (vs.set i v) := by
  have := heap_setCell_same w g i _ _ v h
  unfold Blk
  rw [this]
  simp
theorem Blk.far {g' i : Nat} {v : Value} (h : Blk w g T vs) (hne : g ≠ g') : Blk (w.setCell ⟨g', i, none⟩ v) g T vs := (Below.heap_setCell _ _ _ _ hne).trans h
theorem Blk.row {α : Type} [Inhabited α] {n : Nat} {enc : α → Nat → Value} {L : List α} (h : Blk w g T (recCells n enc L)) (hl : L.length ≤ 1048576) : RowB T n enc 0 w (some ⟨g, 0, none⟩) L.length L.length L :=
  ⟨recCells_length, Or.inr ⟨g, L.length, _, rfl, Nat.zero_le _, h, Nat.le_refl _, by unfold maxLen; omega, by simp [recCells_length], by simp [List.take_of_length_le, recCells_length]⟩⟩
end
section
variable {w w' : World} {g m cap : Nat}
theorem RowB.ownG {α : Type} [Inhabited α] {T : TypeId} {n : Nat} {enc : α → Nat → Value} {L : List α} (h : RowB T n enc 0 w (some ⟨g, 0, none⟩) m cap L) (hn : 0 < n) : OwnV w g (recCells n enc L) ∧ m ≤ cap ∧ cap ≤ maxLen ∧ g < w.heap.size ∧ L.length = m := by
  have hl := h.len hn
  rcases h.parts hn with ⟨e, _⟩ | ⟨g', e, _, hlt, h1, h2, ho⟩
  · cases e
  · simp only [Option.some.injEq, Addr.mk.injEq, and_true] at e
    subst e
    exact ⟨ho, h1, h2, hlt, hl⟩
end
theorem run_copy_blk {P : Program} {w : World} (dT sT elem T : TypeId) (k : Nat) (hu : P.underlying dT = some (.slice elem)) (hsz : (P.info? elem).map (·.size) = some k)
    (g n dCap : Nat) (sp : Option Addr) (sCap : Nat) (cur : Array Value) (cs : List Value) (hg : w.heap[g]? = some (.cells cur T (0, 0))) (hz : cur.size = cs.length) (hn : cs.length = n * k)
    (hsrc : 0 < n → ∃ ad, sp = some ad ∧ ∀ j v, cs[j]? = some v → w.cell? (ad.add j) = some v) (h1 : ∀ v ∈ cs, v.oneCell' = true)
    (B : Nat) (w0 : World) (hb : Below B w0 w) (hBg : B ≤ g) :
    ∃ w', (∀ ty, (Builtin.copy_ #[dT, sT] ty #[.slice (some ⟨g, 0, none⟩) n dCap, .slice sp n sCap]).run P w = .ok (goInt n) w') ∧ Blk w' g T cs ∧ Below B w0 w' := by
  rcases Nat.eq_zero_or_pos n with h0 | hpos
  · subst h0
    have hc0 : cs = [] := List.eq_nil_of_length_eq_zero (by rw [hn, Nat.zero_mul])
    subst hc0
    have hcur : cur = #[] := Array.eq_empty_of_size_eq_zero (by simpa using hz)
    subst hcur
    exact ⟨w, fun ty => run_copy_k0 (P := P) w dT sT ty elem k (some ⟨g, 0, none⟩) sp dCap sCap hu hsz, hg, hb⟩
  · obtain ⟨ad, rfl, hsr⟩ := hsrc hpos
    refine ⟨_, fun ty => run_copy_k (P := P) w dT sT ty elem k g n dCap ad sCap cur T cs hu hsz hg hn hsr (by omega) h1, ?_, below_setRow' hb hBg _⟩
    have := setRow_heap w g _ (cs ++ cur.toList.drop cs.length).toArray T _ hg
    unfold Blk
    rw [this]
    congr 3
    rw [List.drop_eq_nil_of_le (by simp [hz]), List.append_nil]

theorem Blk.setCells {g : Nat} {T : TypeId} : ∀ (news : List Value) (off : Nat) (cs : List Value) (w : World), Blk w g T cs → off + news.length ≤ cs.length → Blk (w.setCells g off news) g T (cs.take off ++ news ++ cs.drop (off + news.length)) := by
  intro news
  induction news with
  | nil =>
    intro off cs w h hl
    have e : cs.take off ++ ([] : List Value) ++ cs.drop (off + ([] : List Value).length) = cs := by simp
    rw [e]
    exact h
  | cons v vs ih =>
    intro off cs w h hl
    simp only [List.length_cons] at hl
    have h1 := ih (off + 1) (cs.set off v) (w.setCell ⟨g, off, none⟩ v) (h.set off v) (by rw [List.length_set]; omega)
    rw [set_take (by omega), set_drop (by omega)] at h1
    have e : cs.take off ++ (v :: vs) ++ cs.drop (off + (v :: vs).length) = cs.take off ++ [v] ++ vs ++ cs.drop (off + 1 + vs.length) := by
      simp only [List.length_cons, List.append_assoc, List.cons_append, List.nil_append]
      rw [show off + (vs.length + 1) = off + 1 + vs.length by omega]
    rw [e]
    exact h1
theorem rec_take {α : Type} [Inhabited α] {n : Nat} (hn : 0 < n) (enc : α → Nat → Value) (E : List α) {i : Nat} (hi : i ≤ E.length) : (recCells n enc E).take (i * n) = recCells n enc (E.take i) ∧ (recCells n enc E).drop (i * n) = recCells n enc (E.drop i) := by
  have h := recCells_append n hn enc (E.take i) (E.drop i)
  rw [List.take_append_drop] at h
  have hl : (recCells n enc (E.take i)).length = i * n := by rw [recCells_length, List.length_take, Nat.min_eq_left hi]
  rw [h]
  exact ⟨by rw [List.take_append_of_le_length (by omega), List.take_of_length_le (by omega)], by rw [← hl, List.drop_left]⟩
theorem rec_ins {α : Type} [Inhabited α] {n : Nat} (hn : 0 < n) (enc : α → Nat → Value) (E : List α) {i : Nat} (hi : i ≤ E.length) (x : α) : recCells n enc (insL E i x) = (recCells n enc E).take (i * n) ++ (List.range n).map (enc x) ++ (recCells n enc E).drop (i * n) := by
  obtain ⟨h1, h2⟩ := rec_take hn enc E hi
  rw [h1, h2, insL, recCells_append n hn, show x :: E.drop i = [x] ++ E.drop i from rfl, recCells_append n hn, recCells_one, List.append_assoc]
/-- A whole block as a row. -/
theorem Blk.rowOf {α : Type} [Inhabited α] {w : World} {g : Nat} {T : TypeId} {vs : List Value} {n m cap : Nat} {enc : α → Nat → Value} {L : List α} (h : Blk w g T vs) (hm : L.length = m) (hc : m ≤ cap) (hx : cap ≤ maxLen) (hs : vs.length = cap * n) (ht : vs.take (m * n) = recCells n enc L) : RowB T n enc 0 w (some ⟨g, 0, none⟩) m cap L :=
  ⟨by rw [recCells_length, hm], Or.inr ⟨g, cap, _, rfl, Nat.zero_le _, h, hc, hx, by simpa using hs, by simpa using ht⟩⟩
theorem RowB.blk {α : Type} [Inhabited α] {w : World} {g : Nat} {T : TypeId} {n m cap : Nat} {enc : α → Nat → Value} {L : List α} (h : RowB T n enc 0 w (some ⟨g, 0, none⟩) m cap L) : ∃ vs, Blk w g T vs ∧ vs.length = cap * n ∧ vs.take (m * n) = recCells n enc L ∧ m ≤ cap ∧ cap ≤ maxLen := by
  rcases h.2 with ⟨e, _⟩ | ⟨g', cap', cur, e, _, hh, hc, hm, hs, ht⟩
  · cases e
  · simp only [Value.slice.injEq, Option.some.injEq, Addr.mk.injEq, and_true, true_and] at e
    obtain ⟨rfl, rfl⟩ := e
    exact ⟨cur.toList, by unfold Blk; simpa using hh, by simpa using hs, ht, hc, hm⟩
theorem run_copy_cellsK {P : Program} (w : World) (dT sT ty elem : TypeId) (k : Nat) (b o dLen dCap : Nat) (a : Addr) (sLen sCap : Nat) (cs : List Value)
    (hu : P.underlying dT = some (.slice elem)) (hs : (P.info? elem).map (·.size) = some k) (hn : cs.length = Nat.min sLen dLen * k)
    (hsrc : ∀ j v, cs[j]? = some v → w.cell? (a.add j) = some v) (hc : ∀ j, j < cs.length → (w.cell? ⟨b, o + j, none⟩).isSome = true) (hf : ∀ j, j < cs.length → w.frozen? ⟨b, o + j, none⟩ = false) (h1 : ∀ v ∈ cs, v.oneCell' = true) :
    (Builtin.copy_ #[dT, sT] ty #[.slice (some ⟨b, o, none⟩) dLen dCap, .slice (some a) sLen sCap]).run P w = .ok (goInt (Nat.min sLen dLen)) (w.setCells b o cs) := by
  have hl := run_loadCells_list (P := P) w a cs hsrc
  have hst := run_storeCells_cells (P := P) b o cs 0 w (by simpa using hc) (by simpa using hf) h1
  cases hq : P.info? elem with
  | none => simp [hq] at hs
  | some i =>
    have hi : i.size = k := by simpa [hq] using hs
    simp [Builtin.copy_, run_underlying hu, Builtin.lenOf, Builtin.firstCells, sizeOf, typeInfo, hq, hi, ← hn, hl, hst]
theorem keptC {g : Nat} {a w : World} {T : Nat → Prop} (h : Kept T a w) (hg : T g) (off : Nat) (news : List Value) : Kept T a (w.setCells g off news) := h.trans ((kept_setCells (g := g) news off w).mono fun _ _ e => e ▸ hg)
theorem keptD {a w : World} {T : Nat → Prop} (h : Kept T a w) : Kept T a w.drew := ⟨h.os, h.tape, h.output, h.size, h.block⟩


end Go.Proofs.Ytojlkdmlelgcbaa

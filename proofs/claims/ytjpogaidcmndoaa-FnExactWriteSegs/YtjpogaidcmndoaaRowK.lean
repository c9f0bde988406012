/- A row of records of the call's own, made or not yet made (nil): how it is read, kept, appended to. No statement about the program stands here. -/
import Derived.Test.YtjpogaidcmndoaaRecs
import Derived.Test.YtjpogaidcmndoaaWalkA
import Derived.Test.YtjpogaidcmndoaaKept
import Derived.Deep.AppendLies
import Derived.Deep.RegionHeld3
import Derived.Test.YtjpogaidcmndoaaCpK
namespace Go.Proofs.Ytjpogaidcmndoaa
open Go.RowKit

/-- The slice value .slice ao m cap holds the records L in a block of the call's own (from B on), or is nil. -/
def RowB {α : Type} [Inhabited α] (T : TypeId) (n : Nat) (enc : α → Nat → Value) (B : Nat) (w : World) (ao : Option Addr) (m cap : Nat) (L : List α) : Prop := w.ownsRow B T n (.slice ao m cap) m (recCells n enc L)

section
variable {α : Type} [Inhabited α] {T : TypeId} {n : Nat} {enc : α → Nat → Value} {B : Nat} {w w' : World} {ao : Option Addr} {m cap : Nat} {L : List α}

theorem RowB.len (h : RowB T n enc B w ao m cap L) (hn : 0 < n) : L.length = m := by
  have := h.1
  rw [recCells_length] at this
  exact Nat.eq_of_mul_eq_mul_right hn this
theorem RowB.parts (h : RowB T n enc B w ao m cap L) (hn : 0 < n) : (ao = none ∧ m = 0 ∧ cap = 0 ∧ L = []) ∨ ∃ g, ao = some ⟨g, 0, none⟩ ∧ B ≤ g ∧ g < w.heap.size ∧ m ≤ cap ∧ cap ≤ maxLen ∧ OwnV w g (recCells n enc L) := by
  have hl := h.len hn
  have h' := h
  rcases h'.2 with ⟨hv, h0⟩ | ⟨g', cap', cur, hv, hg, hh, hc, hm, hs, ht⟩
  · simp only [Value.slice.injEq] at hv
    obtain ⟨rfl, rfl, rfl⟩ := hv
    exact Or.inl ⟨rfl, rfl, rfl, List.length_eq_zero_iff.1 hl⟩
  · simp only [Value.slice.injEq, true_and] at hv
    obtain ⟨rfl, rfl⟩ := hv
    refine Or.inr ⟨g', rfl, hg, (Array.getElem?_eq_some_iff.1 hh).1, hc, hm, cur, T, hh, fun i hi => ?_⟩
    rw [recCells_length, hl] at hi
    rw [← ht, List.getElem?_take, if_pos hi]
    simp
theorem RowB.kept {P : Nat → Prop} (h : RowB T n enc B w ao m cap L) (hk : Kept P w w') (hg : ∀ g, ao = some ⟨g, 0, none⟩ → B ≤ g → g < w.heap.size → ¬ P g) : RowB T n enc B w' ao m cap L := by
  refine ⟨h.1, ?_⟩
  rcases h.2 with h2 | ⟨g', cap', cur, hv, hg', hh, r⟩
  · exact Or.inl h2
  · have hv' := hv
    simp only [Value.slice.injEq, true_and] at hv'
    have hlt := (Array.getElem?_eq_some_iff.1 hh).1
    exact Or.inr ⟨g', cap', cur, hv, hg', (hk.block g' hlt (hg g' hv'.1 hg' hlt)).trans hh, r⟩
theorem RowB.below (h : RowB T n enc B w ao m cap L) (hb : Below w.heap.size w w') : RowB T n enc B w' ao m cap L := h.kept (P := fun _ => False) (kept_of_below hb) (fun _ _ _ _ h => h)
theorem RowB.mono {B' : Nat} (h : RowB T n enc B w ao m cap L) (hB : B' ≤ B) : RowB T n enc B' w ao m cap L :=
  ⟨h.1, h.2.elim Or.inl (fun ⟨g, c, cur, hv, hg, r⟩ => Or.inr ⟨g, c, cur, hv, Nat.le_trans hB hg, r⟩)⟩
theorem RowB.recs (h : RowB T n enc B w ao m cap L) (hn : 0 < n) : RecsIn n enc w (.slice ao m cap) L := by
  have hl := h.len hn
  rcases h.parts hn with ⟨rfl, rfl, rfl, rfl⟩ | ⟨g, rfl, _, _, hc, hm, ho⟩
  · exact recsIn_nil
  · subst hl
    exact OwnV.recsIn ho hc hm
theorem rowB_nil (T : TypeId) (n : Nat) (enc : α → Nat → Value) (B : Nat) (w : World) : RowB T n enc B w none 0 0 ([] : List α) := ⟨by simp [recCells], Or.inl ⟨rfl, rfl⟩⟩
theorem rowB_new (T : TypeId) (n : Nat) (enc : α → Nat → Value) (w : World) (B : Nat) (hB : B ≤ w.heap.size) : RowB T n enc B (w.alloc (.cells #[] T)) (some ⟨w.heap.size, 0, none⟩) 0 0 ([] : List α) :=
  ⟨by simp [recCells], Or.inr ⟨w.heap.size, 0, #[], rfl, hB, Go.Deep.blk_alloc_new _ _, Nat.le_refl _, Nat.zero_le _, by simp, by simp [recCells]⟩⟩
end

/-- What a type's records are in the program. -/
structure RecTy {α : Type} [Inhabited α] (St T : TypeId) (n : Nat) (enc : α → Nat → Value) : Prop where
  und : Try.prog.underlying St = some (.slice T)
  pos : 0 < n
  inf : ∃ i z bytes, Try.prog.info? T = some i ∧ i.zero = some z ∧ i.size = n ∧ i.bytes = bytes ∧ z.cells.size = n ∧ bytes ≤ 1000
  one : ∀ x j, j < n → (enc x j).oneCell' = true
theorem recTy_mk {α : Type} [Inhabited α] {St T : TypeId} {n bytes : Nat} {enc : α → Nat → Value} {z : Value} (hu : Try.prog.underlying St = some (.slice T)) (hi : (Try.prog.info? T).map (fun i => (i.zero, i.size, i.bytes)) = some (some z, n, bytes)) (hz : z.cells.size = n) (hn : 0 < n) (hb : bytes ≤ 1000) (h1 : ∀ x j, j < n → (enc x j).oneCell' = true) : RecTy St T n enc := by
  obtain ⟨i0, hinf, hzz⟩ := Option.map_eq_some_iff.1 hi
  simp only [Prod.mk.injEq] at hzz
  obtain ⟨hz0, hz1, hz2⟩ := hzz
  exact ⟨hu, hn, ⟨i0, z, bytes, hinf, hz0, hz1, hz2, hz, hb⟩, h1⟩
theorem RecTy.cells {α : Type} [Inhabited α] {St T : TypeId} {n : Nat} {enc : α → Nat → Value} (h : RecTy St T n enc) (L : List α) : ∀ u ∈ recCells n enc L, u.oneCell' = true := fun u hu => by
  simp only [recCells, List.mem_map, List.mem_range] at hu
  obtain ⟨q, _, rfl⟩ := hu
  exact h.one _ _ (Nat.mod_lt _ h.pos)
/-- The records of one list behind those of another. -/
theorem recCells_append {α : Type} [Inhabited α] (n : Nat) (hn : 0 < n) (enc : α → Nat → Value) (L : List α) : ∀ M : List α, recCells n enc (L ++ M) = recCells n enc L ++ recCells n enc M := by
  intro M
  apply List.ext_getElem?
  intro q
  have hl : (L ++ M).length * n = L.length * n + M.length * n := by rw [List.length_append, Nat.add_mul]
  by_cases h1 : q < L.length * n
  · rw [List.getElem?_append_left (by rw [recCells_length]; exact h1)]
    have hd : q / n < L.length := by rw [Nat.div_lt_iff_lt_mul hn]; exact h1
    simp only [recCells, List.getElem?_map, List.getElem?_range h1, List.getElem?_range (show q < (L ++ M).length * n by omega), Option.map_some]
    congr 2
    simp only [List.getD]
    rw [List.getElem?_append_left hd]
  · rw [List.getElem?_append_right (by rw [recCells_length]; omega), recCells_length]
    by_cases h2 : q < L.length * n + M.length * n
    · have hr : q - L.length * n < M.length * n := by omega
      have hq : q = (q - L.length * n) + L.length * n := by omega
      have e1 : q / n = (q - L.length * n) / n + L.length := by
        conv => lhs; rw [hq]
        rw [Nat.add_mul_div_right _ _ hn]
      have e2 : q % n = (q - L.length * n) % n := by
        conv => lhs; rw [hq]
        rw [Nat.add_mul_mod_self_right]
      simp only [recCells, List.getElem?_map, List.getElem?_range (show q < (L ++ M).length * n by omega), List.getElem?_range hr, Option.map_some, e1, e2]
      congr 2
      simp only [List.getD]
      rw [List.getElem?_append_right (Nat.le_add_left _ _), Nat.add_sub_cancel]
    · rw [List.getElem?_eq_none (by rw [recCells_length]; omega), List.getElem?_eq_none (by rw [recCells_length]; omega)]

theorem recCells_one {α : Type} [Inhabited α] (n : Nat) (enc : α → Nat → Value) (x : α) : recCells n enc [x] = (List.range n).map (enc x) := by
  apply List.ext_getElem?
  intro q
  by_cases h : q < n
  · have e1 : q / n = 0 := Nat.div_eq_of_lt h
    have e2 : q % n = q := Nat.mod_eq_of_lt h
    simp only [recCells, List.length_singleton, Nat.one_mul, List.getElem?_map, List.getElem?_range h, Option.map_some, e1, e2]
    rfl
  · rw [List.getElem?_eq_none (by rw [recCells_length]; simp; omega), List.getElem?_eq_none (by simp; omega)]

/-- One record more. -/
theorem wpList_appRow {α : Type} [Inhabited α] {n : Nat} {enc : α → Nat → Value} {St T : TypeId} (hty : RecTy St T n enc) (w : World) {ops : Array Oper} {rest : List Oper} {o : Oper} {a : Act} {Q : Exit → Act → World → Prop} (hgd : o.guard = none) (s x : Operand)
    (ho : o.op = .call { callee := .builtin .append, args := #[s, x], argTypes := #[St, St] })
    (B : Nat) (ao : Option Addr) (m cap : Nat) (L : List α) (hs : a.eval s = .slice ao m cap) (h : RowB T n enc B w ao m cap L) (hB : B ≤ w.heap.size) (hm : m ≤ 1048576) (G : Nat) (b : α) (c : Nat) (hx : a.eval x = .slice (some ⟨G, 0, none⟩) 1 c) (hG : OwnV w G ((List.range n).map (enc b)))
    (hK : ∀ g' cap' w', RowB T n enc B w' (some ⟨g', 0, none⟩) (m + 1) cap' (L ++ [b]) → Kept (fun k => ao = some ⟨k, 0, none⟩) w w' → B ≤ g' → (ao = some ⟨g', 0, none⟩ ∨ g' = w.heap.size) → wpList Try.prog ops Q rest (a.put o.dst (.slice (some ⟨g', 0, none⟩) (m + 1) cap')) w') : wpList Try.prog ops Q (o :: rest) a w := by
  obtain ⟨i0, z, bytes, hinf, hz0, hz1, hz2, hz3, hby⟩ := hty.inf
  have hbb : (m + 1) * bytes ≤ 140737488355328 := by
    have : (m + 1) * bytes ≤ 1048577 * 1000 := Nat.mul_le_mul (by omega) hby
    omega
  refine wpList_append_lies w hgd s x St ho B T i0 z n bytes hty.und hinf hz0 hz1 hz2 hz3 hty.pos _ m (recCells n enc L) hs h ⟨G, 0, none⟩ 1 c ((List.range n).map (enc b)) hx (by simp) (fun j u hu => by
    have ha : (⟨G, 0, none⟩ : Addr).add j = ⟨G, j, none⟩ := by unfold Addr.add; split <;> simp_all
    rw [ha]
    exact hG.cell hu) (fun u hu => by
      obtain ⟨j, hj, rfl⟩ := List.mem_map.1 hu
      exact hty.one _ _ (by simpa using hj)) (by omega) (by unfold maxLen; omega) hbb hB _ rfl ?_
  intro g' cap' w' h2 h3 h4 _
  have hob : ∀ k, (Value.slice ao m cap).ownBlock = some k → ao = some ⟨k, 0, none⟩ := fun k hk => by
    rcases h.parts hty.pos with ⟨rfl, _⟩ | ⟨g, rfl, _⟩
    · simp [Value.ownBlock] at hk
    · simp [Value.ownBlock] at hk; rw [hk]
  have hr : RowB T n enc B w' (some ⟨g', 0, none⟩) (m + 1) cap' (L ++ [b]) := by
    unfold RowB
    rw [recCells_append n hty.pos, recCells_one]
    exact h2
  have hBg : B ≤ g' := by
    rcases hr.parts hty.pos with ⟨e, _⟩ | ⟨g, e, hBg, _⟩
    · cases e
    · simp only [Option.some.injEq, Addr.mk.injEq, and_true] at e
      omega
  exact hK g' cap' w' hr ⟨h3.os, h3.tape, h3.output, h3.size, fun k hk hn => h3.block k hk (fun e => hn (hob k e.symm))⟩ hBg (h4.imp (hob g') id)

theorem run_append_zer {P : Program} (w : World) (t ty e : TypeId) (i : TypeInfo) (ht : P.underlying t = some (.slice e)) (hi : P.info? e = some i) (a : Addr) (n cap cap' : Nat) (ao : Option Addr) (hc : n ≤ cap) :
    (Builtin.append_ #[t, t] ty #[.slice (some a) n cap, .slice ao 0 cap']).run P w = .ok (.slice (some a) n cap) w := by
  cases ao with
  | none => simp [Builtin.append_, run_underlying ht, sizeOf, typeInfo, hi, Builtin.lenOf, Builtin.firstCells, hc, storeCells]
  | some b => simp [Builtin.append_, run_underlying ht, sizeOf, typeInfo, hi, Builtin.lenOf, Builtin.firstCells, hc, storeCells, loadCells, loadCellsFrom]
theorem run_append_none {P : Program} (w : World) (t ty e : TypeId) (i : TypeInfo) (ht : P.underlying t = some (.slice e)) (hi : P.info? e = some i) (cap' : Nat) (ao : Option Addr) :
    (Builtin.append_ #[t, t] ty #[.slice none 0 0, .slice ao 0 cap']).run P w = .ok (.slice none 0 0) w := by
  cases ao with
  | none => simp [Builtin.append_, run_underlying ht, sizeOf, typeInfo, hi, Builtin.lenOf, Builtin.firstCells]
  | some b => simp [Builtin.append_, run_underlying ht, sizeOf, typeInfo, hi, Builtin.lenOf, Builtin.firstCells, loadCells, loadCellsFrom]

/-- Any number of records more, none too. -/
theorem wpList_appAll {α : Type} [Inhabited α] {n : Nat} {enc : α → Nat → Value} {St T : TypeId} (hty : RecTy St T n enc) (w : World) {ops : Array Oper} {rest : List Oper} {o : Oper} {a : Act} {Q : Exit → Act → World → Prop} (hgd : o.guard = none) (s x : Operand)
    (ho : o.op = .call { callee := .builtin .append, args := #[s, x], argTypes := #[St, St] })
    (B : Nat) (ao : Option Addr) (m cap : Nat) (L : List α) (hs : a.eval s = .slice ao m cap) (h : RowB T n enc B w ao m cap L) (hB : B ≤ w.heap.size) (hm : m ≤ 1048576) (xo : Option Addr) (k c : Nat) (M : List α) (hx : a.eval x = .slice xo k c) (hX : RecsIn n enc w (.slice xo k c) M) (hk : k ≤ 1048576)
    (hK : ∀ ao' cap' w', RowB T n enc B w' ao' (m + k) cap' (L ++ M) → Kept (fun b => ao = some ⟨b, 0, none⟩) w w' → wpList Try.prog ops Q rest (a.put o.dst (.slice ao' (m + k) cap')) w') : wpList Try.prog ops Q (o :: rest) a w := by
  obtain ⟨i0, z, bytes, hinf, hz0, hz1, hz2, hz3, hby⟩ := hty.inf
  have hbb : (m + k) * bytes ≤ 140737488355328 := by
    have : (m + k) * bytes ≤ 2097152 * 1000 := Nat.mul_le_mul (by omega) hby
    omega
  have hkl : M.length = k := by
    obtain ⟨_, _, e, _⟩ := hX
    simp only [Value.slice.injEq] at e
    exact e.2.1.symm
  by_cases hk0 : k = 0
  · subst hk0
    have hM : M = [] := List.length_eq_zero_iff.1 hkl
    subst hM
    rw [List.append_nil] at hK
    rcases h.parts hty.pos with ⟨rfl, rfl, rfl, rfl⟩ | ⟨g, rfl, _, _, hc, hcm, _⟩
    · refine wpList_plain hgd fun K hK' => ?_
      have hrun := run_append_none (P := Try.prog) w St o.type T i0 hty.und hinf c xo
      unfold Oper.wp
      simp [execOp, ho, resolve, invoke, builtin, hs, hx, hrun, Result.andThen]
      exact hK' _ _ (hK none 0 w h (Kept.refl _ _))
    · refine wpList_plain hgd fun K hK' => ?_
      have hrun := run_append_zer (P := Try.prog) w St o.type T i0 hty.und hinf ⟨g, 0, none⟩ m cap c xo hc
      unfold Oper.wp
      simp [execOp, ho, resolve, invoke, builtin, hs, hx, hrun, Result.andThen]
      exact hK' _ _ (hK _ cap w h (Kept.refl _ _))
  · obtain ⟨ad, rfl, hsrc⟩ := recs_src hX (by omega)
    refine wpList_append_lies w hgd s x St ho B T i0 z n bytes hty.und hinf hz0 hz1 hz2 hz3 hty.pos _ m (recCells n enc L) hs h ad k c (recCells n enc M) hx (by rw [recCells_length, hkl]) hsrc (hty.cells M) (by omega) (by unfold maxLen; omega) hbb hB _ rfl ?_
    intro g' cap' w' h2 h3 h4 _
    have hob : ∀ k, (Value.slice ao m cap).ownBlock = some k → ao = some ⟨k, 0, none⟩ := fun k hk => by
      rcases h.parts hty.pos with ⟨rfl, _⟩ | ⟨g, rfl, _⟩
      · simp [Value.ownBlock] at hk
      · simp [Value.ownBlock] at hk; rw [hk]
    refine hK _ cap' w' ?_ ⟨h3.os, h3.tape, h3.output, h3.size, fun k hk hn => h3.block k hk (fun e => hn (hob k e.symm))⟩
    unfold RowB
    rw [recCells_append n hty.pos]
    exact h2

end Go.Proofs.Ytjpogaidcmndoaa

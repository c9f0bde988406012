/- A row of numbers that may begin within its block (out of RdV, RdW). -/
import Derived.Test.YtnapggchejdcgaaFrlM
import Derived.Test.YtnapggchejdcgaaSgBs
import Derived.Test.YtnapggchejdcgaaKept
import Derived.ArgAppend
namespace Go.Proofs.Ytnapggchejdcgaa
open Go.RowKit

theorem kept_cell {T : Nat → Prop} {w w' : World} {b o : Nat} {v : Value} (hk : Kept T w w') (hc : w.cell? ⟨b, o, none⟩ = some v) (hT : ¬ T b) : w'.cell? ⟨b, o, none⟩ = some v :=
  (World.cell?_of_block (w := w) (a := ⟨b, o, none⟩) (hk.block b (lt_of_cell hc) hT)).trans hc
/-- A row of numbers that may begin within its block, the block from B on and not gp. -/
def QRow (B gp : Nat) (w : World) (v : Value) (xs : List Int) : Prop :=
  ∃ g o cap, v = .slice (some ⟨g, o, none⟩) xs.length cap ∧ B ≤ g ∧ g ≠ gp ∧ xs.length ≤ cap ∧ cap ≤ maxLen ∧ (∀ i, i < xs.length → w.cell? ⟨g, o + i, none⟩ = some (.int .i64 (xs.getD i 0))) ∧ (∀ i, i < cap → (w.cell? ⟨g, o + i, none⟩).isSome = true ∧ w.frozen? ⟨g, o + i, none⟩ = false)
theorem QRow.kept {T : Nat → Prop} {B gp : Nat} {w w' : World} {v : Value} {xs : List Int} (h : QRow B gp w v xs) (hk : Kept T w w') (hT : ∀ b, b ≠ gp → B ≤ b → ¬ T b) : QRow B gp w' v xs := by
  obtain ⟨g, o, cap, e, h1, h2, h3, h4, h5, h6⟩ := h
  refine ⟨g, o, cap, e, h1, h2, h3, h4, fun i hi => kept_cell hk (h5 i hi) (hT g h2 h1), fun i hi => ?_⟩
  obtain ⟨q1, q2⟩ := h6 i hi
  obtain ⟨u, hu⟩ := Option.isSome_iff_exists.1 q1
  refine ⟨by rw [kept_cell hk hu (hT g h2 h1)]; rfl, ?_⟩
  rw [World.frozen?_of_block (w := w) (a := ⟨g, o + i, none⟩) (hk.block g (lt_of_cell hu) (hT g h2 h1))]
  exact q2
theorem QRow.below {B gp : Nat} {w w' : World} {v : Value} {xs : List Int} (h : QRow B gp w v xs) (hb : Below w.heap.size w w') : QRow B gp w' v xs := h.kept (T := fun _ => False) (kept_of_below hb) (fun _ _ _ h => h)
theorem qrow_new (B gp : Nat) (w : World) (x : Int) (t : TypeId) (hB : B ≤ w.heap.size) (hg : gp < w.heap.size) : QRow B gp (w.alloc (.cells #[.int .i64 x] t)) (.slice (some ⟨w.heap.size, 0, none⟩) 1 1) [x] := by
  refine ⟨w.heap.size, 0, 1, rfl, hB, by omega, Nat.le_refl _, by unfold maxLen; omega, fun i hi => ?_, fun i hi => ?_⟩
  · have : i = 0 := by simp at hi; omega
    subst this
    simp
  · have : i = 0 := by omega
    subst this
    exact ⟨by simp, by simp⟩

theorem wpList_push_q {P : Program} {w : World} {ops : Array Oper} {rest : List Oper} {o : Oper} {a : Act} {Q : Exit → Act → World → Prop} (hgd : o.guard = none) (s x : Operand) (t : TypeId)
    (ho : o.op = .call { callee := .builtin .append, args := #[s, x], argTypes := #[t, t] })
    (e : TypeId) (i : TypeInfo) (z : Value) (ht : P.underlying t = some (.slice e)) (hi : P.info? e = some i) (hz : i.zero = some z)
    (hsize : i.size = 1) (hby : i.bytes = 8) (hzs : z.cells.size = 1)
    (B gp : Nat) (v : Value) (xs : List Int) (hq : QRow B gp w v xs) (hs : a.eval s = v) (hB : B ≤ w.heap.size) (hgp : gp < w.heap.size) (hl : xs.length ≤ 1000)
    (ad : Addr) (y : Int) (hx : a.eval x = .slice (some ad) 1 1) (hy : w.cell? (ad.add 0) = some (.int .i64 y))
    (h : ∀ g o' cap w', QRow B gp w' (.slice (some ⟨g, o', none⟩) (xs.length + 1) cap) (xs ++ [y]) → Kept (fun b => B ≤ b ∧ b ≠ gp) w w' → wpList P ops Q rest (a.put o.dst (.slice (some ⟨g, o', none⟩) (xs.length + 1) cap)) w') : wpList P ops Q (o :: rest) a w := by
  obtain ⟨g, off, cap, rfl, h1, h2, h3, h4, h5, h6⟩ := hq
  refine wpList_append_arg w hgd s x t ho e i z 1 8 ht hi hz hsize hby hzs (by decide) g off xs.length cap (ints xs) hs (by rw [ints_length, Nat.mul_one]) (fun j u hj => ?_) ad 1 1 [.int .i64 y] hx rfl (fun j u hj => ?_) (by simp [Value.oneCell']) (fun hr j hj => ?_) (by unfold maxLen; omega) (by omega) (fun hr => ?_) (fun hf v' w' hown hgrow => ?_)
  · have hjl : j < xs.length := by
      rcases Nat.lt_or_ge j xs.length with h | h
      · exact h
      · rw [List.getElem?_eq_none (by rw [ints_length]; exact h)] at hj; cases hj
    rw [h5 j hjl, ← ints_get xs hjl, hj]
  · match j, hj with
    | 0, hj => simp at hj; rw [← hj]; exact hy
    | j + 1, hj => simp at hj
  · have : j = 0 := by simpa using hj
    subst this
    rw [Nat.mul_one, Nat.add_zero]
    exact h6 xs.length (by omega)
  · have hlast := h6 xs.length (by omega)
    refine h g off cap _ ⟨g, off, cap, by simp, h1, h2, by simp; omega, h4, fun i hi => ?_, fun i hi => ?_⟩ ?_
    · rw [Nat.mul_one]
      show (w.setCell ⟨g, off + xs.length, none⟩ (.int .i64 y)).cell? _ = _
      by_cases e : i = xs.length
      · subst e
        rw [World.cell?_setCell_same' _ _ _ hlast.1]
        simp [List.getD]
      · have hi' : i < xs.length := by simp at hi; omega
        rw [World.cell?_setCell_other _ _ _ _ (by simp only [ne_eq, Addr.mk.injEq]; omega), h5 i hi']
        simp [List.getD, List.getElem?_append_left hi']
    · rw [Nat.mul_one]
      show ((w.setCell ⟨g, off + xs.length, none⟩ (.int .i64 y)).cell? _).isSome = true ∧ (w.setCell ⟨g, off + xs.length, none⟩ (.int .i64 y)).frozen? _ = false
      rw [World.frozen?_setCell]
      refine ⟨?_, (h6 i hi).2⟩
      by_cases e : i = xs.length
      · subst e
        rw [World.cell?_setCell_same' _ _ _ hlast.1]
        rfl
      · rw [World.cell?_setCell_other _ _ _ _ (by simp only [ne_eq, Addr.mk.injEq]; omega)]
        exact (h6 i hi).1
    · rw [Nat.mul_one]
      exact (Kept.refl _ w).setCell (p := ⟨g, off + xs.length, none⟩) ⟨h1, h2⟩ _
  · obtain ⟨g', cap', rfl⟩ := ownsRow_some hown
    obtain ⟨hge, hglt⟩ := hown.lt g' rfl
    have hown' := hown
    rcases hown.2 with ⟨hv, _⟩ | ⟨g2, cap2, cur, hv, hg, hh, hc, hm, hs2, ht2⟩
    · cases hv
    simp only [Value.slice.injEq, Option.some.injEq, Addr.mk.injEq, and_true, true_and] at hv
    obtain ⟨rfl, rfl⟩ := hv
    refine h g' 0 cap' w' ⟨g', 0, cap', by simp, by omega, by omega, by simpa using hc, hm, fun i hi => ?_, fun i hi => ?_⟩ ⟨hgrow.os, hgrow.tape, hgrow.output, hgrow.size, fun k hk _ => hgrow.block k hk (by simp)⟩
    · have := hown'.cells (g := g') rfl i (.int .i64 ((xs ++ [y]).getD i 0)) (by rw [show ints xs ++ [Value.int .i64 y] = ints (xs ++ [y]) from by simp [ints], ints_get _ hi])
      rw [Nat.zero_add]
      rw [show (⟨g', 0, none⟩ : Addr).add i = ⟨g', i, none⟩ from by cases i <;> simp [Addr.add]] at this
      exact this
    · rw [Nat.zero_add]
      have hi' : i < cur.size := by rw [hs2]; omega
      exact ⟨by simp [World.cell?, hh, hi'], by simp [World.frozen?, hh]⟩

theorem run_tail (g o n cap : Nat) (hc : n + 1 ≤ cap) (W : World) :
    (Instr.sliceAt 24 (.slice (some ⟨g, o, none⟩) (n + 1) cap) (some (.int .i64 1)) none none).run Try.prog W = .ok (.slice (some ⟨g, if cap = 1 then o else o + 1, none⟩) n (cap - 1)) W := by
  by_cases e : cap = 1
  · subst e
    have : n = 0 := by omega
    subst this
    simp [go_sem]
  · simp [go_sem, e, Addr.add]
    intro hh
    exfalso
    omega

theorem QRow.tail {B gp g o cap : Nat} {w : World} {x : Int} {xs : List Int} (h : QRow B gp w (.slice (some ⟨g, o, none⟩) (xs.length + 1) cap) (x :: xs)) : QRow B gp w (.slice (some ⟨g, if cap = 1 then o else o + 1, none⟩) xs.length (cap - 1)) xs := by
  obtain ⟨g', o', cap', e, h1, h2, h3, h4, h5, h6⟩ := h
  simp only [Value.slice.injEq, Option.some.injEq, Addr.mk.injEq, and_true] at e
  obtain ⟨⟨rfl, rfl⟩, -, rfl⟩ := e
  simp only [List.length_cons] at h3 h5
  refine ⟨g, _, cap - 1, rfl, h1, h2, by omega, by omega, fun i hi => ?_, fun i hi => ?_⟩
  · rw [if_neg (by omega), show o + 1 + i = o + (i + 1) by omega, h5 (i + 1) (by omega)]
    simp [List.getD]
  · rw [if_neg (by omega), show o + 1 + i = o + (i + 1) by omega]
    exact h6 (i + 1) (by omega)

def natL (Q : List Nat) : List Int := Q.map (fun v : Nat => (v : Int))
theorem natL_len (Q : List Nat) : (natL Q).length = Q.length := by simp [natL]

end Go.Proofs.Ytnapggchejdcgaa

/- Calls that go round: who is told sooner tells sooner, in numbers; a row of numbers that may begin within its block. No statement about the program stands here. -/
import Derived.Test.YtkjikjeecjendaaRdT
import Derived.Test.YtkjikjeecjendaaSgBs
import Derived.ArgAppend
namespace Go.Proofs.Ytkjikjeecjendaa
open Go.RowKit

/-- Who was told and has not told yet stands in Q, sooner ahead of later. -/
structure BfT (L : List Rad) (f : Nat) (P : List Int) (Q : List Nat) : Prop where
  len : P.length = L.length
  low : ∀ v, v < L.length → -1 ≤ P.getD v 0
  zero : ∀ v, v < L.length → (P.getD v 0 = 0 ↔ v = f)
  pred : ∀ v, v < L.length → 0 < P.getD v 0 → ∃ u, Edge L u v ∧ P.getD u 0 = P.getD v 0 - 1
  inq : ∀ v ∈ Q, v < L.length ∧ 0 ≤ P.getD v 0
  ord : Q.Pairwise (fun a b => P.getD a 0 ≤ P.getD b 0)
  up : ∀ t R, Q = t :: R → ∀ v, v < L.length → P.getD v 0 ≤ P.getD t 0 + 1
  rel : ∀ u v, Edge L u v → 0 ≤ P.getD u 0 → u ∉ Q → 0 ≤ P.getD v 0 ∧ P.getD v 0 ≤ P.getD u 0 + 1
/-- The same while t is telling. -/
structure BfI (L : List Rad) (f t : Nat) (P : List Int) (Q : List Nat) : Prop where
  len : P.length = L.length
  low : ∀ v, v < L.length → -1 ≤ P.getD v 0
  zero : ∀ v, v < L.length → (P.getD v 0 = 0 ↔ v = f)
  pred : ∀ v, v < L.length → 0 < P.getD v 0 → ∃ u, Edge L u v ∧ P.getD u 0 = P.getD v 0 - 1
  tl : t < L.length ∧ 0 ≤ P.getD t 0
  inq : ∀ v ∈ Q, v < L.length ∧ P.getD t 0 ≤ P.getD v 0
  ord : Q.Pairwise (fun a b => P.getD a 0 ≤ P.getD b 0)
  up : ∀ v, v < L.length → P.getD v 0 ≤ P.getD t 0 + 1
  rel : ∀ u v, Edge L u v → 0 ≤ P.getD u 0 → u ∉ Q → u ≠ t → 0 ≤ P.getD v 0 ∧ P.getD v 0 ≤ P.getD u 0 + 1
theorem BfT.pop {L : List Rad} {f t : Nat} {P : List Int} {Q : List Nat} (h : BfT L f P (t :: Q)) : BfI L f t P Q := by
  have ho := List.pairwise_cons.1 h.ord
  exact ⟨h.len, h.low, h.zero, h.pred, h.inq t (by simp), fun v hv => ⟨(h.inq v (by simp [hv])).1, ho.1 v hv⟩, ho.2, h.up t Q rfl, fun u v hE h1 h2 h3 => h.rel u v hE h1 (by simp [h2, h3])⟩
theorem BfI.put {L : List Rad} {f t j : Nat} {P : List Int} {Q : List Nat} (h : BfI L f t P Q) (hE : Edge L t j) (hj : P.getD j 0 < 0) : BfI L f t (P.set j (P.getD t 0 + 1)) (Q ++ [j]) := by
  have hjl : j < P.length := by rw [h.len]; exact hE.2.1
  have ht := h.tl
  have g : ∀ v, (P.set j (P.getD t 0 + 1)).getD v 0 = if v = j then P.getD t 0 + 1 else P.getD v 0 := fun v => getD_set P j _ v hjl
  have htj : t ≠ j := fun e => by rw [e] at ht; omega
  have gt : (P.set j (P.getD t 0 + 1)).getD t 0 = P.getD t 0 := by rw [g, if_neg htj]
  have gq : ∀ v ∈ Q, (P.set j (P.getD t 0 + 1)).getD v 0 = P.getD v 0 := fun v hv => by
    have := (h.inq v hv).2
    rw [g, if_neg (fun e => by rw [e] at this; omega)]
  refine ⟨by rw [List.length_set]; exact h.len, fun v hv => ?_, fun v hv => ?_, fun v hv hp => ?_, ⟨ht.1, by rw [gt]; exact ht.2⟩, fun v hv => ?_, ?_, fun v hv => ?_, fun u v hE' h1 h2 h3 => ?_⟩
  · rw [g]; split
    · omega
    · exact h.low v hv
  · rw [g]
    by_cases e : v = j
    · rw [if_pos e]
      constructor
      · intro h0; omega
      · intro h0
        have := (h.zero v hv).2 h0
        rw [e] at this
        omega
    · rw [if_neg e]; exact h.zero v hv
  · rw [g] at hp
    by_cases e : v = j
    · subst e
      refine ⟨t, hE, ?_⟩
      rw [gt, g, if_pos rfl]
      omega
    · rw [if_neg e] at hp
      obtain ⟨u, hu, hpu⟩ := h.pred v hv hp
      refine ⟨u, hu, ?_⟩
      rw [g, g, if_neg e, if_neg (fun e => by rw [e] at hpu; omega)]
      exact hpu
  · rw [gt]
    rcases List.mem_append.1 hv with hv | hv
    · rw [gq v hv]; exact h.inq v hv
    · rw [List.mem_singleton] at hv
      subst hv
      rw [g, if_pos rfl]
      exact ⟨hE.2.1, by omega⟩
  · rw [List.pairwise_append]
    refine ⟨h.ord.imp_of_mem (fun ha hb hab => by rw [gq _ ha, gq _ hb]; exact hab), List.pairwise_singleton _ _, fun a ha b hb => ?_⟩
    rw [List.mem_singleton] at hb
    subst hb
    rw [gq a ha, g, if_pos rfl]
    exact h.up a (h.inq a ha).1
  · rw [gt, g]; split
    · omega
    · exact h.up v hv
  · rw [List.mem_append, List.mem_singleton] at h2
    have e : u ≠ j := fun e => h2 (Or.inr e)
    rw [g, if_neg e] at h1
    obtain ⟨q1, q2⟩ := h.rel u v hE' h1 (fun e => h2 (Or.inl e)) h3
    rw [g, g, if_neg e, if_neg (fun e => by rw [e] at q1; omega)]
    exact ⟨q1, q2⟩
theorem BfI.close {L : List Rad} {f t : Nat} {P : List Int} {Q : List Nat} (h : BfI L f t P Q) (hr : ∀ k, k < (rHe L t).length → ∀ v : Nat, (rHe L t).getD k 0 = (v : Int) → 0 ≤ P.getD v 0) : BfT L f P Q :=
  ⟨h.len, h.low, h.zero, h.pred, fun v hv => ⟨(h.inq v hv).1, by have := (h.inq v hv).2; have := h.tl.2; omega⟩, h.ord, fun s R e v hv => by
    have h1 := (h.inq s (by rw [e]; simp)).2
    have h2 := h.up v hv
    omega, fun u v hE h1 h2 => by
    by_cases e : u = t
    · subst e
      obtain ⟨_, hv, k, hk, hkv⟩ := hE
      exact ⟨hr k hk v hkv, h.up v hv⟩
    · exact h.rel u v hE h1 h2 e⟩
theorem BfT.done {L : List Rad} {f : Nat} {P : List Int} (h : BfT L f P []) : Wave9 L f P :=
  ⟨h.len, h.low, h.zero, h.pred, fun u v hE h1 => h.rel u v hE h1 (by simp)⟩
theorem BfT.start (L : List Rad) (f : Nat) (hf : f < L.length) : BfT L f ((List.replicate L.length (-1)).set f 0) [f] := by
  have h := Lev.start L f hf
  have hz := (h.zero f hf).2 rfl
  refine ⟨h.len, h.low, h.zero, h.pred, fun v hv => ?_, List.pairwise_singleton _ _, fun t R e v hv => ?_, fun u v hE h1 h2 => ?_⟩
  · rw [List.mem_singleton] at hv; subst hv; exact ⟨hf, by omega⟩
  · simp only [List.cons.injEq] at e
    rw [← e.1, hz]
    have := h.up v hv
    omega
  · rw [List.mem_singleton] at h2
    have hg := getD_set (List.replicate L.length (-1 : Int)) f 0 u (by simpa using hf)
    rw [hg, if_neg h2] at h1
    simp [List.getD, hE.1] at h1
/-- How many are not told yet. -/
def negs (P : List Int) : Nat := P.countP (fun x => decide (x < 0))
theorem negs_put {P : List Int} {j : Nat} {x : Int} (hj : j < P.length) (h : P.getD j 0 < 0) (hx : 0 ≤ x) : negs (P.set j x) + 1 = negs P := by
  unfold negs
  induction P generalizing j with
  | nil => simp at hj
  | cons a P ih =>
    cases j with
    | zero =>
      simp only [List.getD, List.getElem?_cons_zero, Option.getD_some] at h
      rw [List.set_cons_zero, List.countP_cons, List.countP_cons, if_neg (by rw [decide_eq_true_eq]; omega), if_pos (by rw [decide_eq_true_eq]; exact h)]
    | succ j =>
      have := ih (j := j) (by simpa using hj) (by simpa [List.getD] using h)
      rw [List.set_cons_succ, List.countP_cons, List.countP_cons]
      omega

/-- A row of numbers that may begin within its block, the block from B on and not gp. -/
def QRow (B gp : Nat) (w : World) (v : Value) (xs : List Int) : Prop :=
  ∃ g o cap, v = .slice (some ⟨g, o, none⟩) xs.length cap ∧ B ≤ g ∧ g ≠ gp ∧ xs.length ≤ cap ∧ cap ≤ maxLen ∧ (∀ i, i < xs.length → w.cell? ⟨g, o + i, none⟩ = some (.int .i64 (xs.getD i 0))) ∧ (∀ i, i < cap → (w.cell? ⟨g, o + i, none⟩).isSome = true ∧ w.frozen? ⟨g, o + i, none⟩ = false)
theorem QRow.kept {T : Nat → Prop} {B gp : Nat} {w w' : World} {v : Value} {xs : List Int} (h : QRow B gp w v xs) (hk : Kept T w w') (hT : ∀ b, b ≠ gp → B ≤ b → ¬ T b) : QRow B gp w' v xs := by
  obtain ⟨g, o, cap, e, h1, h2, h3, h4, h5, h6⟩ := h
  refine ⟨g, o, cap, e, h1, h2, h3, h4, fun i hi => kept_cell hk (h5 i hi) (hT g h2 h1), fun i hi => ?_⟩
  obtain ⟨q1, q2⟩ := h6 i hi
  obtain ⟨u, hu⟩ := Option.isSome_iff_exists.1 q1
  refine ⟨by rw [kept_cell hk hu (hT g h2 h1)]; rfl, ?_⟩
  rw [World.frozen?_of_block (w := w) (a := ⟨g, o + i, none⟩) (hk.block g (lt_of_cell hu) (hT g h2 h1))]
  exact q2
theorem QRow.below {B gp : Nat} {w w' : World} {v : Value} {xs : List Int} (h : QRow B gp w v xs) (hb : Below w.heap.size w w') : QRow B gp w' v xs := h.kept (T := fun _ => False) (kept_of_below hb) (fun _ _ _ h => h)
theorem qrow_new (B gp : Nat) (w : World) (x : Int) (t : TypeId) (hB : B ≤ w.heap.size) (hg : gp < w.heap.size) : QRow B gp (w.alloc (.cells #[.int .i64 x] t)) (.slice (some ⟨w.heap.size, 0, none⟩) 1 1) [x] := by
  refine ⟨w.heap.size, 0, 1, rfl, hB, by omega, Nat.le_refl _, by unfold maxLen; omega, fun i hi => ?_, fun i hi => ?_⟩
  · have : i = 0 := by simp at hi; omega
    subst this
    simp
  · have : i = 0 := by omega
    subst this
    exact ⟨by simp, by simp⟩

theorem wpList_push_q {P : Program} {w : World} {ops : Array Oper} {rest : List Oper} {o : Oper} {a : Act} {Q : Exit → Act → World → Prop} (hgd : o.guard = none) (s x : Operand) (t : TypeId)
    (ho : o.op = .call { callee := .builtin .append, args := #[s, x], argTypes := #[t, t] })
    (e : TypeId) (i : TypeInfo) (z : Value) (ht : P.underlying t = some (.slice e)) (hi : P.info? e = some i) (hz : i.zero = some z)
    (hsize : i.size = 1) (hby : i.bytes = 8) (hzs : z.cells.size = 1)
    (B gp : Nat) (v : Value) (xs : List Int) (hq : QRow B gp w v xs) (hs : a.eval s = v) (hB : B ≤ w.heap.size) (hgp : gp < w.heap.size) (hl : xs.length ≤ 1000)
    (ad : Addr) (y : Int) (hx : a.eval x = .slice (some ad) 1 1) (hy : w.cell? (ad.add 0) = some (.int .i64 y))
    (h : ∀ g o' cap w', QRow B gp w' (.slice (some ⟨g, o', none⟩) (xs.length + 1) cap) (xs ++ [y]) → Kept (fun b => B ≤ b ∧ b ≠ gp) w w' → wpList P ops Q rest (a.put o.dst (.slice (some ⟨g, o', none⟩) (xs.length + 1) cap)) w') : wpList P ops Q (o :: rest) a w := by
  obtain ⟨g, off, cap, rfl, h1, h2, h3, h4, h5, h6⟩ := hq
  refine wpList_append_arg w hgd s x t ho e i z 1 8 ht hi hz hsize hby hzs (by decide) g off xs.length cap (ints xs) hs (by rw [ints_length, Nat.mul_one]) (fun j u hj => ?_) ad 1 1 [.int .i64 y] hx rfl (fun j u hj => ?_) (by simp [Value.oneCell']) (fun hr j hj => ?_) (by unfold maxLen; omega) (by omega) (fun hr => ?_) (fun hf v' w' hown hgrow => ?_)
  · have hjl : j < xs.length := by
      rcases Nat.lt_or_ge j xs.length with h | h
      · exact h
      · rw [List.getElem?_eq_none (by rw [ints_length]; exact h)] at hj; cases hj
    rw [h5 j hjl, ← ints_get xs hjl, hj]
  · match j, hj with
    | 0, hj => simp at hj; rw [← hj]; exact hy
    | j + 1, hj => simp at hj
  · have : j = 0 := by simpa using hj
    subst this
    rw [Nat.mul_one, Nat.add_zero]
    exact h6 xs.length (by omega)
  · have hlast := h6 xs.length (by omega)
    refine h g off cap _ ⟨g, off, cap, by simp, h1, h2, by simp; omega, h4, fun i hi => ?_, fun i hi => ?_⟩ ?_
    · rw [Nat.mul_one]
      show (w.setCell ⟨g, off + xs.length, none⟩ (.int .i64 y)).cell? _ = _
      by_cases e : i = xs.length
      · subst e
        rw [World.cell?_setCell_same' _ _ _ hlast.1]
        simp [List.getD]
      · have hi' : i < xs.length := by simp at hi; omega
        rw [World.cell?_setCell_other _ _ _ _ (by simp only [ne_eq, Addr.mk.injEq]; omega), h5 i hi']
        simp [List.getD, List.getElem?_append_left hi']
    · rw [Nat.mul_one]
      show ((w.setCell ⟨g, off + xs.length, none⟩ (.int .i64 y)).cell? _).isSome = true ∧ (w.setCell ⟨g, off + xs.length, none⟩ (.int .i64 y)).frozen? _ = false
      rw [World.frozen?_setCell]
      refine ⟨?_, (h6 i hi).2⟩
      by_cases e : i = xs.length
      · subst e
        rw [World.cell?_setCell_same' _ _ _ hlast.1]
        rfl
      · rw [World.cell?_setCell_other _ _ _ _ (by simp only [ne_eq, Addr.mk.injEq]; omega)]
        exact (h6 i hi).1
    · rw [Nat.mul_one]
      exact (Kept.refl _ w).setCell (p := ⟨g, off + xs.length, none⟩) ⟨h1, h2⟩ _
  · obtain ⟨g', cap', rfl⟩ := ownsRow_some hown
    obtain ⟨hge, hglt⟩ := hown.lt g' rfl
    have hown' := hown
    rcases hown.2 with ⟨hv, _⟩ | ⟨g2, cap2, cur, hv, hg, hh, hc, hm, hs2, ht2⟩
    · cases hv
    simp only [Value.slice.injEq, Option.some.injEq, Addr.mk.injEq, and_true, true_and] at hv
    obtain ⟨rfl, rfl⟩ := hv
    refine h g' 0 cap' w' ⟨g', 0, cap', by simp, by omega, by omega, by simpa using hc, hm, fun i hi => ?_, fun i hi => ?_⟩ ⟨hgrow.os, hgrow.tape, hgrow.output, hgrow.size, fun k hk _ => hgrow.block k hk (by simp)⟩
    · have := hown'.cells (g := g') rfl i (.int .i64 ((xs ++ [y]).getD i 0)) (by rw [show ints xs ++ [Value.int .i64 y] = ints (xs ++ [y]) from by simp [ints], ints_get _ hi])
      rw [Nat.zero_add]
      rw [show (⟨g', 0, none⟩ : Addr).add i = ⟨g', i, none⟩ from by cases i <;> simp [Addr.add]] at this
      exact this
    · rw [Nat.zero_add]
      have hi' : i < cur.size := by rw [hs2]; omega
      exact ⟨by simp [World.cell?, hh, hi'], by simp [World.frozen?, hh]⟩

end Go.Proofs.Ytkjikjeecjendaa

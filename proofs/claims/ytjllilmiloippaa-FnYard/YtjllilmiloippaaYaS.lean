/- A yard of the specification's own: rows that can be appended to and cut; what an op of it leaves. No statement about the program stands here. -/
import Derived.Test.YtjllilmiloippaaYaC2
import Derived.Deep.RegionLaw
import Derived.Deep.AppendLies
namespace Go.Proofs.Ytjllilmiloippaa
open Go.RowKit

theorem RowB.capLe {α : Type} [Inhabited α] {T : TypeId} {n : Nat} {enc : α → Nat → Value} {L : List α} {B : Nat} {w : World} {g m cap : Nat} (h : RowB T n enc B w (some ⟨g, 0, none⟩) m cap L) (hn : 0 < n) : m ≤ cap := ((h.mono (Nat.zero_le _)).ownG hn).2.1
theorem recs_len {α : Type} [Inhabited α] {n : Nat} {enc : α → Nat → Value} {w : World} {ba : Option Addr} {m cap : Nat} {L : List α} (h : RecsIn n enc w (.slice ba m cap) L) : L.length = m ∧ m ≤ cap ∧ cap ≤ maxLen := by
  obtain ⟨ao, c, e, h1, h2, _⟩ := h
  simp only [Value.slice.injEq] at e
  obtain ⟨rfl, rfl, rfl⟩ := e
  exact ⟨rfl, h1, h2⟩

/-- An append of any number to a row that is there, as a step of a region that draws. -/
theorem step_appTo {α : Type} [Inhabited α] {n : Nat} {enc : α → Nat → Value} {St T : TypeId} (hty : RecTy St T n enc) {ops : Array Oper} {o : Oper} {a : Act} {w : World} {K : Act → World → Prop} {Q : Exit → Act → World → Prop} {E : Prop} (hgd : o.guard = none) (s x : Operand)
    (ho : o.op = .call { callee := .builtin .append, args := #[s, x], argTypes := #[St, St] })
    (B g m cap : Nat) (L : List α) (hs : a.eval s = .slice (some ⟨g, 0, none⟩) m cap) (h : RowB T n enc B w (some ⟨g, 0, none⟩) m cap L) (hB : B ≤ w.heap.size) (hm : m ≤ 1048576) (xo : Option Addr) (k c : Nat) (M : List α) (hx : a.eval x = .slice xo k c) (hX : RecsIn n enc w (.slice xo k c) M) (hk : k ≤ 1048576)
    (hK : ∀ g' cap' w', RowB T n enc B w' (some ⟨g', 0, none⟩) (m + k) cap' (L ++ M) → Kept (fun b => b = g) w w' → (g' = g ∨ g' = w.heap.size) → K (a.put o.dst (.slice (some ⟨g', 0, none⟩) (m + k) cap')) w') :
    if Region.wanted o (yielded ops a.tmps) = true then Oper.wp Try.prog o a w K Q else E := by
  obtain ⟨i0, z, bytes, hinf, hz0, hz1, hz2, hz3, hby⟩ := hty.inf
  have hbb : (m + k) * bytes ≤ 140737488355328 := by
    have : (m + k) * bytes ≤ 2097152 * 1000 := Nat.mul_le_mul (by omega) hby
    omega
  have hkl : M.length = k := (recs_len hX).1
  by_cases hk0 : k = 0
  · subst hk0
    have hM : M = [] := List.length_eq_zero_iff.1 hkl
    subst hM
    rw [List.append_nil] at hK
    have hw : Region.wanted o (yielded ops a.tmps) = true := by simp [Region.wanted, hgd]
    rw [if_pos hw]
    have hrun := run_append_zer (P := Try.prog) w St o.type T i0 hty.und hinf ⟨g, 0, none⟩ m cap c xo (h.capLe hty.pos)
    unfold Oper.wp
    simp [execOp, ho, resolve, invoke, builtin, hs, hx, hrun, Result.andThen]
    exact hK _ cap w h (Kept.refl _ _) (Or.inl rfl)
  · obtain ⟨ad, rfl, hsrc⟩ := recs_src hX (by omega)
    refine step_append_lies w hgd s x St ho B T i0 z n bytes hty.und hinf hz0 hz1 hz2 hz3 hty.pos _ m (recCells n enc L) hs h ad k c (recCells n enc M) hx (by rw [recCells_length, hkl]) hsrc (hty.cells M) (by omega) (by unfold maxLen; omega) hbb hB _ rfl ?_
    intro g' cap' w' h2 h3 h4 _
    have hob : ∀ k, (Value.slice (some ⟨g, 0, none⟩) m cap).ownBlock = some k → k = g := fun k hk => by
      simp [Value.ownBlock] at hk; rw [hk]
    refine hK _ cap' w' ?_ ⟨h3.os, h3.tape, h3.output, h3.size, fun k hk hn => h3.block k hk (fun e => hn (hob k e.symm))⟩ (h4.imp (hob g') id)
    unfold RowB
    rw [recCells_append n hty.pos]
    exact h2

/-- One record more to a row that may be nil, as a step of a region that draws. -/
theorem step_appOne {α : Type} [Inhabited α] {n : Nat} {enc : α → Nat → Value} {St T : TypeId} (hty : RecTy St T n enc) {ops : Array Oper} {o : Oper} {a : Act} {w : World} {K : Act → World → Prop} {Q : Exit → Act → World → Prop} {E : Prop} (hgd : o.guard = none) (s x : Operand)
    (ho : o.op = .call { callee := .builtin .append, args := #[s, x], argTypes := #[St, St] })
    (B : Nat) (ao : Option Addr) (m cap : Nat) (L : List α) (hs : a.eval s = .slice ao m cap) (h : RowB T n enc B w ao m cap L) (hB : B ≤ w.heap.size) (hm : m ≤ 1048576) (xo : Option Addr) (c : Nat) (b : α) (hx : a.eval x = .slice xo 1 c) (hX : RecsIn n enc w (.slice xo 1 c) [b])
    (hK : ∀ g' cap' w', RowB T n enc B w' (some ⟨g', 0, none⟩) (m + 1) cap' (L ++ [b]) → Kept (fun b => ao = some ⟨b, 0, none⟩) w w' → B ≤ g' → (ao = some ⟨g', 0, none⟩ ∨ g' = w.heap.size) → K (a.put o.dst (.slice (some ⟨g', 0, none⟩) (m + 1) cap')) w') :
    if Region.wanted o (yielded ops a.tmps) = true then Oper.wp Try.prog o a w K Q else E := by
  obtain ⟨i0, z, bytes, hinf, hz0, hz1, hz2, hz3, hby⟩ := hty.inf
  have hbb : (m + 1) * bytes ≤ 140737488355328 := by
    have : (m + 1) * bytes ≤ 2097152 * 1000 := Nat.mul_le_mul (by omega) hby
    omega
  obtain ⟨ad, rfl, hsrc⟩ := recs_src hX (by omega)
  refine step_append_lies w hgd s x St ho B T i0 z n bytes hty.und hinf hz0 hz1 hz2 hz3 hty.pos _ m (recCells n enc L) hs h ad 1 c (recCells n enc [b]) hx (by rw [recCells_length]; rfl) hsrc (hty.cells _) (by omega) (by unfold maxLen; omega) hbb hB _ rfl ?_
  intro g' cap' w' h2 h3 h4 _
  have hob : ∀ k, (Value.slice ao m cap).ownBlock = some k → ao = some ⟨k, 0, none⟩ := fun k hk => by
    rcases h.parts hty.pos with ⟨rfl, _⟩ | ⟨g, rfl, _⟩
    · simp [Value.ownBlock] at hk
    · simp [Value.ownBlock] at hk; rw [hk]
  have hr : RowB T n enc B w' (some ⟨g', 0, none⟩) (m + 1) cap' (L ++ [b]) := by
    unfold RowB
    rw [recCells_append n hty.pos]
    exact h2
  have hBg : B ≤ g' := by
    rcases hr.parts hty.pos with ⟨e, _⟩ | ⟨g, e, hBg, _⟩
    · cases e
    · simp only [Option.some.injEq, Addr.mk.injEq, and_true] at e
      omega
  exact hK g' cap' w' hr ⟨h3.os, h3.tape, h3.output, h3.size, fun k hk hn => h3.block k hk (fun e => hn (hob k e.symm))⟩ hBg (h4.imp (hob g') id)

/-- A row's slice as a record: its block, its length, its capacity. -/
def eR (x : Nat × Nat × Nat) (_ : Nat) : Value := .slice (some ⟨x.1, 0, none⟩) x.2.1 x.2.2
theorem tyR : RecTy 24 30 1 eR := recTy_mk Try.underlying24 Try.info30 (by rfl) (by omega) (by omega) (fun _ _ _ => rfl)

/-- The rows R in memory of one's own, their blocks among U: block g holds the rows' slices. -/
structure SY (U : Nat → Prop) (w : World) (g : Nat) (A C : Nat → Nat) (R : List (List Int)) : Prop where
  top : OwnV w g (tops A C R)
  row : ∀ r, r < R.length → RowB 3 1 eI 0 w (some ⟨A r, 0, none⟩) (R.getD r []).length (C r) (R.getD r [])
  ug : U g
  ua : ∀ r, r < R.length → U (A r)
  off : ∀ r, r < R.length → A r ≠ g
  apart : ∀ r s, r < R.length → s < R.length → r ≠ s → A r ≠ A s

section
variable {U : Nat → Prop} {w w' : World} {g : Nat} {A C : Nat → Nat} {R : List (List Int)}
theorem SY.kept {T : Nat → Prop} (h : SY U w g A C R) (hk : Kept T w w') (hT : ∀ k, U k → ¬ T k) : SY U w' g A C R :=
  ⟨h.top.kept hk (hT g h.ug), fun r hr => (h.row r hr).kept hk (fun q e _ _ => by
    simp only [Option.some.injEq, Addr.mk.injEq, and_true] at e
    exact e ▸ hT _ (h.ua r hr)), h.ug, h.ua, h.off, h.apart⟩
theorem SY.below (h : SY U w g A C R) (hb : Below w.heap.size w w') : SY U w' g A C R := h.kept (T := fun _ => False) (kept_of_below hb) (fun _ _ x => x)
theorem SY.mono {U' : Nat → Prop} (h : SY U w g A C R) (hU : ∀ k, U k → U' k) : SY U' w g A C R := ⟨h.top, h.row, hU _ h.ug, fun r hr => hU _ (h.ua r hr), h.off, h.apart⟩
theorem SY.caps (h : SY U w g A C R) {r : Nat} (hr : r < R.length) : OwnV w (A r) (ints (R.getD r [])) ∧ (R.getD r []).length ≤ C r ∧ C r ≤ maxLen ∧ A r < w.heap.size := by
  obtain ⟨h1, h2, h3, h4, _⟩ := (h.row r hr).ownG (by omega)
  rw [recI] at h1
  exact ⟨h1, h2, h3, h4⟩
theorem SY.own {B : Nat} (h : SY U w g A C R) (hB : ∀ k, U k → B ≤ k) : OwnRows B w g A C R :=
  ⟨hB g h.ug, h.top, fun _ hr => (h.caps hr).1, fun _ hr => ⟨(h.caps hr).2.1, (h.caps hr).2.2.1⟩, fun r hr => ⟨hB _ (h.ua r hr), h.off r hr⟩, h.apart⟩
theorem SY.rows (h : SY U w g A C R) {cap : Nat} (hl : R.length ≤ cap) (hm : cap ≤ maxLen) : RowsIn w (.slice (some ⟨g, 0, none⟩) R.length cap) R := (h.own (B := 0) (fun _ _ => Nat.zero_le _)).rowsIn hl hm
theorem SY.at (h : SY U w g A C R) {r : Nat} (hr : r < R.length) : w.cell? ⟨g, r, none⟩ = some (.slice (some ⟨A r, 0, none⟩) (R.getD r []).length (C r)) ∧ w.frozen? ⟨g, r, none⟩ = false := ⟨h.top.cell (tops_get A C R hr), h.top.frozen r⟩

theorem tops_set {row : List Int} {b g' cap' : Nat} (hb : b < R.length) : (tops A C R).set b (.slice (some ⟨g', 0, none⟩) row.length cap') = tops (fun r => if r = b then g' else A r) (fun r => if r = b then cap' else C r) (R.set b row) := by
  apply List.ext_getElem?
  intro i
  by_cases hi : i < R.length
  · rw [tops_get _ _ _ (by rw [List.length_set]; exact hi)]
    by_cases e : i = b
    · subst e
      rw [List.getElem?_set_self (by rw [tops_length]; exact hi)]
      simp [List.getD, hi]
    · rw [List.getElem?_set_ne (fun x => e x.symm), tops_get A C R hi]
      have : (R.set b row).getD i [] = R.getD i [] := by simp [List.getD, List.getElem?_set_ne (fun x => e x.symm)]
      rw [this]
      simp [e]
  · rw [List.getElem?_eq_none (by rw [List.length_set, tops_length]; omega), List.getElem?_eq_none (by rw [tops_length, List.length_set]; omega)]

theorem getD_set_self {row : List Int} {b : Nat} (hb : b < R.length) : (R.set b row).getD b [] = row := by simp [List.getD, hb]
theorem getD_set_ne {row : List Int} {b i : Nat} (e : i ≠ b) : (R.set b row).getD i [] = R.getD i [] := by simp [List.getD, List.getElem?_set_ne (fun x => e x.symm)]

/-- A row is written anew: its slice is stored. -/
theorem SY.put {w1 : World} {row : List Int} {b g' cap' : Nat} (h : SY U w g A C R) (hb : b < R.length) (hk : Kept (fun k => k = A b) w w1) (hr : RowB 3 1 eI 0 w1 (some ⟨g', 0, none⟩) row.length cap' row) (hg : g' = A b ∨ (w.heap.size ≤ g' ∧ U g')) :
    SY U (w1.setCell ⟨g, b, none⟩ (.slice (some ⟨g', 0, none⟩) row.length cap')) g (fun r => if r = b then g' else A r) (fun r => if r = b then cap' else C r) (R.set b row) := by
  have hgo : g ≠ A b := fun e => h.off b hb e.symm
  have hlt : ∀ r, r < R.length → A r < w.heap.size := fun r hr => (h.caps hr).2.2.2
  have hgl : g < w.heap.size := h.top.lt
  have hg'g : g' ≠ g := by rcases hg with e | ⟨e, _⟩ <;> omega
  have hne : ∀ r, r < R.length → r ≠ b → A r ≠ g' := fun r hr e => by
    rcases hg with e' | ⟨e', _⟩
    · rw [e']; exact h.apart r b hr hb e
    · have := hlt r hr; omega
  have hKS : ∀ v, Kept (fun k => k = g) w1 (w1.setCell ⟨g, b, none⟩ v) := fun v => (Kept.refl (fun k => k = g) w1).setCell (p := ⟨g, b, none⟩) rfl v
  refine ⟨?_, fun r hrl => ?_, h.ug, fun r hrl => ?_, fun r hrl => ?_, fun r s hrl hsl hrs => ?_⟩
  · rw [← tops_set hb]
    exact (h.top.kept hk hgo).set b _ (by rw [tops_length]; exact hb)
  · rw [List.length_set] at hrl
    by_cases e : r = b
    · subst e
      rw [getD_set_self hb]
      simp only [if_true]
      exact hr.kept (hKS _) (fun q eq _ _ => by
        simp only [Option.some.injEq, Addr.mk.injEq, and_true] at eq
        omega)
    · rw [getD_set_ne e]
      simp only [if_neg e]
      refine ((h.row r hrl).kept hk (fun q eq _ _ => ?_)).kept (hKS _) (fun q eq _ _ => ?_)
      · simp only [Option.some.injEq, Addr.mk.injEq, and_true] at eq
        exact eq ▸ h.apart r b hrl hb e
      · simp only [Option.some.injEq, Addr.mk.injEq, and_true] at eq
        exact eq ▸ h.off r hrl
  · rw [List.length_set] at hrl
    by_cases e : r = b
    · subst e
      simp only [if_true]
      rcases hg with e' | ⟨_, e'⟩
      · rw [e']; exact h.ua r hrl
      · exact e'
    · simp only [if_neg e]; exact h.ua r hrl
  · rw [List.length_set] at hrl
    by_cases e : r = b
    · subst e; simp only [if_true]; exact hg'g
    · simp only [if_neg e]; exact h.off r hrl
  · rw [List.length_set] at hrl hsl
    by_cases e : r = b
    · subst e
      simp only [if_true, if_neg (fun x => hrs (Eq.symm x))]
      exact fun x => hne s hsl (fun y => hrs y.symm) x.symm
    · by_cases e2 : s = b
      · subst e2
        simp only [if_true, if_neg e]
        exact hne r hrl e
      · simp only [if_neg e, if_neg e2]; exact h.apart r s hrl hsl hrs

theorem RowB.cut {n : Nat} {xs : List Int} {g1 m c : Nat} (h : RowB 3 1 eI 0 w (some ⟨g1, 0, none⟩) m c xs) (hn : n ≤ m) : RowB 3 1 eI 0 w (some ⟨g1, 0, none⟩) n c (xs.take n) := by
  have hl := h.len (by omega)
  obtain ⟨h1, h2⟩ := h
  refine ⟨by rw [recCells_length, List.length_take]; omega, ?_⟩
  rcases h2 with ⟨e, _⟩ | ⟨g', cap', cur, e, hg, hh, hc, hm, hs, ht⟩
  · cases e
  · simp only [Value.slice.injEq, Option.some.injEq, Addr.mk.injEq, and_true, true_and] at e
    obtain ⟨rfl, rfl⟩ := e
    refine Or.inr ⟨g1, c, cur, rfl, hg, hh, by omega, hm, hs, ?_⟩
    rw [recI] at ht ⊢
    have : ints (xs.take n) = (ints xs).take n := by simp [ints, List.map_take]
    rw [this, ← ht, List.take_take]
    congr 1
    omega
end

end Go.Proofs.Ytjllilmiloippaa

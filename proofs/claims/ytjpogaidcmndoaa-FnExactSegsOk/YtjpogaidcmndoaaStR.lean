/- Lists of texts as rows of records; appends of any number to a row of the call's own. Written by wip/mkstr.py. -/
import Derived.Test.YtjpogaidcmndoaaOwR
import Derived.Test.YtjpogaidcmndoaaAppK
import Derived.Test.YtjpogaidcmndoaaBlS
import Derived.Deep.AppendLies
import Derived.Deep.RegionLaw
namespace Go.Proofs.Ytjpogaidcmndoaa
open Go.RowKit

section
variable {w w' : World} {g m cap : Nat}
theorem RowB.ownG {α : Type} [Inhabited α] {T : TypeId} {n : Nat} {enc : α → Nat → Value} {L : List α} (h : RowB T n enc 0 w (some ⟨g, 0, none⟩) m cap L) (hn : 0 < n) : OwnV w g (recCells n enc L) ∧ m ≤ cap ∧ cap ≤ maxLen ∧ g < w.heap.size ∧ L.length = m := by
  have hl := h.len hn
  rcases h.parts hn with ⟨e, _⟩ | ⟨g', e, _, hlt, h1, h2, ho⟩
  · cases e
  · simp only [Option.some.injEq, Addr.mk.injEq, and_true] at e
    subst e
    exact ⟨ho, h1, h2, hlt, hl⟩
end
theorem RowB.capLe {α : Type} [Inhabited α] {T : TypeId} {n : Nat} {enc : α → Nat → Value} {L : List α} {B : Nat} {w : World} {g m cap : Nat} (h : RowB T n enc B w (some ⟨g, 0, none⟩) m cap L) (hn : 0 < n) : m ≤ cap := ((h.mono (Nat.zero_le _)).ownG hn).2.1
theorem wpList_appTo {α : Type} [Inhabited α] {n : Nat} {enc : α → Nat → Value} {St T : TypeId} (hty : RecTy St T n enc) (w : World) {ops : Array Oper} {rest : List Oper} {o : Oper} {a : Act} {Q : Exit → Act → World → Prop} (hgd : o.guard = none) (s x : Operand)
    (ho : o.op = .call { callee := .builtin .append, args := #[s, x], argTypes := #[St, St] })
    (B g m cap : Nat) (L : List α) (hs : a.eval s = .slice (some ⟨g, 0, none⟩) m cap) (h : RowB T n enc B w (some ⟨g, 0, none⟩) m cap L) (hB : B ≤ w.heap.size) (hm : m ≤ 1048576) (xo : Option Addr) (k c : Nat) (M : List α) (hx : a.eval x = .slice xo k c) (hX : RecsIn n enc w (.slice xo k c) M) (hk : k ≤ 1048576)
    (hK : ∀ g' cap' w', RowB T n enc B w' (some ⟨g', 0, none⟩) (m + k) cap' (L ++ M) → Kept (fun b => b = g) w w' → (g' = g ∨ g' = w.heap.size) → wpList Try.prog ops Q rest (a.put o.dst (.slice (some ⟨g', 0, none⟩) (m + k) cap')) w') : wpList Try.prog ops Q (o :: rest) a w := by
  obtain ⟨i0, z, bytes, hinf, hz0, hz1, hz2, hz3, hby⟩ := hty.inf
  have hbb : (m + k) * bytes ≤ 140737488355328 := by
    have : (m + k) * bytes ≤ 2097152 * 1000 := Nat.mul_le_mul (by omega) hby
    omega
  have hkl : M.length = k := by
    obtain ⟨_, _, e, _⟩ := hX
    simp only [Value.slice.injEq] at e
    exact e.2.1.symm
  by_cases hk0 : k = 0
  · subst hk0
    have hM : M = [] := List.length_eq_zero_iff.1 hkl
    subst hM
    rw [List.append_nil] at hK
    rcases h.parts hty.pos with ⟨e, _⟩ | ⟨g, e, _, _, hc, hcm, _⟩
    · cases e
    · simp only [Option.some.injEq, Addr.mk.injEq, and_true] at e
      subst e
      refine wpList_plain hgd fun K hK' => ?_
      have hrun := run_append_zer (P := Try.prog) w St o.type T i0 hty.und hinf ⟨g, 0, none⟩ m cap c xo hc
      unfold Oper.wp
      simp [execOp, ho, resolve, invoke, builtin, hs, hx, hrun, Result.andThen]
      exact hK' _ _ (hK _ cap w h (Kept.refl _ _) (Or.inl rfl))
  · obtain ⟨ad, rfl, hsrc⟩ := recs_src hX (by omega)
    refine wpList_append_lies w hgd s x St ho B T i0 z n bytes hty.und hinf hz0 hz1 hz2 hz3 hty.pos _ m (recCells n enc L) hs h ad k c (recCells n enc M) hx (by rw [recCells_length, hkl]) hsrc (hty.cells M) (by omega) (by unfold maxLen; omega) hbb hB _ rfl ?_
    intro g' cap' w' h2 h3 h4 _
    have hob : ∀ k, (Value.slice (some ⟨g, 0, none⟩) m cap).ownBlock = some k → k = g := fun k hk => by
      simp [Value.ownBlock] at hk; rw [hk]
    refine hK _ cap' w' ?_ ⟨h3.os, h3.tape, h3.output, h3.size, fun k hk hn => h3.block k hk (fun e => hn (hob k e.symm))⟩ (h4.imp (hob g') id)
    unfold RowB
    rw [recCells_append n hty.pos]
    exact h2

/-- The same inside a region that draws. -/
theorem step_appTo {α : Type} [Inhabited α] {n : Nat} {enc : α → Nat → Value} {St T : TypeId} (hty : RecTy St T n enc) {ops : Array Oper} {o : Oper} {a : Act} {w : World} {K : Act → World → Prop} {Q : Exit → Act → World → Prop} {E : Prop} (hgd : o.guard = none) (s x : Operand)
    (ho : o.op = .call { callee := .builtin .append, args := #[s, x], argTypes := #[St, St] })
    (B g m cap : Nat) (L : List α) (hs : a.eval s = .slice (some ⟨g, 0, none⟩) m cap) (h : RowB T n enc B w (some ⟨g, 0, none⟩) m cap L) (hB : B ≤ w.heap.size) (hm : m ≤ 1048576) (xo : Option Addr) (k c : Nat) (M : List α) (hx : a.eval x = .slice xo k c) (hX : RecsIn n enc w (.slice xo k c) M) (hk : k ≤ 1048576)
    (hK : ∀ g' cap' w', RowB T n enc B w' (some ⟨g', 0, none⟩) (m + k) cap' (L ++ M) → Kept (fun b => b = g) w w' → (g' = g ∨ g' = w.heap.size) → K (a.put o.dst (.slice (some ⟨g', 0, none⟩) (m + k) cap')) w') :
    if Region.wanted o (yielded ops a.tmps) = true then Oper.wp Try.prog o a w K Q else E := by
  obtain ⟨i0, z, bytes, hinf, hz0, hz1, hz2, hz3, hby⟩ := hty.inf
  have hbb : (m + k) * bytes ≤ 140737488355328 := by
    have : (m + k) * bytes ≤ 2097152 * 1000 := Nat.mul_le_mul (by omega) hby
    omega
  have hkl : M.length = k := by
    obtain ⟨_, _, e, _⟩ := hX
    simp only [Value.slice.injEq] at e
    exact e.2.1.symm
  by_cases hk0 : k = 0
  · subst hk0
    have hM : M = [] := List.length_eq_zero_iff.1 hkl
    subst hM
    rw [List.append_nil] at hK
    have hw : Region.wanted o (yielded ops a.tmps) = true := by simp [Region.wanted, hgd]
    rw [if_pos hw]
    have hrun := run_append_zer (P := Try.prog) w St o.type T i0 hty.und hinf ⟨g, 0, none⟩ m cap c xo (h.capLe hty.pos)
    unfold Oper.wp
    simp [execOp, ho, resolve, invoke, builtin, hs, hx, hrun, Result.andThen]
    exact hK _ cap w h (Kept.refl _ _) (Or.inl rfl)
  · obtain ⟨ad, rfl, hsrc⟩ := recs_src hX (by omega)
    refine step_append_lies w hgd s x St ho B T i0 z n bytes hty.und hinf hz0 hz1 hz2 hz3 hty.pos _ m (recCells n enc L) hs h ad k c (recCells n enc M) hx (by rw [recCells_length, hkl]) hsrc (hty.cells M) (by omega) (by unfold maxLen; omega) hbb hB _ rfl ?_
    intro g' cap' w' h2 h3 h4 _
    have hob : ∀ k, (Value.slice (some ⟨g, 0, none⟩) m cap).ownBlock = some k → k = g := fun k hk => by
      simp [Value.ownBlock] at hk; rw [hk]
    refine hK _ cap' w' ?_ ⟨h3.os, h3.tape, h3.output, h3.size, fun k hk hn => h3.block k hk (fun e => hn (hob k e.symm))⟩ (h4.imp (hob g') id)
    unfold RowB
    rw [recCells_append n hty.pos]
    exact h2

theorem getD_lt' {α : Type} [Inhabited α] {L : List α} {i : Nat} (h : i < L.length) : L.getD i default = L[i] := by simp [List.getD, List.getElem?_eq_getElem h]
section
variable {α : Type} [Inhabited α] {n : Nat} {enc : α → Nat → Value} {w : World} {ba : Option Addr} {m cap k : Nat} {L : List α}
theorem recs_len (h : RecsIn n enc w (.slice ba m cap) L) : L.length = m ∧ m ≤ cap ∧ cap ≤ maxLen := by
  obtain ⟨ao, c, e, h1, h2, _⟩ := h
  simp only [Value.slice.injEq] at e
  obtain ⟨rfl, rfl, rfl⟩ := e
  exact ⟨rfl, h1, h2⟩
theorem recs_drop (h : RecsIn n enc w (.slice ba m cap) L) : RecsIn n enc w (.slice (if cap = k then ba else ba.map (·.add (k * n))) (m - k) (cap - k)) (L.drop k) := by
  obtain ⟨hm, hc, hx⟩ := recs_len h
  obtain ⟨ao, c, e, _, _, h3⟩ := h
  simp only [Value.slice.injEq] at e
  obtain ⟨rfl, _, rfl⟩ := e
  refine ⟨_, _, by rw [List.length_drop, hm], by rw [List.length_drop]; omega, by omega, fun i hi => ?_⟩
  rw [List.length_drop] at hi
  obtain ⟨b, o, rfl, hcl⟩ := h3 (k + i) (by omega)
  refine ⟨b, o + k * n, ?_, fun j hj => ?_⟩
  · rw [if_neg (by omega), Option.map_some, Go.WideShapes.add_plain]
  · rw [show o + k * n + (i * n + j) = o + ((k + i) * n + j) by rw [Nat.add_mul]; omega, hcl j hj, getD_lt' (by omega), getD_lt' (by rw [List.length_drop]; omega), List.getElem_drop]
theorem recs_take (h : RecsIn n enc w (.slice ba m cap) L) (hk : k ≤ m) : RecsIn n enc w (.slice ba k cap) (L.take k) := by
  obtain ⟨hm, hc, hx⟩ := recs_len h
  obtain ⟨ao, c, e, _, _, h3⟩ := h
  simp only [Value.slice.injEq] at e
  obtain ⟨rfl, _, rfl⟩ := e
  have hl : (L.take k).length = k := by rw [List.length_take]; omega
  refine ⟨_, _, by rw [hl], by omega, by omega, fun i hi => ?_⟩
  obtain ⟨b, o, rfl, hcl⟩ := h3 i (by omega)
  refine ⟨b, o, rfl, fun j hj => ?_⟩
  rw [hcl j hj, getD_lt' (by omega), getD_lt' (by omega), List.getElem_take]
end
def eS (s : ByteArray) (_ : Nat) : Value := .string s
theorem recS (H : List ByteArray) : recCells 1 eS H = strs H := by
  apply List.ext_getElem?
  intro i
  by_cases h : i < H.length
  · simp [recCells, eS, strs, h, List.getD]
  · simp [recCells, strs, h]
theorem tyS : RecTy 34 9 1 eS := recTy_mk Try.underlying34 Try.infoStr (by rfl) (by omega) (by omega) (fun _ _ _ => rfl)
theorem SIn.recs {w : World} {v : Value} {H : List ByteArray} (h : SIn w v H) : RecsIn 1 eS w v H := by
  obtain ⟨ao, cap, rfl, h1, h2, h3⟩ := h
  refine ⟨ao, cap, rfl, h1, h2, fun i hi => ?_⟩
  obtain ⟨b, o, e, hc⟩ := h3 i hi
  refine ⟨b, o, e, fun j hj => ?_⟩
  have : j = 0 := by omega
  subst this
  rw [Nat.mul_one, Nat.add_zero]
  exact hc
theorem RowB.lo {α : Type} [Inhabited α] {T : TypeId} {n : Nat} {enc : α → Nat → Value} {L : List α} {B : Nat} {w : World} {g m cap : Nat} (h : RowB T n enc B w (some ⟨g, 0, none⟩) m cap L) (hn : 0 < n) : B ≤ g ∧ g < w.heap.size ∧ m ≤ cap ∧ cap ≤ maxLen ∧ OwnV w g (recCells n enc L) ∧ L.length = m := by
  have hl := h.len hn
  rcases h.parts hn with ⟨e, _⟩ | ⟨g', e, h0, hlt, h1, h2, ho⟩
  · cases e
  · simp only [Option.some.injEq, Addr.mk.injEq, and_true] at e
    subst e
    exact ⟨h0, hlt, h1, h2, ho, hl⟩
theorem RowB.texts {B m cap : Nat} {ao : Option Addr} {w : World} {L : List ByteArray} (h : RowB 9 1 eS B w ao m cap L) : SIn w (.slice ao m cap) L := by
  have hl := h.len (by omega)
  rcases h.parts (by omega) with ⟨rfl, rfl, rfl, rfl⟩ | ⟨g, rfl, _, _, hc, hm, ho⟩
  · exact cIn_nil
  · subst hl
    rw [recS] at ho
    exact ⟨_, cap, rfl, hc, hm, fun i hi => ⟨g, 0, rfl, by rw [Nat.zero_add]; exact ho.cell (map_get (E := Value.string) L hi)⟩⟩

end Go.Proofs.Ytjpogaidcmndoaa

/- Rows of numbers that are appended to (out of YaW, YaS, YaU2). -/
import Derived.Test.YtjpogaidcmndoaaRecH
import Derived.Test.YtjpogaidcmndoaaRowK
import Derived.Test.YtjpogaidcmndoaaCpInt
import Derived.Deep.RegionLaw
import Derived.Deep.AppendLies
namespace Go.Proofs.Ytjpogaidcmndoaa
open Go.RowKit

def eI (x : Int) (_ : Nat) : Value := .int .i64 x
theorem recI (L : List Int) : recCells 1 eI L = ints L := by
  apply List.ext_getElem?
  intro i
  by_cases h : i < L.length
  · simp [recCells, eI, ints, h, List.getD]
  · simp [recCells, ints, h]
theorem tyI : RecTy 78 3 1 eI := recTy_mk Try.underlying78 Try.info3 (by rfl) (by omega) (by omega) (fun _ _ _ => rfl)
theorem ints_recs {w : World} {v : Value} {F : List Int} (h : IntsIn w v F) : RecsIn 1 eI w v F := by
  obtain ⟨ao, cap, rfl, h1, h2, h3⟩ := h
  refine ⟨ao, cap, rfl, h1, h2, fun i hi => ?_⟩
  obtain ⟨b, o, e, hc⟩ := h3 i hi
  refine ⟨b, o, e, fun j hj => ?_⟩
  have : j = 0 := by omega
  subst this
  rw [Nat.mul_one, Nat.add_zero]
  first | exact hc | (rw [hc]; simp [eI, List.getD])
theorem recs_ints {w : World} {v : Value} {F : List Int} (h : RecsIn 1 eI w v F) : IntsIn w v F := by
  obtain ⟨ao, cap, rfl, h1, h2, h3⟩ := h
  refine ⟨ao, cap, rfl, h1, h2, fun i hi => ?_⟩
  obtain ⟨b, o, e, hc⟩ := h3 i hi
  refine ⟨b, o, e, ?_⟩
  have := hc 0 (by omega)
  rw [Nat.mul_one, Nat.add_zero] at this
  first | exact this | (rw [this]; simp [eI, List.getD])

theorem recs_oneI (w : World) (x : Int) (T : TypeId) : RecsIn 1 eI (w.alloc (.cells #[.int .i64 x] T)) (.slice (some ⟨w.heap.size, 0, none⟩) 1 1) [x] := by
  have h := ownV_alloc w #[.int .i64 x] T
  refine OwnV.recsIn (L := [x]) ?_ (Nat.le_refl _) (by unfold maxLen; omega)
  rw [recCells_one]
  exact h
theorem RowB.capLe {α : Type} [Inhabited α] {T : TypeId} {n : Nat} {enc : α → Nat → Value} {L : List α} {B : Nat} {w : World} {g m cap : Nat} (h : RowB T n enc B w (some ⟨g, 0, none⟩) m cap L) (hn : 0 < n) : m ≤ cap := ((h.mono (Nat.zero_le _)).ownG hn).2.1
theorem recs_len {α : Type} [Inhabited α] {n : Nat} {enc : α → Nat → Value} {w : World} {ba : Option Addr} {m cap : Nat} {L : List α} (h : RecsIn n enc w (.slice ba m cap) L) : L.length = m ∧ m ≤ cap ∧ cap ≤ maxLen := by
  obtain ⟨ao, c, e, h1, h2, _⟩ := h
  simp only [Value.slice.injEq] at e
  obtain ⟨rfl, rfl, rfl⟩ := e
  exact ⟨rfl, h1, h2⟩

/-- An append of any number to a row that is there, as a step of a region that draws. -/
theorem step_appTo {α : Type} [Inhabited α] {n : Nat} {enc : α → Nat → Value} {St T : TypeId} (hty : RecTy St T n enc) {ops : Array Oper} {o : Oper} {a : Act} {w : World} {K : Act → World → Prop} {Q : Exit → Act → World → Prop} {E : Prop} (hgd : o.guard = none) (s x : Operand)
    (ho : o.op = .call { callee := .builtin .append, args := #[s, x], argTypes := #[St, St] })
    (B g m cap : Nat) (L : List α) (hs : a.eval s = .slice (some ⟨g, 0, none⟩) m cap) (h : RowB T n enc B w (some ⟨g, 0, none⟩) m cap L) (hB : B ≤ w.heap.size) (hm : m ≤ 1048576) (xo : Option Addr) (k c : Nat) (M : List α) (hx : a.eval x = .slice xo k c) (hX : RecsIn n enc w (.slice xo k c) M) (hk : k ≤ 1048576)
    (hK : ∀ g' cap' w', RowB T n enc B w' (some ⟨g', 0, none⟩) (m + k) cap' (L ++ M) → Kept (fun b => b = g) w w' → (g' = g ∨ g' = w.heap.size) → K (a.put o.dst (.slice (some ⟨g', 0, none⟩) (m + k) cap')) w') :
    if Region.wanted o (yielded ops a.tmps) = true then Oper.wp Try.prog o a w K Q else E := by
  obtain ⟨i0, z, bytes, hinf, hz0, hz1, hz2, hz3, hby⟩ := hty.inf
  have hbb : (m + k) * bytes ≤ 140737488355328 := by
    have : (m + k) * bytes ≤ 2097152 * 1000 := Nat.mul_le_mul (by omega) hby
    omega
  have hkl : M.length = k := (recs_len hX).1
  by_cases hk0 : k = 0
  · subst hk0
    have hM : M = [] := List.length_eq_zero_iff.1 hkl
    subst hM
    rw [List.append_nil] at hK
    have hw : Region.wanted o (yielded ops a.tmps) = true := by simp [Region.wanted, hgd]
    rw [if_pos hw]
    have hrun := run_append_zer (P := Try.prog) w St o.type T i0 hty.und hinf ⟨g, 0, none⟩ m cap c xo (h.capLe hty.pos)
    unfold Oper.wp
    simp [execOp, ho, resolve, invoke, builtin, hs, hx, hrun, Result.andThen]
    exact hK _ cap w h (Kept.refl _ _) (Or.inl rfl)
  · obtain ⟨ad, rfl, hsrc⟩ := recs_src hX (by omega)
    refine step_append_lies w hgd s x St ho B T i0 z n bytes hty.und hinf hz0 hz1 hz2 hz3 hty.pos _ m (recCells n enc L) hs h ad k c (recCells n enc M) hx (by rw [recCells_length, hkl]) hsrc (hty.cells M) (by omega) (by unfold maxLen; omega) hbb hB _ rfl ?_
    intro g' cap' w' h2 h3 h4 _
    have hob : ∀ k, (Value.slice (some ⟨g, 0, none⟩) m cap).ownBlock = some k → k = g := fun k hk => by
      simp [Value.ownBlock] at hk; rw [hk]
    refine hK _ cap' w' ?_ ⟨h3.os, h3.tape, h3.output, h3.size, fun k hk hn => h3.block k hk (fun e => hn (hob k e.symm))⟩ (h4.imp (hob g') id)
    unfold RowB
    rw [recCells_append n hty.pos]
    exact h2

/-- One record more to a row that may be nil, as a step of a region that draws. -/
theorem step_appOne {α : Type} [Inhabited α] {n : Nat} {enc : α → Nat → Value} {St T : TypeId} (hty : RecTy St T n enc) {ops : Array Oper} {o : Oper} {a : Act} {w : World} {K : Act → World → Prop} {Q : Exit → Act → World → Prop} {E : Prop} (hgd : o.guard = none) (s x : Operand)
    (ho : o.op = .call { callee := .builtin .append, args := #[s, x], argTypes := #[St, St] })
    (B : Nat) (ao : Option Addr) (m cap : Nat) (L : List α) (hs : a.eval s = .slice ao m cap) (h : RowB T n enc B w ao m cap L) (hB : B ≤ w.heap.size) (hm : m ≤ 1048576) (xo : Option Addr) (c : Nat) (b : α) (hx : a.eval x = .slice xo 1 c) (hX : RecsIn n enc w (.slice xo 1 c) [b])
    (hK : ∀ g' cap' w', RowB T n enc B w' (some ⟨g', 0, none⟩) (m + 1) cap' (L ++ [b]) → Kept (fun b => ao = some ⟨b, 0, none⟩) w w' → B ≤ g' → (ao = some ⟨g', 0, none⟩ ∨ g' = w.heap.size) → K (a.put o.dst (.slice (some ⟨g', 0, none⟩) (m + 1) cap')) w') :
    if Region.wanted o (yielded ops a.tmps) = true then Oper.wp Try.prog o a w K Q else E := by
  obtain ⟨i0, z, bytes, hinf, hz0, hz1, hz2, hz3, hby⟩ := hty.inf
  have hbb : (m + 1) * bytes ≤ 140737488355328 := by
    have : (m + 1) * bytes ≤ 2097152 * 1000 := Nat.mul_le_mul (by omega) hby
    omega
  obtain ⟨ad, rfl, hsrc⟩ := recs_src hX (by omega)
  refine step_append_lies w hgd s x St ho B T i0 z n bytes hty.und hinf hz0 hz1 hz2 hz3 hty.pos _ m (recCells n enc L) hs h ad 1 c (recCells n enc [b]) hx (by rw [recCells_length]; rfl) hsrc (hty.cells _) (by omega) (by unfold maxLen; omega) hbb hB _ rfl ?_
  intro g' cap' w' h2 h3 h4 _
  have hob : ∀ k, (Value.slice ao m cap).ownBlock = some k → ao = some ⟨k, 0, none⟩ := fun k hk => by
    rcases h.parts hty.pos with ⟨rfl, _⟩ | ⟨g, rfl, _⟩
    · simp [Value.ownBlock] at hk
    · simp [Value.ownBlock] at hk; rw [hk]
  have hr : RowB T n enc B w' (some ⟨g', 0, none⟩) (m + 1) cap' (L ++ [b]) := by
    unfold RowB
    rw [recCells_append n hty.pos]
    exact h2
  have hBg : B ≤ g' := by
    rcases hr.parts hty.pos with ⟨e, _⟩ | ⟨g, e, hBg, _⟩
    · cases e
    · simp only [Option.some.injEq, Addr.mk.injEq, and_true] at e
      omega
  exact hK g' cap' w' hr ⟨h3.os, h3.tape, h3.output, h3.size, fun k hk hn => h3.block k hk (fun e => hn (hob k e.symm))⟩ hBg (h4.imp (hob g') id)


end Go.Proofs.Ytjpogaidcmndoaa

/- Segments in bytes: what is right, what is written; rows of bytes that strings are appended to. No statement about the program stands here. -/
import Derived.Test.YtjpogaidcmndoaaEdA
import Derived.Test.YtjpogaidcmndoaaWalkD
import Derived.Lib.AppendStr
import Derived.Laws.BytesArg
namespace Go.Proofs.Ytjpogaidcmndoaa
open Go.RowKit

def byY (s : ByteArray) (i : Nat) : Int := ((s.get! i).toNat : Int)
theorem byY_bd (s : ByteArray) (i : Nat) : 0 ≤ byY s i ∧ byY s i < 256 := by
  have := (s.get! i).toNat_lt
  unfold byY
  omega
theorem byY_eq (s : ByteArray) (i : Nat) (h : i < s.size) : ((s[i]'h).toNat : Int) = byY s i := by
  unfold byY
  have : s.get! i = s[i]'h := by
    show s.data[i]! = _
    rw [getElem!_pos s.data i h]
    rfl
  rw [this]
theorem ixY_any (s : ByteArray) (p : Nat) (hp : p < s.size) (hm : s.size ≤ maxLen) : ∀ V, (Instr.index 9 (.string s) (.int .i64 p)).run Try.prog V = .ok (.int .u8 (byY s p)) V := fun V => by
  have hk := hm
  unfold maxLen at hk
  rw [run_index_string V _ _ _ _ Try.underlying9, dif_pos (by omega)]
  simp only [Int.toNat_natCast]
  rw [byY_eq s p hp]
/-- A right text, list of texts, segment. -/
def txC (t : ByteArray) : Bool := decide (t.size ≤ 40) && decide (∀ j, j < t.size → 32 ≤ byY t j ∧ byY t j ≤ 126)
def paC (T : List ByteArray) : Bool := inB T.length 1 10 && decide (∀ k, k < T.length → txC (T.getD k default) = true)
def tgC (t : ByteArray) : Bool := decide (t.size = 3) && decide (∀ j, j < t.size → 65 ≤ byY t j ∧ byY t j ≤ 90)
def sgC (s : SegT) : Bool := tgC s.1 && decide (s.2.length ≤ 20) && decide (∀ p, p < s.2.length → paC (s.2.getD p default) = true)
/-- A byte as it is written in a text. -/
def mkB (b : Int) : Bool := decide (b = 43 ∨ b = 58 ∨ b = 39 ∨ b = 63)
def esc (b : Int) : List Int := bif mkB b then [63, b] else [b]
def bts (s : ByteArray) : List Int := s.data.toList.map fun b => (b.toNat : Int)
theorem bts_len (s : ByteArray) : (bts s).length = s.size := by
  unfold bts
  rw [List.length_map, Array.length_toList]
  rfl
/-- What the first n of a row give, one behind the other. -/
def rw_ (f : Nat → List Int) (n : Nat) : List Int := (List.range n).flatMap f
theorem rw_succ (f : Nat → List Int) (n : Nat) : rw_ f (n + 1) = rw_ f n ++ f n := by unfold rw_; rw [List.range_succ, List.flatMap_append]; simp
theorem rw_le (f : Nat → List Int) {i : Nat} : ∀ {n : Nat}, i ≤ n → (rw_ f i).length ≤ (rw_ f n).length
  | 0, h => by have : i = 0 := by omega
               subst this; exact Nat.le_refl _
  | n + 1, h => by
    by_cases e : i = n + 1
    · subst e; exact Nat.le_refl _
    · have := rw_le f (i := i) (n := n) (by omega)
      rw [rw_succ, List.length_append]
      omega
theorem rw_in (f : Nat → List Int) {i n : Nat} (h : i < n) : (rw_ f i).length + (f i).length ≤ (rw_ f n).length := by
  have := rw_le f (i := i + 1) (n := n) h
  rw [rw_succ, List.length_append] at this
  exact this
def wrT (t : ByteArray) (n : Nat) : List Int := rw_ (fun j => esc (byY t j)) n
def mkK (k : Nat) : Int := if k = 0 then 43 else 58
def wrP (T : List ByteArray) (n : Nat) : List Int := rw_ (fun k => mkK k :: wrT (T.getD k default) (T.getD k default).size) n
def wrQ (P : PartsT) (n : Nat) : List Int := rw_ (fun p => wrP (P.getD p default) (P.getD p default).length) n
def wrS (s : SegT) : List Int := bts s.1 ++ wrQ s.2 s.2.length ++ [39]
def wrN (L : List SegT) (n : Nat) : List Int := rw_ (fun i => wrS (L.getD i default)) n
def wrL (L : List SegT) : List Int := wrN L L.length
/-- Right segments, and what is written of them. -/
def sgB (L : List SegT) : Bool := decide (L.length ≤ 60) && decide (∀ i, i < L.length → sgC (L.getD i default) = true) && decide ((wrL L).length ≤ 2000)
def wgV (L : List SegT) : ByteArray × Bool := bif sgB L then (Go.strOfNums (wrL L), true) else (⟨#[]⟩, false)
theorem esc_len (b : Int) : (esc b).length ≤ 2 := by unfold esc; cases mkB b <;> simp
theorem rw_bd (f : Nat → List Int) (m : Nat) : ∀ n, (∀ i, i < n → (f i).length ≤ m) → (rw_ f n).length ≤ n * m
  | 0, _ => by simp [rw_]
  | n + 1, h => by
    have := rw_bd f m n (fun i hi => h i (by omega))
    have h2 := h n (by omega)
    rw [rw_succ, List.length_append, Nat.succ_mul]
    omega
/-- Right segments are written in a million bytes. -/
theorem wr_small {L : List SegT} (h1 : L.length ≤ 60) (h2 : ∀ i, i < L.length → sgC (L.getD i default) = true) : (wrL L).length ≤ 1000000 := by
  have hT : ∀ t : ByteArray, txC t = true → (wrT t t.size).length ≤ 80 := fun t ht => by
    unfold txC at ht
    rw [Bool.and_eq_true, decide_eq_true_eq] at ht
    have := rw_bd (fun j => esc (byY t j)) 2 t.size (fun i _ => esc_len _)
    unfold wrT
    omega
  have hP : ∀ T : List ByteArray, paC T = true → (wrP T T.length).length ≤ 810 := fun T ht => by
    unfold paC at ht
    rw [Bool.and_eq_true, decide_eq_true_eq] at ht
    have hl := inB_true ht.1
    have := rw_bd (fun k => mkK k :: wrT (T.getD k default) (T.getD k default).size) 81 T.length (fun i hi => by
      have := hT _ (ht.2 i hi)
      rw [List.length_cons]; omega)
    unfold wrP
    omega
  have hS : ∀ s : SegT, sgC s = true → (wrS s).length ≤ 16210 := fun s hs => by
    unfold sgC tgC at hs
    simp only [Bool.and_eq_true, decide_eq_true_eq] at hs
    obtain ⟨⟨⟨h3, _⟩, h20⟩, hp⟩ := hs
    have := rw_bd (fun p => wrP (s.2.getD p default) (s.2.getD p default).length) 810 s.2.length (fun i hi => hP _ (hp i hi))
    unfold wrS wrQ
    rw [List.length_append, List.length_append, bts_len, List.length_singleton]
    omega
  have := rw_bd (fun i => wrS (L.getD i default)) 16210 L.length (fun i hi => hS _ (h2 i hi))
  unfold wrL wrN
  omega

def eY (x : Int) (_ : Nat) : Value := .int .u8 x
theorem recY (X : List Int) : recCells 1 eY X = X.map (Value.int .u8) := by
  apply List.ext_getElem?
  intro i
  by_cases h : i < X.length
  · simp [recCells, eY, h, List.getD]
  · simp [recCells, h]
theorem Try.infoU8Y : (Try.prog.info? 5).map (fun i => (i.zero, i.size, i.bytes)) = some (some (.int .u8 0), 1, 1) := by kernel_rfl
theorem tyY : RecTy 22 5 1 eY := recTy_mk Try.underlying22 Try.infoU8Y (by rfl) (by omega) (by omega) (fun _ _ _ => rfl)
theorem strCells_bts (s : ByteArray) : Go.Lib.strCells s = (bts s).map (Value.int .u8) := by
  unfold Go.Lib.strCells bts
  rw [List.map_map]
  rfl
/-- A string's bytes behind a row of bytes. -/
theorem wpList_appStr (w : World) {ops : Array Oper} {rest : List Oper} {o : Oper} {a : Act} {Q : Exit → Act → World → Prop} (hgd : o.guard = none) (s x : Operand)
    (ho : o.op = .call { callee := .builtin .append, args := #[s, x], argTypes := #[22, 9] })
    (B : Nat) (ao : Option Addr) (m cap : Nat) (X : List Int) (hs : a.eval s = .slice ao m cap) (h : RowB 5 1 eY B w ao m cap X) (hB : B ≤ w.heap.size) (hm : m ≤ 1048576) (t : ByteArray) (hx : a.eval x = .string t) (ht : t.size ≤ 1048576)
    (hK : ∀ ao' cap' w', RowB 5 1 eY B w' ao' (m + t.size) cap' (X ++ bts t) → Kept (fun k => ao = some ⟨k, 0, none⟩) w w' → wpList Try.prog ops Q rest (a.put o.dst (.slice ao' (m + t.size) cap')) w') : wpList Try.prog ops Q (o :: rest) a w := by
  obtain ⟨i0, hinf, hzz⟩ := Option.map_eq_some_iff.1 Try.infoU8Y
  simp only [Prod.mk.injEq] at hzz
  obtain ⟨hz0, hz1, hz2⟩ := hzz
  obtain ⟨v', w', hrun, ho2, hg, -⟩ := Go.Lib.run_append_own_string (P := Try.prog) w B 22 9 o.type 5 i0 Try.underlying22 Try.underlying9 hinf hz0 hz1 hz2 (.slice ao m cap) m (recCells 1 eY X) h t (by unfold maxLen; omega) (by omega) hB
  have hob : ∀ k, (Value.slice ao m cap).ownBlock = some k → ao = some ⟨k, 0, none⟩ := fun k hk => by
    rcases h.parts (by omega) with ⟨rfl, _⟩ | ⟨g, rfl, _⟩
    · simp [Value.ownBlock] at hk
    · simp [Value.ownBlock] at hk; rw [hk]
  have hkp : Kept (fun k => ao = some ⟨k, 0, none⟩) w w' := ⟨hg.os, hg.tape, hg.output, hg.size, fun k hk hn => hg.block k hk (fun e => hn (hob k e.symm))⟩
  have hrow : ∃ ao' cap', v' = .slice ao' (m + t.size) cap' ∧ RowB 5 1 eY B w' ao' (m + t.size) cap' (X ++ bts t) := by
    have e : recCells 1 eY X ++ Go.Lib.strCells t = recCells 1 eY (X ++ bts t) := by rw [recY, recY, strCells_bts, List.map_append]
    rw [e] at ho2
    have h2 := ho2
    rcases h2.2 with ⟨hv, h0⟩ | ⟨g', cap', cur, hv, r⟩
    · refine ⟨none, 0, by rw [hv, h0], ?_⟩
      unfold RowB
      rw [hv, h0] at ho2
      rw [h0]
      exact ho2
    · refine ⟨_, cap', hv, ?_⟩
      unfold RowB
      rw [hv] at ho2
      exact ho2
  obtain ⟨ao', cap', rfl, hr⟩ := hrow
  refine wpList_plain hgd fun K hK' => ?_
  unfold Oper.wp
  simp [execOp, ho, resolve, invoke, builtin, hs, hx, hrun, Result.andThen]
  exact hK' _ _ (hK ao' cap' w' hr hkp)
/-- A string's bytes behind a row of bytes. -/
theorem wpList_appStrS (w : World) {ops : Array Oper} {rest : List Oper} {o : Oper} {a : Act} {Q : Exit → Act → World → Prop} (hgd : o.guard = none) (s x : Operand)
    (ho : o.op = .call { callee := .builtin .append, args := #[s, x], argTypes := #[22, 9] })
    (B g m cap : Nat) (X : List Int) (hs : a.eval s = .slice (some ⟨g, 0, none⟩) m cap) (h : RowB 5 1 eY B w (some ⟨g, 0, none⟩) m cap X) (hB : B ≤ w.heap.size) (hm : m ≤ 1048576) (t : ByteArray) (hx : a.eval x = .string t) (ht : t.size ≤ 1048576)
    (hK : ∀ g' cap' w', RowB 5 1 eY B w' (some ⟨g', 0, none⟩) (m + t.size) cap' (X ++ bts t) → Kept (fun k => k = g) w w' → wpList Try.prog ops Q rest (a.put o.dst (.slice (some ⟨g', 0, none⟩) (m + t.size) cap')) w') : wpList Try.prog ops Q (o :: rest) a w := by
  obtain ⟨i0, hinf, hzz⟩ := Option.map_eq_some_iff.1 Try.infoU8Y
  simp only [Prod.mk.injEq] at hzz
  obtain ⟨hz0, hz1, hz2⟩ := hzz
  obtain ⟨v', w', hrun, ho2, hg, hiff⟩ := Go.Lib.run_append_own_string (P := Try.prog) w B 22 9 o.type 5 i0 Try.underlying22 Try.underlying9 hinf hz0 hz1 hz2 (.slice (some ⟨g, 0, none⟩) m cap) m (recCells 1 eY X) h t (by unfold maxLen; omega) (by omega) hB
  have hob : ∀ k, (Value.slice (some ⟨g, 0, none⟩) m cap).ownBlock = some k → k = g := fun k hk => by simp [Value.ownBlock] at hk; rw [hk]
  have hkp : Kept (fun k => k = g) w w' := ⟨hg.os, hg.tape, hg.output, hg.size, fun k hk hn => hg.block k hk (fun e => hn (hob k e.symm))⟩
  have hrow : ∃ g' cap', v' = .slice (some ⟨g', 0, none⟩) (m + t.size) cap' ∧ RowB 5 1 eY B w' (some ⟨g', 0, none⟩) (m + t.size) cap' (X ++ bts t) := by
    have e : recCells 1 eY X ++ Go.Lib.strCells t = recCells 1 eY (X ++ bts t) := by rw [recY, recY, strCells_bts, List.map_append]
    rw [e] at ho2
    have h2 := ho2
    rcases h2.2 with ⟨hv, h0⟩ | ⟨g', cap', cur, hv, r⟩
    · have := (hiff.1 hv).1
      simp at this
    · refine ⟨g', cap', hv, ?_⟩
      unfold RowB
      rw [hv] at ho2
      exact ho2
  obtain ⟨g', cap', rfl, hr⟩ := hrow
  refine wpList_plain hgd fun K hK' => ?_
  unfold Oper.wp
  simp [execOp, ho, resolve, invoke, builtin, hs, hx, hrun, Result.andThen]
  exact hK' _ _ (hK g' cap' w' hr hkp)
/-- A row of bytes as a text. -/
theorem rowY_text {B g m cap : Nat} {w : World} {X : List Int} (h : RowB 5 1 eY B w (some ⟨g, 0, none⟩) m cap X) (c : Nat) : (convert 22 9 (.slice (some ⟨g, 0, none⟩) m c)).run Try.prog w = .ok (.string (Go.strOfNums X)) w := by
  obtain ⟨_, _, _, _, ho, hl⟩ := h.lo (by omega)
  rw [recY] at ho
  exact run_convert_bytes_arg w _ _ Try.underlying22 Try.underlying5 g 0 m c X hl (fun i hi => by
    rw [Nat.zero_add]
    exact ho.cell (by rw [List.getElem?_map, List.getElem?_eq_getElem (by omega)]; simp [List.getD, List.getElem?_eq_getElem (show i < X.length by omega)])) _ Try.underlying9

end Go.Proofs.Ytjpogaidcmndoaa

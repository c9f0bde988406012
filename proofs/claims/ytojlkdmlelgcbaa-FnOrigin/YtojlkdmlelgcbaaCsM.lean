/- Customs in numbers: duty, houses, what a deed does; that a house stays right (mathematics alone). -/
import Derived.Test.YtojlkdmlelgcbaaRLot
import Derived.Test.YtojlkdmlelgcbaaRTrader
import Derived.Test.YtojlkdmlelgcbaaRDeed
import Derived.Test.YtojlkdmlelgcbaaWalkD
namespace Go.Proofs.Ytojlkdmlelgcbaa
open Go.RowKit

/-- Lots, traders, what is taken. -/
abbrev HsT := List LotT × List TraderT × Int
def dutB (m v r : Int) : Bool := inB m 1 1000000 && inB v 0 1000000 && inB r 0 5000
def dutV (m v r : Int) : Int := if dutB m v r then m * v * r / 1000 else 0
theorem dut_yes {m v r : Int} (h : dutB m v r = true) : dutV m v r = m * v * r / 1000 := if_pos h
theorem dut_not {m v r : Int} (h : dutB m v r = false) : dutV m v r = 0 := if_neg (by rw [h]; simp)
theorem dut_parts {m v r : Int} (h : dutB m v r = true) : (1 ≤ m ∧ m ≤ 1000000) ∧ (0 ≤ v ∧ v ≤ 1000000) ∧ (0 ≤ r ∧ r ≤ 5000) := by
  simp only [dutB, Bool.and_eq_true] at h
  exact ⟨inB_true h.1.1, inB_true h.1.2, inB_true h.2⟩
theorem dut_prod {m v r : Int} (h : dutB m v r = true) : (0 ≤ m * v ∧ m * v ≤ 1000000000000) ∧ 0 ≤ m * v * r ∧ m * v * r ≤ 5000000000000000 := by
  obtain ⟨⟨a, b⟩, ⟨c, d⟩, e, f⟩ := dut_parts h
  have h1 : 0 ≤ m * v := Int.mul_nonneg (by omega) c
  have h2 : m * v ≤ 1000000 * 1000000 := Int.mul_le_mul b d c (by omega)
  have h3 : 0 ≤ m * v * r := Int.mul_nonneg h1 e
  have h4 : m * v * r ≤ 1000000 * 1000000 * 5000 := Int.mul_le_mul h2 f e (by omega)
  omega
theorem dut_bd (m v r : Int) : 0 ≤ dutV m v r ∧ dutV m v r ≤ 5000000000000 := by
  cases h : dutB m v r
  · rw [dut_not h]; omega
  · rw [dut_yes h]
    have := dut_prod h
    omega

/-- A lot is so, in a house of n traders. -/
def LOk (n : Nat) (x : LotT) : Prop := dutB x.2.2.1 x.2.2.2.1 x.2.2.2.2.1 = true ∧ (1 ≤ x.1 ∧ x.1 ≤ 1000000) ∧ (0 ≤ x.2.1 ∧ x.2.1 ≤ (n : Int) - 1) ∧ (1 ≤ x.2.2.2.2.2.1 ∧ x.2.2.2.2.2.1 ≤ 5) ∧ x.2.2.2.2.2.2 = if x.2.2.2.2.2.1 = 3 then dutV x.2.2.1 x.2.2.2.1 x.2.2.2.2.1 else 0
instance (n : Nat) (x : LotT) : Decidable (LOk n x) := by unfold LOk; infer_instance
def TOk (t : TraderT) : Prop := (0 ≤ t.1 ∧ t.1 ≤ 1000000000000000) ∧ (0 ≤ t.2.1 ∧ t.2.1 ≤ 1000000000000000) ∧ (0 ≤ t.2.2 ∧ t.2.2 ≤ t.2.1)
instance (t : TraderT) : Decidable (TOk t) := by unfold TOk; infer_instance
/-- What the lots bind of an owner's bond. -/
def bsum (o : Int) : List LotT → Int
  | [] => 0
  | x :: L => (if x.2.1 = o then x.2.2.2.2.2.2 else 0) + bsum o L
def lId (L : List LotT) (i : Nat) : Int := (L.getD i default).1
def AscL (L : List LotT) : Prop := ∀ i, i < L.length → i = 0 ∨ lId L (i - 1) < lId L i
instance (L : List LotT) : Decidable (AscL L) := by unfold AscL; infer_instance
def LsOk (n : Nat) (L : List LotT) : Prop := ∀ i, i < L.length → LOk n (L.getD i default)
instance (n : Nat) (L : List LotT) : Decidable (LsOk n L) := by unfold LsOk; infer_instance
def TsOk (L : List LotT) (T : List TraderT) : Prop := ∀ i, i < T.length → TOk (T.getD i default) ∧ (T.getD i default).2.2 = bsum i L
instance (L : List LotT) (T : List TraderT) : Decidable (TsOk L T) := by unfold TsOk; infer_instance
structure HOk (h : HsT) : Prop where
  nl : h.1.length ≤ 40
  nt : h.2.1.length ≤ 10
  tk : 0 ≤ h.2.2 ∧ h.2.2 ≤ 1000000000000000
  lots : LsOk h.2.1.length h.1
  asc : AscL h.1
  trs : TsOk h.1 h.2.1
def houseB (h : HsT) : Bool := decide (h.1.length ≤ 40) && decide (h.2.1.length ≤ 10) && inB h.2.2 0 1000000000000000 && decide (LsOk h.2.1.length h.1) && decide (AscL h.1) && decide (TsOk h.1 h.2.1)
theorem houseB_iff (h : HsT) : houseB h = true ↔ HOk h := by
  simp only [houseB, Bool.and_eq_true, decide_eq_true_eq]
  constructor
  · rintro ⟨⟨⟨⟨⟨a, b⟩, c⟩, d⟩, e⟩, f⟩
    exact ⟨a, b, inB_true c, d, e, f⟩
  · intro k
    exact ⟨⟨⟨⟨⟨k.nl, k.nt⟩, inB_mk k.tk.1 k.tk.2⟩, k.lots⟩, k.asc⟩, k.trs⟩
theorem house_not {h : HsT} (k : ¬ HOk h) : houseB h = false := by
  cases e : houseB h
  · rfl
  · exact absurd ((houseB_iff h).1 e) k
theorem house_yes {h : HsT} (k : HOk h) : houseB h = true := (houseB_iff h).2 k
theorem bsum_app (o : Int) : ∀ (L M : List LotT), bsum o (L ++ M) = bsum o L + bsum o M
  | [], M => by simp [bsum]
  | x :: L, M => by
    simp only [List.cons_append, bsum, bsum_app o L M]
    omega
theorem take_succ_getD {α : Type} (L : List α) (d : α) {k : Nat} (hk : k < L.length) : L.take (k + 1) = L.take k ++ [L.getD k d] := by
  rw [List.take_add_one, List.getElem?_eq_getElem hk, List.getD, List.getElem?_eq_getElem hk]
  rfl
theorem bsum_succ (o : Int) (L : List LotT) {k : Nat} (hk : k < L.length) : bsum o (L.take (k + 1)) = bsum o (L.take k) + if (L.getD k default).2.1 = o then (L.getD k default).2.2.2.2.2.2 else 0 := by
  rw [take_succ_getD L default hk, bsum_app]
  simp [bsum]
theorem lot_bond {n : Nat} {x : LotT} (h : LOk n x) : 0 ≤ x.2.2.2.2.2.2 ∧ x.2.2.2.2.2.2 ≤ 5000000000000 := by
  have := dut_bd x.2.2.1 x.2.2.2.1 x.2.2.2.2.1
  rw [h.2.2.2.2]
  split <;> omega
theorem bsum_bd {n : Nat} (o : Int) (L : List LotT) : ∀ k, k ≤ L.length → (∀ i, i < k → LOk n (L.getD i default)) → 0 ≤ bsum o (L.take k) ∧ bsum o (L.take k) ≤ 5000000000000 * k := by
  intro k
  induction k with
  | zero => intro _ _; simp [bsum]
  | succ k ih =>
    intro hk hL
    have h1 := ih (by omega) (fun i hi => hL i (by omega))
    have h2 := lot_bond (hL k (by omega))
    rw [bsum_succ o L (by omega)]
    split <;> omega
theorem asc_lt {L : List LotT} (h : AscL L) : ∀ r s, r < s → s < L.length → lId L r < lId L s := by
  intro r s
  induction s with
  | zero => intro h; omega
  | succ s ih =>
    intro h1 h2
    have h3 := (h (s + 1) h2).resolve_left (by omega)
    rw [Nat.add_sub_cancel] at h3
    by_cases e : r = s
    · rw [e]; exact h3
    · have := ih (by omega) (by omega)
      omega
theorem asc_mk {L : List LotT} (h : ∀ r s, r < s → s < L.length → lId L r < lId L s) : AscL L := fun i hi => by
  rcases Nat.eq_zero_or_pos i with e | e
  · exact Or.inl e
  · exact Or.inr (h (i - 1) i (by omega) hi)

/-- The place of a lot, or where it would stand. -/
def lplc (L : List LotT) (id : Int) : Nat := L.findIdx fun x => decide (id ≤ x.1)
def lhas (L : List LotT) (id : Int) : Bool := decide (lplc L id < L.length ∧ lId L (lplc L id) = id)
theorem lfirst_at {α : Type} {p : α → Bool} {d : α} : ∀ {L : List α} {k : Nat}, k < L.length → p (L.getD k d) = true → (∀ t, t < k → p (L.getD t d) = false) → L.findIdx p = k
  | [], k, hk, _, _ => by simp at hk
  | x :: L, 0, _, h, _ => by simp at h; simp [List.findIdx_cons, h]
  | x :: L, k + 1, hk, h, hb => by
    have h0 : p x = false := by simpa using hb 0 (by omega)
    rw [List.findIdx_cons, h0, cond_false, lfirst_at (d := d) (by simpa using hk) (by simpa using h) (fun t ht => by simpa using hb (t + 1) (by omega))]
theorem lfirst_none {α : Type} {p : α → Bool} {d : α} : ∀ {L : List α}, (∀ t, t < L.length → p (L.getD t d) = false) → L.findIdx p = L.length
  | [], _ => rfl
  | x :: L, hb => by
    have h0 : p x = false := by simpa using hb 0 (by simp)
    rw [List.findIdx_cons, h0, cond_false, lfirst_none (d := d) (fun t ht => by simpa using hb (t + 1) (by simpa using ht))]
    rfl
theorem lplc_mk {L : List LotT} {id : Int} {k : Nat} (hk : k ≤ L.length) (h1 : ∀ t, t < k → lId L t < id) (h2 : k < L.length → id ≤ lId L k) : lplc L id = k := by
  by_cases h : k < L.length
  · exact lfirst_at (d := default) h (by simpa [lId] using h2 h) (fun t ht => by have := h1 t ht; unfold lId at this; simp only [decide_eq_false_iff_not]; omega)
  · have e : k = L.length := by omega
    subst e
    exact lfirst_none (d := default) (fun t ht => by have := h1 t ht; unfold lId at this; simp only [decide_eq_false_iff_not]; omega)
theorem lplc_le (L : List LotT) (id : Int) : lplc L id ≤ L.length := List.findIdx_le_length
theorem lplc_lt {L : List LotT} {id : Int} {t : Nat} (h : t < lplc L id) : lId L t < id := by
  have hl := lplc_le L id
  have h2 : decide (id ≤ (L[t]'(by omega)).1) = false := List.not_of_lt_findIdx h
  simp only [decide_eq_false_iff_not] at h2
  unfold lId
  rw [getD_lt (by omega)]
  omega
theorem lplc_at {L : List LotT} {id : Int} (h : lplc L id < L.length) : id ≤ lId L (lplc L id) := by
  have h2 : decide (id ≤ (L[lplc L id]'h).1) = true := List.findIdx_getElem (p := fun x : LotT => decide (id ≤ x.1)) (xs := L) (w := h)
  simp only [decide_eq_true_eq] at h2
  unfold lId
  rw [getD_lt h]
  exact h2
theorem lhas_of {L : List LotT} (h : AscL L) {id : Int} {t : Nat} (ht : t < L.length) (e : lId L t = id) : lhas L id = true ∧ lplc L id = t := by
  have : lplc L id = t := lplc_mk (by omega) (fun s hs => by have := asc_lt h s t hs ht; omega) (fun _ => by omega)
  exact ⟨by rw [lhas, this]; exact decide_eq_true ⟨ht, e⟩, this⟩
theorem lhas_not {L : List LotT} (h : AscL L) {id : Int} (hn : lhas L id = false) : ∀ t, t < L.length → lId L t ≠ id := fun t ht e => by
  rw [(lhas_of h ht e).1] at hn
  cases hn
theorem lhas_yes {L : List LotT} {id : Int} (h : lhas L id = true) : lplc L id < L.length ∧ lId L (lplc L id) = id := by simpa [lhas] using h

/-- Whether a deed is one, in a house of n traders. -/
def deedB (n : Nat) (d : DeedT) : Bool := inB d.2.1 1 1000000 && (if d.1 = 1 then dutB d.2.2.2.1 d.2.2.2.2.1 d.2.2.2.2.2.1 && inB d.2.2.1 0 ((n : Int) - 1) else if 2 ≤ d.1 ∧ d.1 ≤ 7 then true else if d.1 = 8 then decide (1 ≤ d.2.2.2.1) && inB d.2.2.2.2.2.2 1 1000000 else false)
def wantS (k : Int) : Int := if k = 3 then 2 else if k = 6 then 3 else if k = 7 then 4 else 1
def leftS (k : Int) : Int := if k = 2 then 2 else if k = 3 then 1 else if k = 4 then 4 else if k = 5 then 3 else 5
def roomL (L : List LotT) (id : Int) : Bool := !lhas L id && decide (L.length < 40)
def insL {α : Type} (L : List α) (k : Nat) (x : α) : List α := L.take k ++ x :: L.drop k
def ldut (x : LotT) : Int := dutV x.2.2.1 x.2.2.2.1 x.2.2.2.2.1
/-- What a deed moves: the lot's bond, the owner, what is taken; or none. -/
def setV (x : LotT) (t : TraderT) (tk k : Int) : Option (Int × TraderT × Int) :=
  if k = 4 then (if t.1 < ldut x ∨ 1000000000000000 < tk + ldut x then none else some (x.2.2.2.2.2.2, (t.1 - ldut x, t.2.1, t.2.2), tk + ldut x))
  else if k = 5 then (if t.2.1 - t.2.2 < ldut x then none else some (ldut x, (t.1, t.2.1, t.2.2 + ldut x), tk))
  else if k = 6 then some (0, (t.1, t.2.1, t.2.2 - x.2.2.2.2.2.2), tk)
  else some (x.2.2.2.2.2.2, t, tk)
def putL (x : LotT) (b s : Int) : LotT := (x.1, x.2.1, x.2.2.1, x.2.2.2.1, x.2.2.2.2.1, s, b)
def lesL (x : LotT) (m : Int) : LotT := (x.1, x.2.1, x.2.2.1 - m, x.2.2.2.1, x.2.2.2.2.1, x.2.2.2.2.2.1, x.2.2.2.2.2.2)
def newL (x : LotT) (id m : Int) : LotT := (id, x.2.1, m, x.2.2.2.1, x.2.2.2.2.1, 1, 0)
def splH (h : HsT) (k : Nat) (x : LotT) (d : DeedT) : HsT × Int :=
  if x.2.2.1 ≤ d.2.2.2.1 then (h, 4) else if roomL h.1 d.2.2.2.2.2.2 = false then (h, 2)
  else ((insL (h.1.set k (lesL x d.2.2.2.1)) (lplc h.1 d.2.2.2.2.2.2) (newL x d.2.2.2.2.2.2 d.2.2.2.1), h.2.1, h.2.2), 0)
def movH (h : HsT) (k : Nat) (x : LotT) (d : DeedT) : HsT × Int :=
  match setV x (h.2.1.getD x.2.1.toNat default) h.2.2 d.1 with
  | none => (h, 5)
  | some (b, t, tk) => ((h.1.set k (putL x b (leftS d.1)), h.2.1.set x.2.1.toNat t, tk), 0)
def lotH (h : HsT) (k : Nat) (x : LotT) (d : DeedT) : HsT × Int :=
  if x.2.2.2.2.2.1 ≠ wantS d.1 then (h, 4) else if d.1 = 8 then splH h k x d else movH h k x d
def lanH (h : HsT) (d : DeedT) : HsT × Int :=
  if roomL h.1 d.2.1 = false then (h, 2) else ((insL h.1 (lplc h.1 d.2.1) (d.2.1, d.2.2.1, d.2.2.2.1, d.2.2.2.2.1, d.2.2.2.2.2.1, 1, 0), h.2.1, h.2.2), 0)
def actH (h : HsT) (d : DeedT) : HsT × Int :=
  if d.1 = 1 then lanH h d else if lhas h.1 d.2.1 = false then (h, 3) else lotH h (lplc h.1 d.2.1) (h.1.getD (lplc h.1 d.2.1) default) d
def doH (h : HsT) (d : DeedT) : HsT × Int := if (houseB h && deedB h.2.1.length d) = false then (h, 1) else actH h d
/-- The house behind the first k of some deeds, and the codes. -/
def stH (h : HsT) (D : List DeedT) : Nat → HsT
  | 0 => h
  | k + 1 => (doH (stH h D k) (D.getD k default)).1
def cdH (h : HsT) (D : List DeedT) (k : Nat) : Int := (doH (stH h D k) (D.getD k default)).2
def cdsH (h : HsT) (D : List DeedT) (k : Nat) : List Int := (List.range k).map (cdH h D)
theorem cdsH_succ (h : HsT) (D : List DeedT) (k : Nat) : cdsH h D (k + 1) = cdsH h D k ++ [cdH h D k] := by simp [cdsH, List.range_succ]

theorem insL_len {α : Type} (L : List α) (k : Nat) (x : α) : (insL L k x).length = L.length + 1 := by
  simp [insL, Nat.min_def]
  split <;> omega
theorem insL_get {α : Type} (d : α) (L : List α) {k : Nat} (hk : k ≤ L.length) (x : α) (i : Nat) : (insL L k x).getD i d = if i < k then L.getD i d else if i = k then x else L.getD (i - 1) d := by
  unfold insL
  have hl : (L.take k).length = k := by simp; omega
  simp only [List.getD]
  by_cases h1 : i < k
  · rw [if_pos h1, List.getElem?_append_left (by omega), List.getElem?_take_of_lt h1]
  · rw [if_neg h1, List.getElem?_append_right (by omega), hl]
    by_cases h2 : i = k
    · rw [if_pos h2, h2]; simp
    · rw [if_neg h2]
      obtain ⟨j, rfl⟩ : ∃ j, i = k + 1 + j := ⟨i - k - 1, by omega⟩
      rw [show k + 1 + j - k = j + 1 by omega, List.getElem?_cons_succ, List.getElem?_drop, show k + 1 + j - 1 = k + j by omega]
theorem set_get {α : Type} (d : α) (L : List α) {k : Nat} (hk : k < L.length) (x : α) (i : Nat) : (L.set k x).getD i d = if i = k then x else L.getD i d := by
  simp only [List.getD, List.getElem?_set]
  by_cases h : k = i
  · subst h; simp [hk]
  · rw [if_neg h, if_neg (fun e => h e.symm)]
theorem bsum_ins (o : Int) (L : List LotT) (k : Nat) (x : LotT) (h : x.2.2.2.2.2.2 = 0) : bsum o (insL L k x) = bsum o L := by
  unfold insL
  rw [bsum_app]
  simp only [bsum, h, ite_self]
  rw [Int.zero_add, ← bsum_app, List.take_append_drop]
theorem bsum_set (o : Int) : ∀ (L : List LotT) {k : Nat}, k < L.length → ∀ x : LotT, bsum o (L.set k x) = bsum o L - (if (L.getD k default).2.1 = o then (L.getD k default).2.2.2.2.2.2 else 0) + (if x.2.1 = o then x.2.2.2.2.2.2 else 0)
  | [], k, hk, x => by simp at hk
  | y :: L, 0, _, x => by
    simp only [List.set_cons_zero, bsum, List.getD_cons_zero]
    omega
  | y :: L, k + 1, hk, x => by
    have := bsum_set o L (k := k) (by simpa using hk) x
    simp only [List.set_cons_succ, bsum, List.getD_cons_succ, this]
    omega
theorem asc_ins {L : List LotT} (h : AscL L) {id : Int} (hn : lhas L id = false) {x : LotT} (hx : x.1 = id) : AscL (insL L (lplc L id) x) := by
  have hk := lplc_le L id
  apply asc_mk
  intro r s hrs hs
  rw [insL_len] at hs
  unfold lId
  rw [insL_get default L hk, insL_get default L hk]
  have hA : ∀ t, t < lplc L id → lId L t < id := fun t ht => lplc_lt ht
  have hB : ∀ t, lplc L id ≤ t → t < L.length → id < lId L t := fun t h1 h2 => by
    have h3 := lplc_at (L := L) (id := id) (by omega)
    have h4 := lhas_not h hn t h2
    by_cases e : lplc L id = t
    · rw [e] at h3; omega
    · have := asc_lt h (lplc L id) t (by omega) h2
      omega
  unfold lId at hA hB
  by_cases h1 : r < lplc L id
  · rw [if_pos h1]
    by_cases h2 : s < lplc L id
    · rw [if_pos h2]
      exact asc_lt h r s hrs (by omega)
    · rw [if_neg h2]
      have := hA r h1
      split
      · omega
      · have := hB (s - 1) (by omega) (by omega)
        omega
  · rw [if_neg h1, if_neg (show ¬ s < lplc L id by omega), if_neg (show ¬ s = lplc L id by omega)]
    split
    · have := hB (s - 1) (by omega) (by omega)
      omega
    · exact asc_lt h (r - 1) (s - 1) (by omega) (by omega)
theorem asc_set {L : List LotT} (h : AscL L) {k : Nat} (hk : k < L.length) {x : LotT} (hx : x.1 = (L.getD k default).1) : AscL (L.set k x) := by
  have e : ∀ i, lId (L.set k x) i = lId L i := fun i => by
    unfold lId
    rw [set_get default L hk]
    split
    · rename_i e; rw [e]; exact hx
    · rfl
  intro i hi
  rw [e, e]
  exact h i (by simpa using hi)
theorem lids_set {L : List LotT} {k : Nat} (hk : k < L.length) {x : LotT} (hx : x.1 = (L.getD k default).1) : ∀ i, lId (L.set k x) i = lId L i := fun i => by
  unfold lId
  rw [set_get default L hk]
  split
  · rename_i e; rw [e]; exact hx
  · rfl
theorem lplc_set {L : List LotT} {k : Nat} (hk : k < L.length) {x : LotT} (hx : x.1 = (L.getD k default).1) (id : Int) : lplc (L.set k x) id = lplc L id :=
  lplc_mk (by rw [List.length_set]; exact lplc_le L id) (fun t ht => by rw [lids_set hk hx]; exact lplc_lt ht) (fun h => by rw [lids_set hk hx]; exact lplc_at (by simpa using h))
theorem lhas_set {L : List LotT} {k : Nat} (hk : k < L.length) {x : LotT} (hx : x.1 = (L.getD k default).1) (id : Int) : lhas (L.set k x) id = lhas L id := by
  unfold lhas
  rw [lplc_set hk hx, lids_set hk hx, List.length_set]
theorem lots_ins {n : Nat} {L : List LotT} (h : LsOk n L) {k : Nat} (hk : k ≤ L.length) {x : LotT} (hx : LOk n x) : LsOk n (insL L k x) := fun i hi => by
  rw [insL_len] at hi
  rw [insL_get default L hk]
  split
  · exact h i (by omega)
  · split
    · exact hx
    · exact h (i - 1) (by omega)
theorem lots_set {n : Nat} {L : List LotT} (h : LsOk n L) {k : Nat} (hk : k < L.length) {x : LotT} (hx : LOk n x) : LsOk n (L.set k x) := fun i hi => by
  rw [set_get default L hk]
  split
  · exact hx
  · exact h i (by simpa using hi)
theorem lan_ok {h : HsT} (hh : HOk h) {d : DeedT} (hd : deedB h.2.1.length d = true) (h1 : d.1 = 1) : HOk (lanH h d).1 := by
  unfold lanH
  split
  · exact hh
  · rename_i hr
    simp only [roomL, Bool.not_eq_false, Bool.and_eq_true, Bool.not_eq_true', decide_eq_true_eq] at hr
    simp only [deedB, h1, if_true, Bool.and_eq_true] at hd
    refine ⟨by simp only [insL_len]; omega, hh.nt, hh.tk, lots_ins hh.lots (lplc_le _ _) ⟨hd.2.1, inB_true hd.1, inB_true hd.2.2, by simp, by simp⟩, asc_ins hh.asc hr.1 rfl, fun i hi => ?_⟩
    have := hh.trs i hi
    exact ⟨this.1, by rw [bsum_ins _ _ _ _ rfl]; exact this.2⟩
theorem spl_ok {h : HsT} (hh : HOk h) {k : Nat} (hk : k < h.1.length) {d : DeedT} (hd : deedB h.2.1.length d = true) (h8 : d.1 = 8) (hs : (h.1.getD k default).2.2.2.2.2.1 = 1) : HOk (splH h k (h.1.getD k default) d).1 := by
  have hx := hh.lots k hk
  unfold splH
  split
  · exact hh
  · rename_i hm
    split
    · exact hh
    · rename_i hr
      simp only [roomL, Bool.not_eq_false, Bool.and_eq_true, Bool.not_eq_true', decide_eq_true_eq] at hr
      simp only [deedB, h8, show ¬ (8 : Int) = 1 by omega, show ¬ ((2 : Int) ≤ 8 ∧ (8 : Int) ≤ 7) by omega, if_false, if_true, Bool.and_eq_true, decide_eq_true_eq] at hd
      obtain ⟨hid, hma, hnew⟩ := hd
      have hdu := dut_parts hx.1
      have hb0 : (h.1.getD k default).2.2.2.2.2.2 = 0 := by rw [hx.2.2.2.2, hs]; simp
      generalize hX : h.1.getD k default = x at *
      have hle : LOk h.2.1.length (lesL x d.2.2.2.1) := ⟨by simp only [lesL, dutB, Bool.and_eq_true]; exact ⟨⟨inB_mk (by omega) (by omega), inB_mk hdu.2.1.1 hdu.2.1.2⟩, inB_mk hdu.2.2.1 hdu.2.2.2⟩, hx.2.1, hx.2.2.1, hx.2.2.2.1, by simp only [lesL, hs, hb0]; simp⟩
      have hne : LOk h.2.1.length (newL x d.2.2.2.2.2.2 d.2.2.2.1) := ⟨by simp only [newL, dutB, Bool.and_eq_true]; exact ⟨⟨inB_mk (by omega) (by omega), inB_mk hdu.2.1.1 hdu.2.1.2⟩, inB_mk hdu.2.2.1 hdu.2.2.2⟩, inB_true hnew, hx.2.2.1, by simp [newL], by simp [newL]⟩
      have hids : (lesL x d.2.2.2.1).1 = (h.1.getD k default).1 := by rw [hX]; rfl
      rw [← lplc_set hk hids]
      refine ⟨by simp only [insL_len, List.length_set]; omega, hh.nt, hh.tk, lots_ins (lots_set hh.lots hk hle) (lplc_le _ _) hne, asc_ins (asc_set hh.asc hk hids) (by rw [lhas_set hk hids]; exact hr.1) rfl, fun i hi => ?_⟩
      have := hh.trs i hi
      refine ⟨this.1, ?_⟩
      rw [bsum_ins _ _ _ _ rfl, bsum_set _ _ hk, hX]
      simp only [lesL, hb0, ite_self]
      rw [this.2]
      omega
/-- A deed that moves: what it leaves of the lot's bond and its owner. -/
theorem set_ok {n : Nat} {x : LotT} (hx : LOk n x) {t : TraderT} (ht : TOk t) {tk : Int} (htk : 0 ≤ tk ∧ tk ≤ 1000000000000000) {k : Int} (hk : 2 ≤ k ∧ k ≤ 7) (hs : x.2.2.2.2.2.1 = wantS k) (hle : x.2.2.2.2.2.2 ≤ t.2.2) {b : Int} {t' : TraderT} {tk' : Int} (h : setV x t tk k = some (b, t', tk')) :
    LOk n (putL x b (leftS k)) ∧ TOk t' ∧ (0 ≤ tk' ∧ tk' ≤ 1000000000000000) ∧ t'.2.2 = t.2.2 - x.2.2.2.2.2.2 + b := by
  obtain ⟨h1, h2, h3, h4, h5⟩ := hx
  obtain ⟨t1, t2, t3⟩ := ht
  have hd := dut_bd x.2.2.1 x.2.2.2.1 x.2.2.2.2.1
  have hd' : 0 ≤ ldut x ∧ ldut x ≤ 5000000000000 := hd
  unfold setV at h
  rw [hs] at h5
  split at h
  · rename_i e
    split at h
    · cases h
    · rename_i hn
      simp only [Option.some.injEq, Prod.mk.injEq] at h
      obtain ⟨rfl, rfl, rfl⟩ := h
      subst e
      have hb : x.2.2.2.2.2.2 = 0 := by rw [h5]; simp [wantS]
      exact ⟨⟨h1, h2, h3, by simp [putL, leftS], by simp [putL, leftS, hb]⟩, ⟨by dsimp only; omega, t2, t3⟩, by omega, by dsimp only; omega⟩
  · split at h
    · rename_i e
      split at h
      · cases h
      · rename_i hn
        simp only [Option.some.injEq, Prod.mk.injEq] at h
        obtain ⟨rfl, rfl, rfl⟩ := h
        subst e
        have hb : x.2.2.2.2.2.2 = 0 := by rw [h5]; simp [wantS]
        exact ⟨⟨h1, h2, h3, by simp [putL, leftS], by simp [putL, leftS, ldut]⟩, ⟨t1, t2, by dsimp only; omega⟩, htk, by dsimp only; omega⟩
    · split at h
      · rename_i e
        simp only [Option.some.injEq, Prod.mk.injEq] at h
        obtain ⟨rfl, rfl, rfl⟩ := h
        subst e
        have hb : x.2.2.2.2.2.2 = ldut x := by rw [h5]; simp [wantS, ldut]
        exact ⟨⟨h1, h2, h3, by simp [putL, leftS], by simp [putL, leftS]⟩, ⟨t1, t2, by dsimp only; omega⟩, htk, by dsimp only; omega⟩
      · simp only [Option.some.injEq, Prod.mk.injEq] at h
        obtain ⟨rfl, rfl, rfl⟩ := h
        have hkk : k = 2 ∨ k = 3 ∨ k = 7 := by omega
        have hb : x.2.2.2.2.2.2 = 0 := by rw [h5]; rcases hkk with rfl | rfl | rfl <;> simp [wantS]
        refine ⟨⟨h1, h2, h3, ?_, ?_⟩, ⟨t1, t2, t3⟩, htk, by omega⟩
        · rcases hkk with rfl | rfl | rfl <;> simp [putL, leftS]
        · rcases hkk with rfl | rfl | rfl <;> simp [putL, leftS, hb]
theorem bsum_ge {n : Nat} {L : List LotT} (h : LsOk n L) {k : Nat} (hk : k < L.length) : (L.getD k default).2.2.2.2.2.2 ≤ bsum (L.getD k default).2.1 L := by
  have hs := bsum_set (L.getD k default).2.1 L hk (putL (L.getD k default) 0 1)
  simp only [putL, if_true] at hs
  have hall : ∀ i, i < (L.set k (putL (L.getD k default) 0 1)).length → 0 ≤ ((L.set k (putL (L.getD k default) 0 1)).getD i default).2.2.2.2.2.2 := fun i hi => by
    rw [set_get default L hk]
    split
    · simp [putL]
    · exact (lot_bond (h i (by simpa using hi))).1
  have hnn : ∀ (M : List LotT), (∀ i, i < M.length → 0 ≤ (M.getD i default).2.2.2.2.2.2) → ∀ o, 0 ≤ bsum o M := by
    intro M
    induction M with
    | nil => intro _ o; simp [bsum]
    | cons y M ih =>
      intro hM o
      have h0 := hM 0 (by simp)
      have h1 := ih (fun i hi => by simpa using hM (i + 1) (by simpa using hi)) o
      simp only [List.getD_cons_zero] at h0
      simp only [bsum]
      split <;> omega
  have := hnn _ hall (L.getD k default).2.1
  simp only [putL] at this
  omega
theorem own_lt {n : Nat} {x : LotT} (h : LOk n x) : x.2.1.toNat < n ∧ ((x.2.1.toNat : Nat) : Int) = x.2.1 := by
  have := h.2.2.1
  omega
theorem mov_ok {h : HsT} (hh : HOk h) {k : Nat} (hk : k < h.1.length) {d : DeedT} (hd : 2 ≤ d.1 ∧ d.1 ≤ 7) (hs : (h.1.getD k default).2.2.2.2.2.1 = wantS d.1) : HOk (movH h k (h.1.getD k default) d).1 := by
  have hx := hh.lots k hk
  have hge := bsum_ge hh.lots hk
  obtain ⟨ho, hoe⟩ := own_lt hx
  have ht := hh.trs _ ho
  rw [hoe] at ht
  unfold movH
  cases hv : setV (h.1.getD k default) (h.2.1.getD (h.1.getD k default).2.1.toNat default) h.2.2 d.1 with
  | none => exact hh
  | some q =>
    obtain ⟨b, t', tk'⟩ := q
    have hso := set_ok hx ht.1 hh.tk hd hs (by omega) hv
    refine ⟨by simpa using hh.nl, by simpa using hh.nt, hso.2.2.1, ?_, asc_set hh.asc hk rfl, fun i hi => ?_⟩
    · simp only [List.length_set]
      exact lots_set hh.lots hk hso.1
    · simp only [List.length_set] at hi
      simp only
      have hE : bsum (i : Int) (h.1.set k (putL (h.1.getD k default) b (leftS d.1))) = bsum i h.1 - (if (h.1.getD k default).2.1 = (i : Int) then (h.1.getD k default).2.2.2.2.2.2 else 0) + (if (h.1.getD k default).2.1 = (i : Int) then b else 0) := bsum_set _ _ hk _
      rw [set_get default _ ho, hE]
      have hi2 := hh.trs i hi
      by_cases e : i = (h.1.getD k default).2.1.toNat
      · have e2 : (h.1.getD k default).2.1 = (i : Int) := by rw [e]; exact hoe.symm
        rw [if_pos e, if_pos e2, if_pos e2]
        refine ⟨hso.2.1, ?_⟩
        rw [hso.2.2.2, ht.2, e2]
      · have e2 : ¬ (h.1.getD k default).2.1 = (i : Int) := fun e2 => e (by omega)
        rw [if_neg e, if_neg e2, if_neg e2]
        exact ⟨hi2.1, by rw [hi2.2]; omega⟩
theorem deed_kind {n : Nat} {d : DeedT} (h : deedB n d = true) : 1 ≤ d.1 ∧ d.1 ≤ 8 := by
  simp only [deedB, Bool.and_eq_true] at h
  have h2 := h.2
  split at h2
  · omega
  · split at h2
    · omega
    · split at h2
      · omega
      · cases h2
theorem act_ok {h : HsT} (hh : HOk h) {d : DeedT} (hd : deedB h.2.1.length d = true) : HOk (actH h d).1 := by
  have hk := deed_kind hd
  unfold actH
  split
  · rename_i e; exact lan_ok hh hd e
  · rename_i e1
    split
    · exact hh
    · rename_i hz
      have hz2 := lhas_yes (by simpa using hz)
      unfold lotH
      split
      · exact hh
      · rename_i hw
        simp only [ne_eq, Decidable.not_not] at hw
        split
        · rename_i e8
          exact spl_ok hh hz2.1 hd e8 (by rw [hw, e8]; rfl)
        · exact mov_ok hh hz2.1 (by omega) hw
theorem do_ok (h : HsT) (d : DeedT) (hh : houseB h = true) : houseB (doH h d).1 = true := by
  unfold doH
  split
  · exact hh
  · rename_i hn
    simp only [Bool.not_eq_false, Bool.and_eq_true] at hn
    exact house_yes (act_ok ((houseB_iff h).1 hh) hn.2)
theorem do_bad {h : HsT} (hh : houseB h = false) (d : DeedT) : doH h d = (h, 1) := if_pos (by simp [hh])
theorem st_same (h : HsT) (D : List DeedT) : ∀ k, houseB (stH h D k) = houseB h := by
  intro k
  induction k with
  | zero => rfl
  | succ k ih =>
    simp only [stH]
    cases hh : houseB h
    · rw [hh] at ih
      rw [do_bad ih]
      exact ih
    · rw [hh] at ih
      exact do_ok _ _ ih
theorem act_len (h : HsT) (d : DeedT) : (actH h d).1.2.1.length = h.2.1.length ∧ (actH h d).1.1.length ≤ h.1.length + 1 := by
  unfold actH
  split
  · unfold lanH
    split
    · exact ⟨rfl, Nat.le_succ _⟩
    · exact ⟨rfl, by simp only [insL_len]; omega⟩
  · split
    · exact ⟨rfl, Nat.le_succ _⟩
    · unfold lotH
      split
      · exact ⟨rfl, Nat.le_succ _⟩
      · split
        · unfold splH
          split
          · exact ⟨rfl, Nat.le_succ _⟩
          · split
            · exact ⟨rfl, Nat.le_succ _⟩
            · exact ⟨rfl, by simp only [insL_len, List.length_set]; omega⟩
        · unfold movH
          split
          · exact ⟨rfl, Nat.le_succ _⟩
          · exact ⟨by simp, by simp⟩
theorem do_len (h : HsT) (d : DeedT) : (doH h d).1.2.1.length = h.2.1.length ∧ (h.1.length ≤ 1048576 → (doH h d).1.1.length ≤ 1048576) := by
  cases hh : houseB h
  · rw [do_bad hh]; exact ⟨rfl, id⟩
  · have h2 := ((houseB_iff _).1 (do_ok h d hh)).nl
    refine ⟨?_, fun _ => by omega⟩
    unfold doH
    split
    · rfl
    · exact (act_len h d).1
theorem st_len (h : HsT) (D : List DeedT) (k : Nat) (hl : h.1.length ≤ 1048576) : (stH h D k).2.1.length = h.2.1.length ∧ (stH h D k).1.length ≤ 1048576 := by
  induction k with
  | zero => exact ⟨rfl, hl⟩
  | succ k ih =>
    have := do_len (stH h D k) (D.getD k default)
    exact ⟨this.1.trans ih.1, this.2 ih.2⟩

end Go.Proofs.Ytojlkdmlelgcbaa

/- Bills in numbers: names, bills, books, what an op does. No statement about the program stands here. -/
import Derived.Test.YtdcbonfhakdhhaaRBillOp
import Derived.Test.YtdcbonfhakdhhaaBlS
import Derived.Test.YtdcbonfhakdhhaaWalkD
namespace Go.Proofs.Ytdcbonfhakdhhaa
open Go.RowKit

theorem text_eq (a b : ByteArray) : (a.toList == b.toList) = decide (a = b) := by
  rw [ByteArray.toList_eq, ByteArray.toList_eq]
  by_cases h : a = b
  · subst h
    simp
  · have h' : a.data.toList ≠ b.data.toList := fun e => h (ByteArray.ext (Array.toList_inj.1 e))
    rw [decide_eq_false h]
    exact beq_eq_false_iff_ne.2 h'
def byt (s : ByteArray) (i : Nat) : Int := ((s.get! i).toNat : Int)
theorem byt_bd (s : ByteArray) (i : Nat) : 0 ≤ byt s i ∧ byt s i < 256 := by
  have := (s.get! i).toNat_lt
  unfold byt
  omega
theorem byt_eq (s : ByteArray) (i : Nat) (h : i < s.size) : ((s[i]'h).toNat : Int) = byt s i := by
  unfold byt
  congr 2
  simp [ByteArray.get!, h]
  rfl

/-- A sign that a name may have. -/
def nmC (b : Int) : Bool := inB b 97 122 || inB b 65 90 || inB b 48 57 || decide (b = 45)
def nameB (s : ByteArray) : Bool := inB s.size 1 20 && (List.range s.size).all fun i => nmC (byt s i)
theorem name_len {s : ByteArray} (h : inB s.size 1 20 = false) : nameB s = false := by simp [nameB, h]
theorem name_bad {s : ByteArray} {i : Nat} (hi : i < s.size) (h : nmC (byt s i) = false) : nameB s = false := by
  have : ((List.range s.size).all fun i => nmC (byt s i)) = false := by
    rw [List.all_eq_false]
    exact ⟨i, List.mem_range.2 hi, by rw [h]; simp⟩
  simp [nameB, this]
theorem name_all {s : ByteArray} (h : ∀ i, i < s.size → nmC (byt s i) = true) : nameB s = inB s.size 1 20 := by
  have : ((List.range s.size).all fun i => nmC (byt s i)) = true := by
    rw [List.all_eq_true]
    exact fun i hi => h i (List.mem_range.1 hi)
  simp [nameB, this]
def noB (s : ByteArray) : Bool := decide (s = ⟨#[]⟩)
theorem no_list (s : ByteArray) : s.toList.isEmpty = noB s := by
  have h := text_eq s ⟨#[]⟩
  rw [show (⟨#[]⟩ : ByteArray).toList = [] from by rw [ByteArray.toList_eq]] at h
  rw [noB, ← h]
  cases s.toList <;> rfl
def orB (s : ByteArray) : Bool := noB s || nameB s
theorem name_some {s : ByteArray} (h : nameB s = true) : noB s = false := by
  rw [noB, decide_eq_false_iff_not]
  rintro rfl
  exact absurd h (by decide)

/-- Id, shipper, order, how many, who holds each. -/
abbrev BlT := Int × ByteArray × ByteArray × Int × List ByteArray
abbrev BkT := List BlT × List Int
def billB (x : BlT) : Bool := inB x.1 1 1000000 && nameB x.2.1 && orB x.2.2.1 && inB x.2.2.2.1 1 5 && decide ((x.2.2.2.2.length : Int) = x.2.2.2.1) && x.2.2.2.2.all orB
def bId (L : List BlT) (i : Nat) : Int := (L.getD i default).1
def rowB1 (L : List BlT) (i : Nat) : Bool := billB (L.getD i default) && (decide (i = 0) || decide (bId L (i - 1) < bId L i))
def upwB (L : List BlT) : Bool := (List.range L.length).all (rowB1 L)
def hasB (L : List BlT) (id : Int) : Bool := L.any fun x => x.1 == id
def frow1 (L : List BlT) (F : List Int) (i : Nat) : Bool := hasB L (F.getD i 0) && (decide (i = 0) || decide (F.getD (i - 1) 0 < F.getD i 0))
def frB (L : List BlT) (F : List Int) : Bool := (List.range F.length).all (frow1 L F)
def bookB (b : BkT) : Bool := decide (b.1.length ≤ 30) && upwB b.1 && frB b.1 b.2
theorem range_all {p : Nat → Bool} {n : Nat} (h : ∀ i, i < n → p i = true) : (List.range n).all p = true := by
  rw [List.all_eq_true]
  exact fun i hi => h i (List.mem_range.1 hi)
theorem range_not {p : Nat → Bool} {n i : Nat} (hi : i < n) (h : p i = false) : (List.range n).all p = false := by
  rw [List.all_eq_false]
  exact ⟨i, List.mem_range.2 hi, by rw [h]; simp⟩
theorem range_at {p : Nat → Bool} {n i : Nat} (h : (List.range n).all p = true) (hi : i < n) : p i = true := List.all_eq_true.1 h i (List.mem_range.2 hi)
theorem book_parts {b : BkT} (h : bookB b = true) : b.1.length ≤ 30 ∧ upwB b.1 = true ∧ frB b.1 b.2 = true := by
  simp only [bookB, Bool.and_eq_true, decide_eq_true_eq] at h
  exact ⟨h.1.1, h.1.2, h.2⟩
theorem bill_parts {x : BlT} (h : billB x = true) : (1 ≤ x.1 ∧ x.1 ≤ 1000000) ∧ nameB x.2.1 = true ∧ orB x.2.2.1 = true ∧ (1 ≤ x.2.2.2.1 ∧ x.2.2.2.1 ≤ 5) ∧ (x.2.2.2.2.length : Int) = x.2.2.2.1 ∧ x.2.2.2.2.all orB = true := by
  simp only [billB, Bool.and_eq_true, decide_eq_true_eq] at h
  exact ⟨inB_true h.1.1.1.1.1, h.1.1.1.1.2, h.1.1.1.2, inB_true h.1.1.2, h.1.2, h.2⟩
theorem up_asc {L : List BlT} (h : upwB L = true) : ∀ r s, r < s → s < L.length → bId L r < bId L s := by
  intro r s
  induction s with
  | zero => intro h; omega
  | succ s ih =>
    intro h1 h2
    have h3 := range_at h h2
    simp only [rowB1, Bool.and_eq_true, Bool.or_eq_true, decide_eq_true_eq, Nat.add_sub_cancel] at h3
    have h4 : bId L s < bId L (s + 1) := h3.2.resolve_left (by omega)
    by_cases e : r = s
    · rw [e]; exact h4
    · have := ih (by omega) (by omega)
      omega
theorem up_bill {L : List BlT} (h : upwB L = true) {i : Nat} (hi : i < L.length) : billB (L.getD i default) = true := by
  have h3 := range_at h hi
  simp only [rowB1, Bool.and_eq_true] at h3
  exact h3.1

/-- The first place where p is so, or the length. -/
theorem first_at {α : Type} {p : α → Bool} {d : α} : ∀ {L : List α} {k : Nat}, k < L.length → p (L.getD k d) = true → (∀ t, t < k → p (L.getD t d) = false) → L.findIdx p = k
  | [], k, hk, _, _ => by simp at hk
  | x :: L, 0, _, h, _ => by simp at h; simp [List.findIdx_cons, h]
  | x :: L, k + 1, hk, h, hb => by
    have h0 : p x = false := by simpa using hb 0 (by omega)
    rw [List.findIdx_cons, h0, cond_false, first_at (d := d) (by simpa using hk) (by simpa using h) (fun t ht => by simpa using hb (t + 1) (by omega))]
theorem first_none {α : Type} {p : α → Bool} {d : α} : ∀ {L : List α}, (∀ t, t < L.length → p (L.getD t d) = false) → L.findIdx p = L.length
  | [], _ => rfl
  | x :: L, hb => by
    have h0 : p x = false := by simpa using hb 0 (by simp)
    rw [List.findIdx_cons, h0, cond_false, first_none (d := d) (fun t ht => by simpa using hb (t + 1) (by simpa using ht))]
    rfl
/-- The place of a bill, or where it would stand. -/
def plc (L : List BlT) (id : Int) : Nat := L.findIdx fun x => decide (id ≤ x.1)
def fplc (F : List Int) (id : Int) : Nat := F.findIdx fun x => decide (id ≤ x)
def fnd (L : List BlT) (id : Int) : Int := if L.findIdx (fun x => x.1 == id) < L.length then (L.findIdx (fun x => x.1 == id) : Nat) else -1
theorem fnd_at {L : List BlT} {id : Int} {k : Nat} (hk : k < L.length) (h : bId L k = id) (hb : ∀ t, t < k → bId L t ≠ id) : fnd L id = k := by
  have : L.findIdx (fun x => x.1 == id) = k := first_at (d := default) hk (by simpa [bId] using h) (fun t ht => by simpa [bId] using hb t ht)
  rw [fnd, this, if_pos hk]
theorem fnd_none {L : List BlT} {id : Int} (hb : ∀ t, t < L.length → bId L t ≠ id) : fnd L id = -1 := by
  have : L.findIdx (fun x => x.1 == id) = L.length := first_none (d := default) (fun t ht => by simpa [bId] using hb t ht)
  rw [fnd, this, if_neg (by omega)]
theorem plc_mk {L : List BlT} {id : Int} {k : Nat} (hk : k ≤ L.length) (h1 : ∀ t, t < k → bId L t < id) (h2 : k < L.length → id ≤ bId L k) : plc L id = k := by
  by_cases h : k < L.length
  · exact first_at (d := default) h (by simpa [bId] using h2 h) (fun t ht => by have := h1 t ht; unfold bId at this; simp only [decide_eq_false_iff_not]; omega)
  · have e : k = L.length := by omega
    subst e
    exact first_none (d := default) (fun t ht => by have := h1 t ht; unfold bId at this; simp only [decide_eq_false_iff_not]; omega)
theorem fplc_mk {F : List Int} {id : Int} {k : Nat} (hk : k ≤ F.length) (h1 : ∀ t, t < k → F.getD t 0 < id) (h2 : k < F.length → id ≤ F.getD k 0) : fplc F id = k := by
  by_cases h : k < F.length
  · exact first_at (d := 0) h (by simpa using h2 h) (fun t ht => by have := h1 t ht; simp only [decide_eq_false_iff_not]; omega)
  · have e : k = F.length := by omega
    subst e
    exact first_none (d := 0) (fun t ht => by have := h1 t ht; simp only [decide_eq_false_iff_not]; omega)
theorem idx_le {α : Type} (p : α → Bool) (L : List α) : L.findIdx p ≤ L.length := List.findIdx_le_length
theorem idx_lt {α : Type} {p : α → Bool} {d : α} {L : List α} {t : Nat} (h : t < L.findIdx p) : p (L.getD t d) = false := by
  have hl := idx_le p L
  rw [getD_lt (by omega)]
  exact List.not_of_lt_findIdx h
theorem idx_at {α : Type} {p : α → Bool} {d : α} {L : List α} (h : L.findIdx p < L.length) : p (L.getD (L.findIdx p) d) = true := by
  rw [getD_lt h]
  exact List.findIdx_getElem
/-- Whether the bill is there, and where: in a list that ascends. -/
theorem fnd_asc {L : List BlT} (ha : ∀ r s, r < s → s < L.length → bId L r < bId L s) (id : Int) : fnd L id = if plc L id < L.length ∧ bId L (plc L id) = id then (plc L id : Int) else -1 := by
  by_cases h : plc L id < L.length ∧ bId L (plc L id) = id
  · rw [if_pos h]
    refine fnd_at h.1 h.2 fun t ht => ?_
    have := ha t (plc L id) ht h.1
    omega
  · rw [if_neg h]
    refine fnd_none fun t ht e => ?_
    have h0 : plc L id ≤ t := by
      rcases Nat.lt_or_ge t (plc L id) with h1 | h1
      · have := idx_lt (d := default) h1
        simp only [decide_eq_false_iff_not] at this
        unfold bId at e
        omega
      · exact h1
    have h1 : plc L id < L.length := by omega
    have h2 := idx_at (d := default) h1
    simp only [decide_eq_true_eq] at h2
    have h3 : id ≤ bId L (plc L id) := h2
    by_cases e2 : plc L id = t
    · rw [e2] at h; exact h ⟨ht, e⟩
    · have := ha (plc L id) t (by omega) ht
      omega
theorem has_fnd (L : List BlT) (id : Int) : hasB L id = decide (0 ≤ fnd L id) := by
  by_cases h : L.findIdx (fun x => x.1 == id) < L.length
  · have h1 := List.findIdx_lt_length.1 h
    obtain ⟨x, hx, he⟩ := h1
    rw [fnd, if_pos h, hasB]
    have : (L.any fun x => x.1 == id) = true := List.any_eq_true.2 ⟨x, hx, he⟩
    rw [this, decide_eq_true (by omega)]
  · rw [fnd, if_neg h, hasB]
    have : (L.any fun x => x.1 == id) = false := by
      rw [List.any_eq_false]
      intro x hx he
      exact h (List.findIdx_lt_length.2 ⟨x, hx, he⟩)
    rw [this]
    rfl
/-- Freed numbers ascend. -/
theorem fr_asc {L : List BlT} {F : List Int} (h : frB L F = true) : ∀ r s, r < s → s < F.length → F.getD r 0 < F.getD s 0 := by
  intro r s
  induction s with
  | zero => intro h; omega
  | succ s ih =>
    intro h1 h2
    have h3 := range_at h h2
    simp only [frow1, Bool.and_eq_true, Bool.or_eq_true, decide_eq_true_eq, Nat.add_sub_cancel] at h3
    have h4 : F.getD s 0 < F.getD (s + 1) 0 := h3.2.resolve_left (by omega)
    by_cases e : r = s
    · rw [e]; exact h4
    · have := ih (by omega) (by omega)
      omega
theorem has_asc {F : List Int} (ha : ∀ r s, r < s → s < F.length → F.getD r 0 < F.getD s 0) (id : Int) : F.contains id = (decide (fplc F id < F.length) && decide (F.getD (fplc F id) 0 = id)) := by
  by_cases h : fplc F id < F.length ∧ F.getD (fplc F id) 0 = id
  · rw [decide_eq_true h.1, decide_eq_true h.2]
    rw [getD_lt h.1] at h
    have : id ∈ F := h.2 ▸ List.getElem_mem _
    simpa using this
  · have e : (decide (fplc F id < F.length) && decide (F.getD (fplc F id) 0 = id)) = false := by
      rw [← Bool.decide_and, decide_eq_false_iff_not]; exact h
    rw [e]
    have : ¬ id ∈ F := by
      intro hm
      obtain ⟨t, ht, rfl⟩ := List.mem_iff_getElem.1 hm
      rw [← getD_lt (d := 0) ht] at h
      have h0 : fplc F (F.getD t 0) ≤ t := by
        rcases Nat.lt_or_ge t (fplc F (F.getD t 0)) with h1 | h1
        · have := idx_lt (d := 0) h1
          simp at this
        · exact h1
      have h1 : fplc F (F.getD t 0) < F.length := by omega
      have h2 := idx_at (d := 0) h1
      simp only [decide_eq_true_eq] at h2
      have h3 : F.getD t 0 ≤ F.getD (fplc F (F.getD t 0)) 0 := h2
      by_cases e2 : fplc F (F.getD t 0) = t
      · rw [e2] at h; exact h ⟨ht, rfl⟩
      · have := ha (fplc F (F.getD t 0)) t (by omega) ht
        omega
    simpa using this

/-- Whether an op is one. -/
def opB (o : BillOpT) : Bool := inB o.2.1 1 1000000 && nameB o.2.2.1 && (if o.1 = 1 then orB o.2.2.2.1 && inB o.2.2.2.2.2 1 5 else if o.1 = 2 then orB o.2.2.2.1 else if o.1 = 3 then nameB o.2.2.2.1 else if o.1 = 4 then true else if o.1 = 5 then inB o.2.2.2.2.2 1 5 else false)
def cnt (H : List ByteArray) (who : ByteArray) : Nat := H.countP fun s => decide (s = who)
/-- The original with a number is held by who. -/
def hldB (H : List ByteArray) (n : Int) (who : ByteArray) : Bool := decide (0 ≤ n ∧ n < H.length) && decide (H.getD n.toNat default = who)
/-- What an op makes of a bill that is there, or none. -/
def passV (x : BlT) (o : BillOpT) : Option BlT :=
  if o.1 = 2 then (if (noB x.2.2.1 && decide (0 < cnt x.2.2.2.2 o.2.2.1)) || (!noB x.2.2.1 && decide (x.2.2.1 = o.2.2.1)) then some (x.1, x.2.1, o.2.2.2.1, x.2.2.2.1, x.2.2.2.2) else none)
  else if o.1 = 3 then (if hldB x.2.2.2.2 o.2.2.2.2.1 o.2.2.1 then some (x.1, x.2.1, x.2.2.1, x.2.2.2.1, x.2.2.2.2.set o.2.2.2.2.1.toNat o.2.2.2.1) else none)
  else if o.1 = 4 then (if hldB x.2.2.2.2 o.2.2.2.2.1 o.2.2.1 && (noB x.2.2.1 || decide (x.2.2.1 = o.2.2.1)) then some (x.1, x.2.1, x.2.2.1, x.2.2.2.1, List.replicate x.2.2.2.2.length ⟨#[]⟩) else none)
  else (if cnt x.2.2.2.2 o.2.2.1 = x.2.2.2.2.length then some (x.1, x.2.1, x.2.2.1, o.2.2.2.2.2, List.replicate o.2.2.2.2.2.toNat o.2.2.1) else none)
def insL {α : Type} (L : List α) (k : Nat) (x : α) : List α := L.take k ++ x :: L.drop k
def doB (b : BkT) (o : BillOpT) : BkT × Int :=
  if (bookB b && opB o) = false then (b, 1)
  else if o.1 = 1 then (if hasB b.1 o.2.1 || decide (30 ≤ b.1.length) then (b, 2) else ((insL b.1 (plc b.1 o.2.1) (o.2.1, o.2.2.1, o.2.2.2.1, o.2.2.2.2.2, List.replicate o.2.2.2.2.2.toNat o.2.2.1), b.2), 0))
  else if hasB b.1 o.2.1 = false then (b, 3)
  else if b.2.contains o.2.1 then (b, 4)
  else match passV (b.1.getD (plc b.1 o.2.1) default) o with
    | none => (b, 5)
    | some x => ((b.1.set (plc b.1 o.2.1) x, if o.1 = 4 then insL b.2 (fplc b.2 o.2.1) o.2.1 else b.2), 0)
def titV (b : BkT) (id : Int) : ByteArray × Bool :=
  if bookB b && hasB b.1 id && !b.2.contains id then
    (let x := b.1.getD (plc b.1 id) default
     if noB x.2.2.1 then (x.2.2.2.2.find? (fun s => !noB s)).getD ⟨#[]⟩ else x.2.2.1, true)
  else (⟨#[]⟩, false)
/-- The book behind the first k of some ops. -/
def stB (b : BkT) (O : List BillOpT) : Nat → BkT
  | 0 => b
  | k + 1 => (doB (stB b O k) (O.getD k default)).1
def cdB (b : BkT) (O : List BillOpT) (k : Nat) : Int := (doB (stB b O k) (O.getD k default)).2
def cdsB (b : BkT) (O : List BillOpT) (k : Nat) : List Int := (List.range k).map (cdB b O)
theorem cdsB_succ (b : BkT) (O : List BillOpT) (k : Nat) : cdsB b O (k + 1) = cdsB b O k ++ [cdB b O k] := by simp [cdsB, List.range_succ]

/-- Lists that are short enough. -/
def Bd (b : BkT) : Prop := b.1.length ≤ 1048576 ∧ b.2.length ≤ 1048576 ∧ ∀ x ∈ b.1, x.2.2.2.2.length ≤ 1048576
theorem fr_len {b : BkT} (h : bookB b = true) : b.2.length ≤ 1000000 := by
  obtain ⟨h1, h2, h3⟩ := book_parts h
  have hb : ∀ i, i < b.2.length → 1 ≤ b.2.getD i 0 ∧ b.2.getD i 0 ≤ 1000000 := fun i hi => by
    have h4 := range_at h3 hi
    simp only [frow1, Bool.and_eq_true, hasB, List.any_eq_true, beq_iff_eq] at h4
    obtain ⟨x, hx, hxe⟩ := h4.1
    obtain ⟨t, ht, rfl⟩ := List.mem_iff_getElem.1 hx
    have h5 := (bill_parts (up_bill h2 ht)).1
    rw [getD_lt ht] at h5
    omega
  have hi : ∀ i, i < b.2.length → (i : Int) + 1 ≤ b.2.getD i 0 := by
    intro i
    induction i with
    | zero => intro h0; have := (hb 0 h0).1; omega
    | succ i ih =>
      intro h0
      have h4 := ih (by omega)
      have h5 := fr_asc h3 i (i + 1) (by omega) h0
      omega
  rcases Nat.eq_zero_or_pos b.2.length with e | e
  · omega
  · have h4 := hi (b.2.length - 1) (by omega)
    have h5 := (hb (b.2.length - 1) (by omega)).2
    omega
theorem op_many {o : BillOpT} (h : opB o = true) (hk : o.1 = 1 ∨ o.1 = 5) : 1 ≤ o.2.2.2.2.2 ∧ o.2.2.2.2.2 ≤ 5 := by
  unfold opB at h
  rcases hk with e | e
  · rw [if_pos e] at h
    simp only [Bool.and_eq_true] at h
    exact inB_true h.2.2
  · rw [if_neg (by omega), if_neg (by omega), if_neg (by omega), if_neg (by omega), if_pos e] at h
    simp only [Bool.and_eq_true] at h
    exact inB_true h.2
theorem op_kind {o : BillOpT} (h : opB o = true) : 1 ≤ o.1 ∧ o.1 ≤ 5 := by
  unfold opB at h
  by_cases e1 : o.1 = 1
  · omega
  by_cases e2 : o.1 = 2
  · omega
  by_cases e3 : o.1 = 3
  · omega
  by_cases e4 : o.1 = 4
  · omega
  by_cases e5 : o.1 = 5
  · omega
  rw [if_neg e1, if_neg e2, if_neg e3, if_neg e4, if_neg e5] at h
  simp at h
theorem insL_len {α : Type} (L : List α) (k : Nat) (x : α) : (insL L k x).length = L.length + 1 := by
  simp [insL, Nat.min_def]
  split <;> omega
theorem pass_len {x y : BlT} {o : BillOpT} (h : passV x o = some y) (hk : opB o = true) (h1 : o.1 ≠ 1) (hx : x.2.2.2.2.length ≤ 1048576) : y.2.2.2.2.length ≤ 1048576 := by
  unfold passV at h
  have hkk := op_kind hk
  have hne := h1
  split at h
  · split at h
    · cases h; exact hx
    · cases h
  · split at h
    · split at h
      · cases h; simpa using hx
      · cases h
    · split at h
      · split at h
        · cases h; simpa using hx
        · cases h
      · split at h
        · have := op_many hk (by omega)
          cases h
          simp
          omega
        · cases h
theorem do_bd {b : BkT} (h : Bd b) (o : BillOpT) : Bd (doB b o).1 := by
  unfold doB
  split
  · exact h
  · rename_i hok
    simp only [Bool.not_eq_false, Bool.and_eq_true] at hok
    have hfl := fr_len hok.1
    split
    · rename_i e1
      split
      · exact h
      · have hm := op_many hok.2 (Or.inl e1)
        obtain ⟨h0, -, -⟩ := book_parts hok.1
        refine ⟨by simp only [insL_len]; omega, h.2.1, fun x hx => ?_⟩
        simp only [insL, List.mem_append, List.mem_cons] at hx
        rcases hx with hx | rfl | hx
        · exact h.2.2 x (List.mem_of_mem_take hx)
        · simp; omega
        · exact h.2.2 x (List.mem_of_mem_drop hx)
    · rename_i e1
      split
      · exact h
      · split
        · exact h
        · split
          · exact h
          · rename_i y hy
            refine ⟨by simpa using h.1, ?_, fun x hx => ?_⟩
            · dsimp only
              split
              · rw [insL_len]; omega
              · exact h.2.1
            · dsimp only at hx
              rcases List.mem_or_eq_of_mem_set hx with hx | rfl
              · exact h.2.2 x hx
              · refine pass_len hy hok.2 e1 ?_
                by_cases hp : plc b.1 o.2.1 < b.1.length
                · rw [getD_lt hp]; exact h.2.2 _ (List.getElem_mem _)
                · rw [List.getD, List.getElem?_eq_none (by omega)]; exact Nat.zero_le _
theorem st_bd {b : BkT} (h : Bd b) (O : List BillOpT) : ∀ k, Bd (stB b O k)
  | 0 => h
  | k + 1 => do_bd (st_bd h O k) _

end Go.Proofs.Ytdcbonfhakdhhaa

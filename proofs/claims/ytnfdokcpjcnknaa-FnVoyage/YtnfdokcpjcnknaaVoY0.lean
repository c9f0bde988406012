/- Texts laid together by wip/lay12v.py: DgM Grow OwRw DsA DsB DsB2 DsB3. -/
import Derived.Test.YtnfdokcpjcnknaaBxC
import Derived.Test.YtnfdokcpjcnknaaWalkH
import Derived.Test.YtnfdokcpjcnknaaWalkL
import Derived.Laws.BytesArg
import Derived.Laws.Strings2
import Derived.Test.YtnfdokcpjcnknaaKept
import Derived.Deep.AppendLies
import Derived.Deep.RegionLaw
import Derived.ArgAppend
import Derived.Laws.IdiomStrings
import Derived.Test.YtnfdokcpjcnknaaDrE
import Derived.Deep.DeepMust
import Derived.Test.YtnfdokcpjcnknaaRBox
/- Digits: a name's ten bytes as numbers; another digit. No statement about the program stands here. -/
namespace Go.Proofs.Ytnfdokcpjcnknaa
open Go.RowKit

def by8 (X : List Int) : List Value := X.map (Value.int .u8)
theorem by8_len (X : List Int) : (by8 X).length = X.length := by simp [by8]
theorem by8_get (X : List Int) {i : Nat} (h : i < X.length) : (by8 X)[i]? = some (.int .u8 (X.getD i 0)) := by
  simp [by8, List.getD, List.getElem?_eq_getElem h]
theorem by8_set (X : List Int) (i : Nat) (x : Int) : (by8 X).set i (.int .u8 x) = by8 (X.set i x) := by simp [by8, List.map_set]
theorem by8_app (X : List Int) (d : Int) : by8 X ++ [.int .u8 d] = by8 (X ++ [d]) := by simp [by8]

/-- Four capitals and six digits. -/
structure Right10 (X : List Int) : Prop where
  len : X.length = 10
  cap : ∀ r, r < 4 → 65 ≤ X.getD r 0 ∧ X.getD r 0 ≤ 90
  dig : ∀ r, 4 ≤ r → r < 10 → 48 ≤ X.getD r 0 ∧ X.getD r 0 ≤ 57

theorem getD_setN (X : List Int) (k r : Nat) (x : Int) (hk : k < X.length) : (X.set k x).getD r 0 = if r = k then x else X.getD r 0 := by
  simp only [List.getD, List.getElem?_set]
  by_cases e : r = k
  · subst e; simp [hk]
  · simp [e, Ne.symm e]
theorem Right10.set_cap {X : List Int} (h : Right10 X) {k : Nat} (hk : k < 4) {x : Int} (h0 : 65 ≤ x) (h1 : x ≤ 90) : Right10 (X.set k x) := by
  have hl := h.len
  refine ⟨by rw [List.length_set]; exact hl, fun r hr => ?_, fun r hr hr2 => ?_⟩
  · rw [getD_setN X k r x (by omega)]
    split
    · exact ⟨h0, h1⟩
    · exact h.cap r hr
  · rw [getD_setN X k r x (by omega), if_neg (by omega)]
    exact h.dig r hr hr2
theorem Right10.set_dig {X : List Int} (h : Right10 X) {k : Nat} (hk4 : 4 ≤ k) (hk : k < 10) {x : Int} (h0 : 48 ≤ x) (h1 : x ≤ 57) : Right10 (X.set k x) := by
  have hl := h.len
  refine ⟨by rw [List.length_set]; exact hl, fun r hr => ?_, fun r hr hr2 => ?_⟩
  · rw [getD_setN X k r x (by omega), if_neg (by omega)]
    exact h.cap r hr
  · rw [getD_setN X k r x (by omega)]
    split
    · exact ⟨h0, h1⟩
    · exact h.dig r hr hr2
theorem Right10.bd {X : List Int} (h : Right10 X) {r : Nat} (hr : r < 10) : 0 ≤ X.getD r 0 ∧ X.getD r 0 < 256 := by
  by_cases h4 : r < 4
  · have := h.cap r h4; omega
  · have := h.dig r (by omega) hr; omega
theorem Right10.good {X : List Int} (h : Right10 X) {r : Nat} (hr : r < 10) : 0 ≤ sgB (X.getD r 0) r := by
  unfold sgB
  by_cases h4 : r < 4
  · have h1 := h.cap r h4
    have h2 : 65 ≤ X.getD r 0 ∧ X.getD r 0 ≤ 90 := h1
    rw [if_pos h4, letV, if_pos h2]
    unfold ltr
    omega
  · have h1 := h.dig r (by omega) hr
    rw [if_neg h4, if_pos h1]
    omega

theorem byt_str {X : List Int} {i : Nat} (hi : i < X.length) (h0 : 0 ≤ X.getD i 0) (h1 : X.getD i 0 < 256) : byt (strOfNums X) i = X.getD i 0 := by
  have hs : i < (strOfNums X).size := by rw [strOfNums_size]; exact hi
  rw [← byt_eq _ _ hs]
  have e : (strOfNums X)[i]'hs = UInt8.ofNat (X.getD i 0).toNat := by
    show (strOfNums X).data[i]'hs = _
    simp [strOfNums, List.getD, List.getElem?_eq_getElem hi]
  rw [e]
  generalize X.getD i 0 = x at *
  simp
  omega
/-- The sum that the digit is told by. -/
def smX (X : List Int) (k : Nat) : Int := sumTo (fun r => sgB (X.getD r 0) r * 2 ^ r) k
theorem cdSum_str {X : List Int} (h : Right10 X) : ∀ k, k ≤ 10 → cdSum (strOfNums X) k = smX X k
  | 0, _ => rfl
  | k + 1, hk => by
    have ih := cdSum_str h k (by omega)
    have hb := h.bd (r := k) (by omega)
    rw [cdSum, ih, byt_str (by rw [h.len]; omega) hb.1 hb.2]
    rfl
theorem cd_str {X : List Int} (h : Right10 X) : cd (strOfNums X) = smX X 10 % 11 % 10 := by
  rw [cd_all (by rw [strOfNums_size]; exact h.len) (fun i hi => by
    have hb := h.bd hi
    rw [byt_str (by rw [h.len]; exact hi) hb.1 hb.2]
    exact h.good hi), cdSum_str h 10 (Nat.le_refl _)]
theorem str_cut {X : List Int} (d : Int) (h : X.length = 10) : (strOfNums (X ++ [d])).extract 0 10 = strOfNums X := by
  unfold strOfNums
  rw [ByteArray.extract_mk]
  congr 1
  simp [h]
theorem bn_str {X : List Int} (h : Right10 X) {d : Int} (h0 : 0 ≤ d) (h1 : d < 256) : bnB (strOfNums (X ++ [d])) = decide (d = 48 + cd (strOfNums X)) := by
  have hl := h.len
  have e10 : (X ++ [d]).getD 10 0 = d := by
    simp only [List.getD]
    rw [List.getElem?_append_right (by omega), hl]
    rfl
  have hb : byt (strOfNums (X ++ [d])) 10 = d := by
    rw [byt_str (by simp [hl]) (by rw [e10]; exact h0) (by rw [e10]; exact h1), e10]
  have hc : 0 ≤ cd (strOfNums X) := by rw [cd_str h]; omega
  unfold bnB
  rw [str_cut d hl, hb, strOfNums_size]
  simp [hl, hc]
theorem bn_ten {X : List Int} (h : X.length = 10) : bnB (strOfNums X) = false := bn_len (by rw [strOfNums_size, h]; omega)
theorem cd_bd2 {X : List Int} (h : Right10 X) : 0 ≤ cd (strOfNums X) ∧ cd (strOfNums X) ≤ 9 := by rw [cd_str h]; omega

theorem smX_set (X : List Int) (k : Nat) (x : Int) (hk : k < X.length) : ∀ n, smX (X.set k x) n = smX X n + (if k < n then (sgB x k - sgB (X.getD k 0) k) * 2 ^ k else 0)
  | 0 => by simp [smX, sumTo]
  | n + 1 => by
    have ih := smX_set X k x hk n
    unfold smX at *
    rw [sumTo, sumTo, ih, getD_setN X k n x hk]
    by_cases h1 : n = k
    · subst h1
      rw [if_pos rfl, if_neg (Nat.lt_irrefl _), if_pos (Nat.lt_succ_self _), Int.sub_mul]
      omega
    · rw [if_neg h1]
      by_cases h2 : k < n
      · rw [if_pos h2, if_pos (by omega)]
        omega
      · rw [if_neg h2, if_neg (by omega)]
        omega
theorem pow_mod {d : Int} {k : Nat} (h4 : 4 ≤ k) (hk : k < 10) (h0 : -9 ≤ d) (h1 : d ≤ 9) (hm : d * 2 ^ k % 11 = 0) : d = 0 := by
  have : k = 4 ∨ k = 5 ∨ k = 6 ∨ k = 7 ∨ k = 8 ∨ k = 9 := by omega
  rcases this with h | h | h | h | h | h <;> subst h <;> simp at hm <;> omega
/-- With another one of the six digits the same digit is told at most where it is 0. -/
theorem digit_turn {X : List Int} (h : Right10 X) {k : Nat} (h4 : 4 ≤ k) (hk : k < 10) {x : Int} (h0 : 48 ≤ x) (h1 : x ≤ 57) (hne : x ≠ X.getD k 0) (he : cd (strOfNums (X.set k x)) = cd (strOfNums X)) : cd (strOfNums X) = 0 := by
  have hr := h.set_dig h4 hk h0 h1
  rw [cd_str hr, cd_str h, smX_set X k x (by rw [h.len]; exact hk), if_pos hk] at he
  rw [cd_str h]
  have hd := h.dig k h4 hk
  have e1 : sgB x k = x - 48 := by unfold sgB; rw [if_neg (by omega), if_pos ⟨h0, h1⟩]
  have e2 : sgB (X.getD k 0) k = X.getD k 0 - 48 := by unfold sgB; rw [if_neg (by omega), if_pos hd]
  rw [e1, e2] at he
  obtain ⟨d, ed⟩ : ∃ d, d = x - 48 - (X.getD k 0 - 48) := ⟨_, rfl⟩
  rw [← ed] at he
  have hp := fun hm => pow_mod (d := d) h4 hk (by omega) (by omega) hm
  generalize d * 2 ^ k = m at *
  generalize smX X 10 = s at *
  by_cases hc : s % 11 % 10 = 0
  · exact hc
  · exfalso
    have := hp (by omega)
    omega

end Go.Proofs.Ytnfdokcpjcnknaa

/- A list of rows that grows by append, a block a row: what is owned, and how it goes on. No statement about the program stands here. -/
namespace Go.Proofs.Ytnfdokcpjcnknaa
open Go.RowKit

theorem ownsRow_kept {T : Nat → Prop} {w w' : World} {base n size : Nat} {e : TypeId} {v : Value} {xs : List Value} (h : w.ownsRow base e size v n xs) (hk : Kept T w w') (hT : ∀ g, base ≤ g → g < w.heap.size → v.ownBlock = some g → ¬ T g) : w'.ownsRow base e size v n xs := by
  obtain ⟨h1, h2⟩ := h
  refine ⟨h1, ?_⟩
  rcases h2 with h2 | ⟨g, cap, cur, hv, hg, hh, r⟩
  · exact Or.inl h2
  · obtain ⟨hlt, _⟩ := Array.getElem?_eq_some_iff.1 hh
    exact Or.inr ⟨g, cap, cur, hv, hg, (hk.block g hlt (hT g hg hlt (by rw [hv]; rfl))).trans hh, r⟩

theorem Kept.grown {T : Nat → Prop} {a w w' : World} {row : Option Nat} (h : Kept T a w) (hg : w.grownBy w' row) (hr : ∀ k, row = some k → T k) : Kept T a w' :=
  h.trans ⟨hg.os, hg.tape, hg.output, hg.size, fun k hk ht => hg.block k hk (fun e => ht (hr k e.symm))⟩

theorem Kept.alloc {T : Nat → Prop} {a w : World} (h : Kept T a w) (o : Obj) : Kept T a (w.alloc o) := h.trans (kept_of_below (Below.alloc1 w o))

/-- The slice value ov owns one cell a row of R; row r lies at the head of a block of its own. -/
def Grow (t : TypeId) (base : Nat) (w : World) (ov : Value) (R : List (List Int)) : Prop :=
  ∃ vals, w.ownsRow base t 1 ov R.length vals ∧ ∀ r, r < R.length → ∃ g cap, vals[r]? = some (.slice (some ⟨g, 0, none⟩) (R.getD r []).length cap) ∧ (R.getD r []).length ≤ cap ∧ cap ≤ maxLen ∧ OwnV w g (ints (R.getD r [])) ∧ base ≤ g ∧ ov.ownBlock ≠ some g

theorem Grow.start (t : TypeId) (base : Nat) (w : World) : Grow t base w (.slice none 0 0) [] := ⟨[], World.ownsRow_nil _ _ _ _, fun r hr => by simp at hr⟩

theorem Grow.kept {T : Nat → Prop} {t : TypeId} {base : Nat} {w w' : World} {ov : Value} {R : List (List Int)} (h : Grow t base w ov R) (hk : Kept T w w') (hT : ∀ g, base ≤ g → g < w.heap.size → ¬ T g) : Grow t base w' ov R := by
  obtain ⟨vals, ho, hr⟩ := h
  refine ⟨vals, ownsRow_kept ho hk (fun g hg hl _ => hT g hg hl), fun r hlt => ?_⟩
  obtain ⟨g, cap, h1, h2, h3, h4, h5, h6⟩ := hr r hlt
  exact ⟨g, cap, h1, h2, h3, h4.kept hk (hT g h5 h4.lt), h5, h6⟩

theorem Grow.below {t : TypeId} {base : Nat} {w w' : World} {ov : Value} {R : List (List Int)} (h : Grow t base w ov R) (hb : Below w.heap.size w w') : Grow t base w' ov R :=
  h.kept (T := fun _ => False) (kept_of_below hb) (fun _ _ _ h => h)

theorem Grow.mono {t : TypeId} {base base' : Nat} {w : World} {ov : Value} {R : List (List Int)} (h : Grow t base w ov R) (hb : base' ≤ base) : Grow t base' w ov R := by
  obtain ⟨vals, ho, hr⟩ := h
  refine ⟨vals, ⟨ho.1, ho.2.elim Or.inl (fun ⟨g, cap, cur, hv, hg, r⟩ => Or.inr ⟨g, cap, cur, hv, Nat.le_trans hb hg, r⟩)⟩, fun r hlt => ?_⟩
  obtain ⟨g, cap, h1, h2, h3, h4, h5, h6⟩ := hr r hlt
  exact ⟨g, cap, h1, h2, h3, h4, Nat.le_trans hb h5, h6⟩

/-- Where there is a row the list lies at the head of a block of its own. -/
theorem Grow.form {t : TypeId} {base : Nat} {w : World} {ov : Value} {R : List (List Int)} (h : Grow t base w ov R) (hn : 0 < R.length) : ∃ g cap, ov = .slice (some ⟨g, 0, none⟩) R.length cap ∧ base ≤ g ∧ R.length ≤ cap ∧ cap ≤ maxLen := by
  obtain ⟨vals, ⟨_, h2⟩, _⟩ := h
  rcases h2 with ⟨_, h0⟩ | ⟨g, cap, cur, hv, hg, hh, hc, hm, _⟩
  · omega
  · exact ⟨g, cap, hv, hg, hc, hm⟩

theorem getD_snoc {α : Type} (R : List α) (x d : α) (r : Nat) : (R ++ [x]).getD r d = if r < R.length then R.getD r d else if r = R.length then x else d := by
  by_cases h : r < R.length
  · rw [if_pos h]; simp [List.getD, List.getElem?_append_left h]
  · rw [if_neg h]
    by_cases e : r = R.length
    · subst e; simp [List.getD]
    · rw [if_neg e, List.getD, List.getElem?_eq_none (by simp; omega)]; rfl

/-- One row more, behind the law of append. -/
theorem Grow.push {t : TypeId} {base : Nat} {w w1 w2 : World} {ov : Value} {R : List (List Int)} {row : List Int} {g cap g' cap' H : Nat} {vals : List Value}
    (hr : ∀ r, r < R.length → ∃ g cap, vals[r]? = some (.slice (some ⟨g, 0, none⟩) (R.getD r []).length cap) ∧ (R.getD r []).length ≤ cap ∧ cap ≤ maxLen ∧ OwnV w g (ints (R.getD r [])) ∧ base ≤ g ∧ ov.ownBlock ≠ some g)
    (hvl : vals.length = R.length) (hb : Below w.heap.size w w1) (ho : OwnV w g (ints row)) (hg : base ≤ g) (hne : ov.ownBlock ≠ some g) (hc1 : row.length ≤ cap) (hc2 : cap ≤ maxLen) (hH : w.heap.size ≤ H)
    (hown : w2.ownsRow base t 1 (.slice (some ⟨g', 0, none⟩) (R.length + 1) cap') (R.length + 1) (vals ++ [.slice (some ⟨g, 0, none⟩) row.length cap])) (hgrow : w1.grownBy w2 ov.ownBlock) (hat : ov.ownBlock = some g' ∨ g' = H) :
    Grow t base w2 (.slice (some ⟨g', 0, none⟩) (R.length + 1) cap') (R ++ [row]) := by
  refine ⟨vals ++ [.slice (some ⟨g, 0, none⟩) row.length cap], by rw [List.length_append]; exact hown, fun r hlt => ?_⟩
  rw [List.length_append] at hlt
  simp only [List.length_cons, List.length_nil, Nat.zero_add] at hlt
  have far : ∀ x, x < w.heap.size → ov.ownBlock ≠ some x → (Value.slice (some ⟨g', 0, none⟩) (R.length + 1) cap').ownBlock ≠ some x ∧ w2.heap[x]? = w.heap[x]? := fun x hx hnx => by
    constructor
    · intro e
      have e' : g' = x := by simpa [Value.ownBlock] using e
      subst e'
      rcases hat with h | h
      · exact hnx h
      · omega
    · rw [hgrow.block x (Nat.lt_of_lt_of_le hx hb.size) (fun e => hnx e.symm), hb.block x hx]
  rw [getD_snoc]
  by_cases h : r < R.length
  · rw [if_pos h]
    obtain ⟨g1, cap1, h1, h2, h3, h4, h5, h6⟩ := hr r h
    obtain ⟨f1, f2⟩ := far g1 h4.lt h6
    exact ⟨g1, cap1, by rw [List.getElem?_append_left (by omega)]; exact h1, h2, h3, h4.of_block f2, h5, f1⟩
  · rw [if_neg h, if_pos (by omega)]
    obtain ⟨f1, f2⟩ := far g ho.lt hne
    exact ⟨g, cap, by rw [List.getElem?_append_right (by omega)]; simp [show r - vals.length = 0 by omega], hc1, hc2, ho.of_block f2, hg, f1⟩

theorem Grow.rowsIn {t : TypeId} {base : Nat} {w : World} {ov : Value} {R : List (List Int)} (h : Grow t base w ov R) : RowsIn w ov R := by
  obtain ⟨vals, ⟨h1, h2⟩, hr⟩ := h
  rcases h2 with ⟨rfl, h0⟩ | ⟨g, cap, cur, rfl, hg, hh, hc, hm, hs, ht⟩
  · have : R = [] := List.length_eq_zero_iff.1 h0
    subst this
    exact ⟨none, 0, rfl, Nat.le_refl _, Nat.zero_le _, fun r hr => by simp at hr⟩
  · refine ⟨_, cap, rfl, hc, hm, fun r hlt => ?_⟩
    obtain ⟨g1, cap1, e1, e2, e3, e4, _, _⟩ := hr r hlt
    refine ⟨g, 0, _, rfl, ?_, e4.intsIn e2 e3⟩
    rw [Nat.zero_add]
    have : cur[r]? = some (.slice (some ⟨g1, 0, none⟩) (R.getD r []).length cap1) := by
      rw [← ht] at e1
      rw [List.getElem?_take, if_pos (by omega)] at e1
      simpa using e1
    simp [World.cell?, hh, this]

end Go.Proofs.Ytnfdokcpjcnknaa

/- Rows of bytes of the call's own, which may bear the run-time's mark behind their last cell: stores, texts, appends of one byte. No statement about the program stands here. -/
namespace Go.Proofs.Ytnfdokcpjcnknaa
open Go.RowKit

theorem Try.infoU8 : (Try.prog.info? 5).map (fun i => (i.zero, i.size, i.bytes)) = some (some (.int .u8 0), 1, 1) := by kernel_rfl

/-- Bytes in a block g that is the call's own: the first n of its cap cells; none of the cells is frozen. -/
structure M8 (w : World) (g n cap : Nat) (X : List Int) : Prop where
  len : X.length = n
  room : n ≤ cap
  most : cap ≤ maxLen
  row : ∃ cur lo hi, w.heap[g]? = some (.cells cur 5 (lo, hi)) ∧ cur.size = cap ∧ (cap ≤ lo ∨ hi = 0) ∧ ∀ i, i < n → cur[i]? = some (.int .u8 (X.getD i 0))
namespace M8
variable {w w' : World} {g n cap : Nat} {X : List Int}
theorem lt (h : M8 w g n cap X) : g < w.heap.size := by
  obtain ⟨cur, lo, hi, hh, _⟩ := h.row
  exact (Array.getElem?_eq_some_iff.1 hh).1
theorem of_block (h : M8 w g n cap X) (e : w'.heap[g]? = w.heap[g]?) : M8 w' g n cap X := by
  obtain ⟨cur, lo, hi, hh, r⟩ := h.row
  exact ⟨h.len, h.room, h.most, cur, lo, hi, e.trans hh, r⟩
theorem below (h : M8 w g n cap X) (hb : Below w.heap.size w w') : M8 w' g n cap X := h.of_block (hb.block g h.lt)
theorem kept {T : Nat → Prop} (h : M8 w g n cap X) (hk : Kept T w w') (hg : ¬ T g) : M8 w' g n cap X := h.of_block (hk.block g h.lt hg)
theorem drew (h : M8 w g n cap X) : M8 w.drew g n cap X := h.of_block rfl
theorem cell (h : M8 w g n cap X) {i : Nat} (hi : i < n) : w.cell? ⟨g, i, none⟩ = some (.int .u8 (X.getD i 0)) := by
  obtain ⟨cur, lo, hi', hh, _, _, hc⟩ := h.row
  simp [World.cell?, hh, hc i hi]
theorem cell_some (h : M8 w g n cap X) {i : Nat} (hi : i < cap) : (w.cell? ⟨g, i, none⟩).isSome = true := by
  obtain ⟨cur, lo, hi', hh, hs, _, _⟩ := h.row
  simp [World.cell?, hh, hs, hi]
theorem frozen (h : M8 w g n cap X) {i : Nat} (hi : i < cap) : w.frozen? ⟨g, i, none⟩ = false := by
  obtain ⟨cur, lo, hi', hh, hs, hf, _⟩ := h.row
  simp only [World.frozen?, hh]
  rcases hf with hf | hf
  · simp; omega
  · simp [hf]
theorem set (h : M8 w g n cap X) {i : Nat} (hi : i < n) (x : Int) : M8 (w.setCell ⟨g, i, none⟩ (.int .u8 x)) g n cap (X.set i x) := by
  obtain ⟨cur, lo, hi', hh, hs, hf, hc⟩ := h.row
  refine ⟨by rw [List.length_set]; exact h.len, h.room, h.most, cur.setIfInBounds i (.int .u8 x), lo, hi', by simp [World.setCell, Array.getElem?_modify, hh], by simpa using hs, hf, fun j hj => ?_⟩
  rw [Array.getElem?_setIfInBounds, getD_setN X i j x (by rw [h.len]; exact hi)]
  by_cases e : i = j
  · subst e
    have := h.room
    rw [if_pos rfl, if_pos rfl, if_pos (by omega)]
  · rw [if_neg e, if_neg (fun h => e h.symm), hc j hj]
/-- The first m of it. -/
theorem take (h : M8 w g n cap X) {m : Nat} (hm : m ≤ n) : M8 w g m cap (X.take m) := by
  obtain ⟨cur, lo, hi', hh, hs, hf, hc⟩ := h.row
  refine ⟨by rw [List.length_take, h.len]; omega, by have := h.room; omega, h.most, cur, lo, hi', hh, hs, hf, fun j hj => ?_⟩
  rw [hc j (by omega)]
  simp [List.getD, hj]
theorem text (h : M8 w g n cap X) (c : Nat) : (convert 22 9 (.slice (some ⟨g, 0, none⟩) n c)).run Try.prog w = .ok (.string (strOfNums X)) w :=
  run_convert_bytes_arg w _ _ Try.underlying22 Try.underlying5 g 0 n c X h.len (fun i hi => by rw [Nat.zero_add]; exact h.cell hi) _ Try.underlying9
end M8
theorem below_set {w w' : World} {B g : Nat} (h : Below B w w') (hg : B ≤ g) (i : Nat) (v : Value) : Below B w (w'.setCell ⟨g, i, none⟩ v) :=
  h.trans ⟨rfl, rfl, rfl, by simp [World.setCell], fun k hk => Below.heap_setCell _ _ _ _ (fun e => by simp only at e; omega)⟩
theorem m8_of_owns {w : World} {B g n cap : Nat} {X : List Int} (h : w.ownsRow B 5 1 (.slice (some ⟨g, 0, none⟩) n cap) n (by8 X)) : M8 w g n cap X := by
  obtain ⟨h1, h2⟩ := h
  rw [by8_len] at h1
  rcases h2 with ⟨hv, _⟩ | ⟨g', cap', cur, hv, hg, hh, hc, hm, hs, ht⟩
  · cases hv
  · simp only [Value.slice.injEq, Option.some.injEq, Addr.mk.injEq, and_true, true_and] at hv
    obtain ⟨rfl, rfl⟩ := hv
    refine ⟨by omega, hc, hm, cur, 0, 0, hh, by omega, Or.inr rfl, fun i hi => ?_⟩
    have := by8_get X (i := i) (by omega)
    rw [← ht, List.getElem?_take, if_pos (by omega)] at this
    simpa using this
theorem m8_lit (w : World) (X : List Int) (n lo hi : Nat) (hn : X.length = n) (hf : n ≤ lo ∨ hi = 0) (hm : n ≤ maxLen) : M8 (w.alloc (.cells (by8 X).toArray 5 (lo, hi))) w.heap.size n n X := by
  refine ⟨hn, Nat.le_refl _, hm, (by8 X).toArray, lo, hi, Go.Deep.blk_alloc_new _ _, by simp [by8_len, hn], hf, fun i hi => ?_⟩
  have := by8_get X (i := i) (by omega)
  simpa using this

theorem freeze_new (w : World) (C : Array Value) (e : TypeId) (n : Nat) : (w.alloc (.cells C e)).freeze ⟨w.heap.size, n, none⟩ 1 = w.alloc (.cells C e (n, n + 1)) := by
  have hm : ∀ (a : Array Obj) (x : Obj) (f : Obj → Obj), (a.push x).modify a.size f = a.push (f x) := by
    intro a x f
    apply Array.ext
    · simp
    · intro i h1 h2
      simp only [Array.getElem_modify, Array.getElem_push]
      by_cases h : a.size = i
      · subst h
        simp
      · have hi : i < a.size := by simp at h1; omega
        simp [h, hi]
  unfold World.freeze
  rw [if_neg (by decide)]
  show ({ w.alloc (.cells C e) with heap := (w.heap.push (.cells C e)).modify w.heap.size _ } : World) = _
  rw [hm]
  rfl
/-- A conversion of a literal's bytes: the row bears the run-time's mark. -/
theorem run_conv_lit (w : World) (C : Array Value) (n c : Nat) : (convert 22 22 (.slice (some ⟨w.heap.size, 0, none⟩) n c)).run Try.prog (w.alloc (.cells C 5)) = .ok (.slice (some ⟨w.heap.size, 0, none⟩) n c) (w.alloc (.cells C 5 (C.size, C.size + 1))) := by
  have hsh : (w.alloc (.cells C 5)).shape? w.heap.size = some (5, C.size) := by
    have : (w.alloc (.cells C 5)).heap[w.heap.size]? = some (.cells C 5) := by
      show (w.heap.push (.cells C 5))[w.heap.size]? = _
      simp
    unfold World.shape?
    rw [this]
  simp [convert, run_underlying Try.underlying22, run_underlying Try.underlying5, markStringish, hsh]
  exact freeze_new _ _ _ _

theorem run_app8 (w : World) (ty : TypeId) {g n cap : Nat} {X : List Int} (h : M8 w g n cap X) (hn : n ≤ 1000) (G : Nat) (d : Int) (c : Nat) (hG : w.cell? ⟨G, 0, none⟩ = some (.int .u8 d)) :
    ∃ g' cap' w', (Builtin.append_ #[22, 22] ty #[.slice (some ⟨g, 0, none⟩) n cap, .slice (some ⟨G, 0, none⟩) 1 c]).run Try.prog w = .ok (.slice (some ⟨g', 0, none⟩) (n + 1) cap') w' ∧
      M8 w' g' (n + 1) cap' (X ++ [d]) ∧ Kept (fun b => b = g ∧ n < cap) w w' ∧ (g' = g ∨ w.heap.size ≤ g') := by
  obtain ⟨i0, hinf, hzz⟩ := Option.map_eq_some_iff.1 Try.infoU8
  simp only [Prod.mk.injEq] at hzz
  obtain ⟨hz0, hz1, hz2⟩ := hzz
  have hnews : ∀ j u, [Value.int .u8 d][j]? = some u → w.cell? ((⟨G, 0, none⟩ : Addr).add j) = some u := fun j u hu => by
    rcases j with _ | j
    · simp at hu
      subst hu
      simpa [Addr.add] using hG
    · simp at hu
  by_cases hr : n + 1 ≤ cap
  · have hrun := run_append_room_cells (P := Try.prog) w 22 ty 5 i0 Try.underlying22 hinf g 0 n cap ⟨G, 0, none⟩ 1 c [.int .u8 d] (by rw [hz1]; rfl) hnews (by simp [Value.oneCell']) hr
      (fun j hj => by simp at hj; subst hj; rw [hz1]; simpa using h.cell_some (i := n) (by omega)) (fun j hj => by simp at hj; subst hj; rw [hz1]; simpa using h.frozen (i := n) (by omega))
    simp only [hz1, Nat.mul_one, Nat.zero_add, World.setCells] at hrun
    refine ⟨g, cap, _, hrun, ?_, (Kept.refl _ w).setCell (p := ⟨g, n, none⟩) ⟨rfl, by omega⟩ _, Or.inl rfl⟩
    obtain ⟨cur, lo, hi', hh, hs, hf, hc⟩ := h.row
    have hl := h.len
    refine ⟨by simp [hl], hr, h.most, cur.setIfInBounds n (.int .u8 d), lo, hi', by simp [World.setCell, Array.getElem?_modify, hh], by simpa using hs, hf, fun j hj => ?_⟩
    rw [Array.getElem?_setIfInBounds]
    by_cases e : n = j
    · subst e
      rw [if_pos rfl, if_pos (by omega)]
      simp [List.getD, ← hl]
    · rw [if_neg e, hc j (by omega)]
      simp [List.getD, List.getElem?_append_left (show j < X.length by omega)]
  · obtain ⟨v', w', hrun, ho, hg⟩ := run_append_arg_grows (P := Try.prog) w 22 ty 5 i0 _ 1 1 Try.underlying22 hinf hz0 hz1 hz2 rfl (by decide) ⟨g, 0, none⟩ n cap (by8 X) (by rw [by8_len, h.len]; omega) (fun j u hu => by
      have hj : j < n := by
        have := (List.getElem?_eq_some_iff.1 hu).1
        rw [by8_len, h.len] at this
        exact this
      rw [by8_get X (by rw [h.len]; exact hj)] at hu
      cases hu
      have ha : (⟨g, 0, none⟩ : Addr).add j = ⟨g, j, none⟩ := by unfold Addr.add; split <;> simp_all
      rw [ha]
      exact h.cell hj) ⟨G, 0, none⟩ 1 c [.int .u8 d] rfl hnews (by omega) (by unfold maxLen; omega) (by omega)
    rw [by8_app] at ho
    have ho' := ho
    rcases ho.2 with ⟨hv, hn0⟩ | ⟨g', cap', cur, hv, hg', _⟩
    · omega
    · subst hv
      exact ⟨g', cap', w', hrun, m8_of_owns ho', ⟨hg.os, hg.tape, hg.output, hg.size, fun k hk _ => hg.block k hk (by simp)⟩, Or.inr hg'⟩
theorem wpList_app8 (w : World) {ops : Array Oper} {rest : List Oper} {o : Oper} {a : Act} {Q : Exit → Act → World → Prop} (hwt : Region.wanted o (yielded ops a.tmps) = true) (s x : Operand)
    (ho : o.op = .call { callee := .builtin .append, args := #[s, x], argTypes := #[22, 22] })
    (g n cap : Nat) (X : List Int) (hs : a.eval s = .slice (some ⟨g, 0, none⟩) n cap) (h : M8 w g n cap X) (hn : n ≤ 1000) (G : Nat) (d : Int) (c : Nat) (hx : a.eval x = .slice (some ⟨G, 0, none⟩) 1 c) (hG : w.cell? ⟨G, 0, none⟩ = some (.int .u8 d))
    (hK : ∀ g' cap' w', M8 w' g' (n + 1) cap' (X ++ [d]) → Kept (fun b => b = g ∧ n < cap) w w' → (g' = g ∨ w.heap.size ≤ g') → wpList Try.prog ops Q rest (a.put o.dst (.slice (some ⟨g', 0, none⟩) (n + 1) cap')) w') : wpList Try.prog ops Q (o :: rest) a w := by
  refine wpList_step fun K hK' => ?_
  rw [if_pos hwt]
  obtain ⟨g', cap', w', hr, h2, h3, h4⟩ := run_app8 w o.type h hn G d c hG
  unfold Oper.wp execOp
  simp only [ho, resolve, invoke, builtin, Sem.run_bind, Sem.run_pure, Result.andThen_ok, List.map_toArray, List.map_cons, List.map_nil, hs, hx, hr]
  exact hK' _ _ (hK g' cap' w' h2 h3 h4)
theorem step_app8 {w : World} {ops : Array Oper} {o : Oper} {a : Act} {K : Act → World → Prop} {Q : Exit → Act → World → Prop} {E : Prop} (hwt : Region.wanted o (yielded ops a.tmps) = true) (s x : Operand)
    (ho : o.op = .call { callee := .builtin .append, args := #[s, x], argTypes := #[22, 22] })
    (g n cap : Nat) (X : List Int) (hs : a.eval s = .slice (some ⟨g, 0, none⟩) n cap) (h : M8 w g n cap X) (hn : n ≤ 1000) (G : Nat) (d : Int) (c : Nat) (hx : a.eval x = .slice (some ⟨G, 0, none⟩) 1 c) (hG : w.cell? ⟨G, 0, none⟩ = some (.int .u8 d))
    (hK : ∀ g' cap' w', M8 w' g' (n + 1) cap' (X ++ [d]) → Kept (fun b => b = g ∧ n < cap) w w' → (g' = g ∨ w.heap.size ≤ g') → K (a.put o.dst (.slice (some ⟨g', 0, none⟩) (n + 1) cap')) w') :
    if Region.wanted o (yielded ops a.tmps) = true then Oper.wp Try.prog o a w K Q else E := by
  rw [if_pos hwt]
  obtain ⟨g', cap', w', hr, h2, h3, h4⟩ := run_app8 w o.type h hn G d c hG
  unfold Oper.wp execOp
  simp only [ho, resolve, invoke, builtin, Sem.run_bind, Sem.run_pure, Result.andThen_ok, List.map_toArray, List.map_cons, List.map_nil, hs, hx, hr]
  exact hK g' cap' w' h2 h3 h4
/-- A call of a function of 1 argument, as one step of a region that draws its order. -/
theorem step_fun1 {P : Program} {w : World} {ops : Array Oper} {o : Oper} {a : Act} {K : Act → World → Prop} {Q : Exit → Act → World → Prop} {E : Prop} (hwt : Region.wanted o (yielded ops a.tmps) = true) (f : FuncId) (x0 : Operand) (ts : Array TypeId)
    (ho : o.op = .call { callee := .value (.func f), args := #[x0], argTypes := ts }) (u0 : Value) (h0 : a.eval x0 = u0) (hf : (callFunc f #[u0]).run P w = .ok (.enter f #[u0]) w) (v : Value) (R : World → Prop) (hc : Calls P f #[u0] w fun e w' => e = .returned v ∧ R w') (h : ∀ w', R w' → K (a.put o.dst v) w') :
    if Region.wanted o (yielded ops a.tmps) = true then Oper.wp P o a w K Q else E := by
  rw [if_pos hwt]
  unfold Oper.wp
  have hr : (execOp a.eval o).run P w = .ok (.enter f #[u0]) w := by
    have he : execOp a.eval o = callFunc f (#[] ++ #[x0].map a.eval ++ #[]) := by
      obtain ⟨_, _, _, _, _, _⟩ := o
      simp only at ho
      subst ho
      rfl
    rw [he]
    simp [h0, hf]
  rw [hr, Oper.upon_enter]
  refine hc.mono ?_
  rintro e w' ⟨rfl, hR⟩
  exact h w' hR
/-- A call of a function of 2 arguments, as one step of a region that draws its order. -/
theorem step_fun2 {P : Program} {w : World} {ops : Array Oper} {o : Oper} {a : Act} {K : Act → World → Prop} {Q : Exit → Act → World → Prop} {E : Prop} (hwt : Region.wanted o (yielded ops a.tmps) = true) (f : FuncId) (x0 x1 : Operand) (ts : Array TypeId)
    (ho : o.op = .call { callee := .value (.func f), args := #[x0, x1], argTypes := ts }) (u0 u1 : Value) (h0 : a.eval x0 = u0) (h1 : a.eval x1 = u1) (hf : (callFunc f #[u0, u1]).run P w = .ok (.enter f #[u0, u1]) w) (v : Value) (R : World → Prop) (hc : Calls P f #[u0, u1] w fun e w' => e = .returned v ∧ R w') (h : ∀ w', R w' → K (a.put o.dst v) w') :
    if Region.wanted o (yielded ops a.tmps) = true then Oper.wp P o a w K Q else E := by
  rw [if_pos hwt]
  unfold Oper.wp
  have hr : (execOp a.eval o).run P w = .ok (.enter f #[u0, u1]) w := by
    have he : execOp a.eval o = callFunc f (#[] ++ #[x0, x1].map a.eval ++ #[]) := by
      obtain ⟨_, _, _, _, _, _⟩ := o
      simp only at ho
      subst ho
      rfl
    rw [he]
    simp [h0, h1, hf]
  rw [hr, Oper.upon_enter]
  refine hc.mono ?_
  rintro e w' ⟨rfl, hR⟩
  exact h w' hR
/-- An append to a row that is full leaves all that was there. -/
theorem kept_full {g n : Nat} {w w' : World} (h : Kept (fun b => b = g ∧ n < n) w w') : Below w.heap.size w w' := h.below (Nat.le_refl _) (fun k hk => by omega)

end Go.Proofs.Ytnfdokcpjcnknaa

/- Names that are drawn: l11DrawName. Written by wip/mkds.py. No statement about the program stands here. -/
namespace Go.Proofs.Ytnfdokcpjcnknaa
open Go.RowKit

theorem wrap8d {x : Int} (h0 : 0 ≤ x) (h1 : x < 256) : IntKind.u8.wrap x = x := by rw [IntKind.wrap_u8']; omega

set_option maxRecDepth 10000 in
set_option maxHeartbeats 6400000 in
theorem l11DrawName_any (cb n : Nat) (v : Value) (w : World) (h : Cur w cb v n) (hn : n ≤ 1048576) :
    Calls Try.prog 53 #[.pointer (some ⟨cb, 0, none⟩)] w fun e w' => ∃ s : ByteArray, e = .returned (.string s) ∧ s.size = 11 ∧ Cur w' cb v n ∧ Kept (fun b => b = cb) w w' := by
  have hcl := h.lt
  have hA := Below.alloc1 w (.cells #[] 5)
  have HC := hide (h.below hA)
  have HK : Hid (Kept (fun b => b = cb ∨ w.heap.size ≤ b) w (w.alloc (.cells #[] 5))) := kept_of_below hA
  have HM : Hid (M8 (w.alloc (.cells #[] 5)) w.heap.size 0 0 []) := m8_lit w [] 0 0 0 rfl (Or.inr rfl) (by unfold maxLen; omega)
  have HB := hide fun W (hW : Cur W cb v n) k h0 h1 => l1Below_any cb n v k W hW hn h0 h1
  clear h hA
  go_enter Try.func53, Try.ntmps53
  go_wp2
  go_loopg [3, 4] 4 (fun gh bv iv wr => ∃ (k g cap : Nat) (X : List Int), k ≤ 4 ∧ gh = 4 - k ∧ iv = .int .i64 k ∧ bv = .slice (some ⟨g, 0, none⟩) k cap ∧ w.heap.size ≤ g ∧ Hid (M8 wr g k cap X) ∧ Hid (Cur wr cb v n) ∧ Hid (Kept (fun b => b = cb ∨ w.heap.size ≤ b) w wr))
  case atStart => exact ⟨0, w.heap.size, 0, [], by omega, rfl, rfl, rfl, Nat.le_refl _, unhide HM, unhide HC, unhide HK⟩
  case round =>
    clear HC HK HM
    obtain ⟨k, g, cap, X, hk4, rfl, rfl, rfl, hg, HM, HC, HK⟩ := hrel
    by_cases hlt : k < 4
    · have hki : (k : Int) < 4 := by omega
      go_wp2_with fail
      refine (unhide HB _ (unhide HC) _ (by omega) (by omega)).mono ?_
      rintro e w1 ⟨x, rfl, hx0, hx1, hc, hk⟩
      have hgl := (unhide HM).lt
      have hM := (unhide HM).kept hk (by omega)
      have hK := (unhide HK).trans (hk.mono (fun _ _ h => Or.inl h))
      have q1 : IntKind.i64.wrap (65 + x) = 65 + x := by rw [IntKind.wrap_i64]; omega
      have q2 : IntKind.u8.wrap (65 + x) = 65 + x := wrap8d (by omega) (by omega)
      have hB := Below.alloc1 w1 (.cells #[.int .u8 (65 + x)] 5)
      have HMa := hide (hM.below hB)
      have HCa := hide (hc.below hB)
      have HKa := hide (hK.trans (kept_of_below hB))
      have hcl2 := hc.lt
      have hgl2 := hM.lt
      have hsz := (unhide HKa).size
      have HGc : Hid ((w1.alloc (.cells #[.int .u8 (65 + x)] 5)).cell? ⟨w1.heap.size, 0, none⟩ = some (.int .u8 (65 + x))) := by show _ = _; simp
      clear HM HC HK hB hM hK hc hk
      simp only [World.size_alloc] at hsz
      go_wp2_with (at_builtin; go_must (refine wpList_app8 _ (by rfl) _ _ rfl g k cap X rfl (unhide HMa) (by omega) w1.heap.size (65 + x) 1 rfl (unhide HGc) ?_); intro g1 cap1 w3 hM hK hat; have HM1 := hide hM; have hg1 : w.heap.size ≤ g1 := (by simp only [World.size_alloc] at hat; omega); have HC1 := hide ((unhide HCa).kept hK (fun b h => by omega)); have HK1 := hide ((unhide HKa).trans (hK.mono (fun b _ h => Or.inr (by omega)))); clear hM hK hat HMa HCa HKa HGc)
      go_roundg (4 - (k + 1))
      case measure => omega
      case rel => exact ⟨k + 1, g1, cap1, _, by omega, rfl, by go_num, rfl, hg1, unhide HM1, unhide HC1, unhide HK1⟩
    · have hki : ¬ (k : Int) < 4 := by omega
      have hk : k = 4 := by omega
      subst hk
      clear hlt hk4 hki
      go_wp2
      go_loopg [3, 5] 6 (fun gh bv iv wr => ∃ (k m g cap : Nat) (X : List Int), m ≤ 10 ∧ k + 4 = m ∧ gh = 6 - k ∧ iv = .int .i64 k ∧ bv = .slice (some ⟨g, 0, none⟩) m cap ∧ w.heap.size ≤ g ∧ Hid (M8 wr g m cap X) ∧ Hid (Cur wr cb v n) ∧ Hid (Kept (fun b => b = cb ∨ w.heap.size ≤ b) w wr))
      case atStart => exact ⟨0, 4, g, cap, X, by omega, rfl, rfl, rfl, rfl, hg, unhide HM, unhide HC, unhide HK⟩
      case round =>
        clear HC HK HM hg
        obtain ⟨j, k, g, cap, X, hm10, hjm, rfl, rfl, rfl, hg, HM, HC, HK⟩ := hrel
        have HJ := hide hjm
        have hj6 : j ≤ 6 := by omega
        by_cases hlt : j < 6
        · have hki : (j : Int) < 6 := by omega
          have hk10 : k < 10 := by omega
          clear hjm
          go_wp2_with fail
          refine (unhide HB _ (unhide HC) _ (by omega) (by omega)).mono ?_
          rintro e w1 ⟨x, rfl, hx0, hx1, hc, hk⟩
          have hgl := (unhide HM).lt
          have hM := (unhide HM).kept hk (by omega)
          have hK := (unhide HK).trans (hk.mono (fun _ _ h => Or.inl h))
          have q1 : IntKind.i64.wrap (48 + x) = 48 + x := by rw [IntKind.wrap_i64]; omega
          have q2 : IntKind.u8.wrap (48 + x) = 48 + x := wrap8d (by omega) (by omega)
          have hB := Below.alloc1 w1 (.cells #[.int .u8 (48 + x)] 5)
          have HMa := hide (hM.below hB)
          have HCa := hide (hc.below hB)
          have HKa := hide (hK.trans (kept_of_below hB))
          have hcl2 := hc.lt
          have hgl2 := hM.lt
          have hsz := (unhide HKa).size
          have HGc : Hid ((w1.alloc (.cells #[.int .u8 (48 + x)] 5)).cell? ⟨w1.heap.size, 0, none⟩ = some (.int .u8 (48 + x))) := by show _ = _; simp
          clear HM HC HK hB hM hK hc hk
          simp only [World.size_alloc] at hsz
          go_wp2_with (at_builtin; go_must (refine wpList_app8 _ (by rfl) _ _ rfl g k cap X rfl (unhide HMa) (by omega) w1.heap.size (48 + x) 1 rfl (unhide HGc) ?_); intro g1 cap1 w3 hM hK hat; have HM1 := hide hM; have hg1 : w.heap.size ≤ g1 := (by simp only [World.size_alloc] at hat; omega); have HC1 := hide ((unhide HCa).kept hK (fun b h => by omega)); have HK1 := hide ((unhide HKa).trans (hK.mono (fun b _ h => Or.inr (by omega)))); clear hM hK hat HMa HCa HKa HGc)
          go_roundg (6 - (j + 1))
          case measure => omega
          case rel => exact ⟨j + 1, k + 1, g1, cap1, _, by omega, by have := unhide HJ; omega, rfl, by go_num, rfl, hg1, unhide HM1, unhide HC1, unhide HK1⟩
        · have hki : ¬ (j : Int) < 6 := by omega
          have hk : k = 10 := by omega
          subst hk
          clear hjm HJ
          have hcv := (unhide HM).text cap
          have hl := (unhide HM).len
          have HS := hide fun V => specCheckDigit_any (strOfNums X) V
          have hcd := cd_bd (strOfNums X)
          generalize cd (strOfNums X) = c at *
          have HSZ : Hid ((strOfNums (X ++ [48 + c])).size = 11) := by show _ = _; rw [strOfNums_size, List.length_append, hl]; rfl
          generalize strOfNums X = S at *
          obtain ⟨c0, c1⟩ := hcd
          clear hl
          go_wp2_with fail
          refine (unhide HS _).mono ?_
          rintro e w1 ⟨rfl, h9⟩
          have h9' := h9.symm
          subst h9'
          clear h9 HS hcv
          have q1 : IntKind.i64.wrap (48 + c) = 48 + c := by rw [IntKind.wrap_i64]; omega
          have q2 : IntKind.u8.wrap (48 + c) = 48 + c := wrap8d (by omega) (by omega)
          have hgl := (unhide HM).lt
          have hcl2 := (unhide HC).lt
          have hB := Below.alloc1 wr (.cells #[.int .u8 (48 + c)] 5)
          have HMa := hide ((unhide HM).below hB)
          have HCa := hide ((unhide HC).below hB)
          have HKa := hide ((unhide HK).trans (kept_of_below hB))
          have HGc : Hid ((wr.alloc (.cells #[.int .u8 (48 + c)] 5)).cell? ⟨wr.heap.size, 0, none⟩ = some (.int .u8 (48 + c))) := by show _ = _; simp
          clear HM HC HK hB
          go_wp2_with (at_builtin; go_must (refine wpList_app8 _ (by rfl) _ _ rfl g 10 cap X rfl (unhide HMa) (by omega) wr.heap.size (48 + c) 1 rfl (unhide HGc) ?_); intro g1 cap1 w3 hM hK hat; have hcv := hM.text cap1; simp only [Nat.reduceAdd] at hcv; have HC1 := hide ((unhide HCa).kept hK (fun b h => by omega)); have HK1 := hide ((unhide HKa).trans (hK.mono (fun b _ h => Or.inr (by omega)))); clear hM hK hat HMa HCa HKa HGc)
          generalize strOfNums (X ++ [48 + c]) = T at *
          go_wp2
          go_ret
          exact ⟨T, rfl, unhide HSZ, unhide HC1, (unhide HK1).mono (fun b hb h => h.resolve_right (by omega))⟩

end Go.Proofs.Ytnfdokcpjcnknaa

/- Names, texts and boxes that are drawn: l1Pick, l11DrawText, l11Draw, l11DrawAny. Written by wip/mkds.py. No statement about the program stands here. -/
namespace Go.Proofs.Ytnfdokcpjcnknaa
open Go.RowKit

def numsOf (s : ByteArray) : List Int := s.data.toList.map fun b => (b.toNat : Int)
theorem numsOf_len (s : ByteArray) : (numsOf s).length = s.size := by simp [numsOf]
/-- The bytes of a text, laid anew. -/
theorem m8_bytes (w : World) (s : ByteArray) (cap : Nat) (h1 : s.size ≤ cap) (h2 : cap ≤ maxLen) : M8 (w.alloc (.cells (bytesRow s cap) 5 ((bytesRow s cap).size, (bytesRow s cap).size + 1))) w.heap.size s.size cap (numsOf s) := by
  have hs : (bytesRow s cap).size = cap := by simp [bytesRow]; omega
  refine ⟨numsOf_len s, h1, h2, bytesRow s cap, _, _, Go.Deep.blk_alloc_new _ _, hs, Or.inl (by omega), fun i hi => ?_⟩
  rw [bytesRow_at s cap i hi]
  have e := Array.getElem?_eq_getElem (show i < s.data.size from hi)
  simp [numsOf, List.getD, e]

set_option maxHeartbeats 800000 in
theorem l1PickS_any (cb n : Nat) (v : Value) (g m : Nat) (L : List ByteArray) (w : World) (h : Cur w cb v n) (hn : n ≤ 1048576) (hx : OwnV w g (L.map Value.string)) (hg : g ≠ cb) (hm : L.length = m) (hm0 : 1 ≤ m) (hm1 : m ≤ 256) :
    Calls Try.prog 65 #[.pointer (some ⟨cb, 0, none⟩), .slice (some ⟨g, 0, none⟩) m m] w fun e w' => ∃ s, e = .returned (.string s) ∧ s ∈ L ∧ Cur w' cb v n ∧ Kept (fun b => b = cb) w w' := by
  have HB := hide (l1Below_any cb n v m w h hn (by omega) (by omega))
  have HX := hide hx
  have HM := hide hm
  clear h hx hm
  go_enter Try.func65, Try.ntmps65
  go_wp2_with fail
  refine (unhide HB).mono ?_
  rintro e w1 ⟨x, rfl, hx0, hx1, hc, hk⟩
  have HC := hide hc
  have HK := hide hk
  obtain ⟨j, rfl⟩ : ∃ j : Nat, x = (j : Int) := ⟨x.toNat, by omega⟩
  have hj : j < L.length := by rw [unhide HM]; omega
  have cj := ((unhide HX).kept hk hg).cell (i := j) (v := .string L[j]) (by simp [List.getElem?_eq_getElem hj])
  have HMem := hide (List.getElem_mem hj)
  generalize L[j] = s at *
  clear hc hk hj
  go_wp2
  go_ret
  exact ⟨_, rfl, unhide HMem, unhide HC, unhide HK⟩

set_option maxRecDepth 10000 in
set_option maxHeartbeats 6400000 in
theorem l11DrawText_any (cb n : Nat) (v : Value) (w : World) (h : Cur w cb v n) (hn : n ≤ 1048576) :
    Calls Try.prog 54 #[.pointer (some ⟨cb, 0, none⟩)] w fun e w' => ∃ s : ByteArray, e = .returned (.string s) ∧ Cur w' cb v n ∧ Kept (fun b => b = cb) w w' := by
  have hcl := h.lt
  have HN := hide (l11DrawName_any cb n v w h hn)
  have HB := hide fun W (hW : Cur W cb v n) k h0 h1 => l1Below_any cb n v k W hW hn h0 h1
  have HP := hide fun W (hW : Cur W cb v n) g m L => l1PickS_any cb n v g m L W hW hn
  clear h
  go_enter Try.func54, Try.ntmps54
  go_wp2_with fail
  refine (unhide HN).mono ?_
  rintro e w1 ⟨s, rfl, hs, hc, hk⟩
  have hcv := run_bytes_of_string (P := Try.prog) w1 9 22 5 s Try.underlying9 Try.underlying22 Try.underlying5
  have hcg := grownCap_ge w1 s.size 0 5
  have hcm := grownCap_le_maxLen w1 s.size 0 5 (by rw [hs]; unfold maxLen; omega)
  have hM := m8_bytes w1.drew s (grownCap w1 s.size 0 5) hcg hcm
  generalize grownCap w1 s.size 0 5 = cap at *
  rw [hs] at hcv hM hcg
  generalize bytesRow s cap = row at *
  have hB := (Below.alloc1 w1 (.cells row 5 (row.size, row.size + 1))).drew
  have HC := hide (hc.below hB)
  have HK := hide ((hk.mono (T' := fun b => b = cb ∨ w.heap.size ≤ b) (fun _ _ h => Or.inl h)).trans (kept_of_below hB))
  have hgw : w.heap.size ≤ w1.heap.size := hk.size
  have HM : Hid (M8 (w1.alloc (.cells row 5 (row.size, row.size + 1))).drew w1.heap.size 11 cap (numsOf s)) := hM.of_block rfl
  generalize numsOf s = X at *
  clear hs hc hk hM hB HN
  go_wp2_with fail
  clear hcv
  generalize (w1.alloc (.cells row 5 (row.size, row.size + 1))).drew = V at *
  obtain ⟨g, eg⟩ : ∃ g, g = w1.heap.size := ⟨_, rfl⟩
  rw [← eg] at HM hgw ⊢
  clear eg
  refine (unhide HB _ (unhide HC) _ (by omega) (by omega)).mono ?_
  rintro e w2 ⟨kx, rfl, hk0, hk1, hc, hk⟩
  have hgl := (unhide HM).lt
  replace HM := hide ((unhide HM).kept hk (by omega))
  replace HC := hide hc
  replace HK := hide ((unhide HK).trans (hk.mono (fun _ _ h => Or.inl h)))
  clear hc hk
  obtain ⟨k, rfl⟩ : ∃ k : Nat, kx = (k : Int) := ⟨kx.toNat, by omega⟩
  go_wp2_with fail
  refine (unhide HB _ (unhide HC) _ (by omega) (by omega)).mono ?_
  rintro e w3 ⟨x, rfl, hx0, hx1, hc, hk⟩
  have hgl := (unhide HM).lt
  replace HM := hide ((unhide HM).kept hk (by omega))
  replace HC := hide hc
  replace HK := hide ((unhide HK).trans (hk.mono (fun _ _ h => Or.inl h)))
  have hcl3 := (unhide HC).lt
  have hgl3 := (unhide HM).lt
  have hsz3 := (unhide HK).size
  clear hc hk
  have hxx : x = 0 ∨ x = 1 ∨ x = 2 ∨ x = 3 ∨ x = 4 := by omega
  have hkn : k < 11 := by omega
  rcases hxx with rfl | rfl | rfl | rfl | rfl
  · have hB := Below.alloc1 w3 (.cells #[.string ⟨#[97]⟩, .string ⟨#[48]⟩, .string ⟨#[90]⟩, .string ⟨#[32]⟩, .string ⟨#[53]⟩, .string ⟨#[75]⟩] 9)
    have HO : Hid (OwnV (w3.alloc (.cells #[.string ⟨#[97]⟩, .string ⟨#[48]⟩, .string ⟨#[90]⟩, .string ⟨#[32]⟩, .string ⟨#[53]⟩, .string ⟨#[75]⟩] 9)) w3.heap.size (List.map Value.string [⟨#[97]⟩, ⟨#[48]⟩, ⟨#[90]⟩, ⟨#[32]⟩, ⟨#[53]⟩, ⟨#[75]⟩])) := ownV_alloc w3 #[.string ⟨#[97]⟩, .string ⟨#[48]⟩, .string ⟨#[90]⟩, .string ⟨#[32]⟩, .string ⟨#[53]⟩, .string ⟨#[75]⟩] 9
    replace HM := hide ((unhide HM).below hB)
    replace HC := hide ((unhide HC).below hB)
    replace HK := hide ((unhide HK).trans (kept_of_below hB))
    clear hB
    go_wp2_with fail
    refine (unhide HP _ (unhide HC) _ 6 _ (unhide HO) (by omega) rfl (by omega) (by omega)).mono ?_
    rintro e w4 ⟨t, rfl, hmem, hc, hk⟩
    replace HM := hide ((unhide HM).kept hk (by omega))
    replace HK := hide ((unhide HK).trans (hk.mono (fun _ _ h => Or.inl h)))
    have hts : t.size = 1 := by
      simp only [List.mem_cons, List.not_mem_nil, or_false] at hmem
      rcases hmem with rfl | rfl | rfl | rfl | rfl | rfl <;> rfl
    have hix : ∀ V, (Instr.index 9 (.string t) (.int .i64 0)).run Try.prog V = .ok (.int .u8 (byt t 0)) V := fun V => by
      rw [run_index_string V _ _ _ _ Try.underlying9, dif_pos (by omega), ← byt_eq t 0 (by omega)]
      rfl
    generalize byt t 0 = y at *
    have c0 := (unhide HM).cell (i := k) hkn
    have f0 := (unhide HM).frozen (i := k) (by omega)
    have HMs := hide ((unhide HM).set (i := k) hkn y)
    have HCs := hide (hc.kept ((Kept.refl (fun b => b = g) w4).setCell (p := ⟨g, k, none⟩) rfl (.int .u8 y)) (fun b h => by omega))
    have HKs := hide ((unhide HK).setCell (p := ⟨g, k, none⟩) (Or.inr hgw) (.int .u8 y))
    have hcv := (unhide HMs).text cap
    have hki : (k : Int) < 11 := by omega
    clear HM HC HK hc hk hmem hts HP HO
    generalize X.getD k 0 = x0 at *
    generalize strOfNums (X.set k y) = T at *
    go_wp2
    go_ret
    exact ⟨T, rfl, unhide HCs, (unhide HKs).mono (fun b hb h => h.resolve_right (by omega))⟩
  · have hB := Below.alloc1 w3 (.cells #[.int .u8 48] 5)
    have HMa := hide ((unhide HM).below hB)
    have HCa := hide ((unhide HC).below hB)
    have HKa := hide ((unhide HK).trans (kept_of_below hB))
    have HGc : Hid ((w3.alloc (.cells #[.int .u8 48] 5)).cell? ⟨w3.heap.size, 0, none⟩ = some (.int .u8 48)) := by show _ = _; simp
    clear HM HC HK hB
    go_wp2_with (at_builtin; go_must (refine wpList_app8 _ (by rfl) _ _ rfl g 11 cap X rfl (unhide HMa) (by omega) w3.heap.size 48 1 rfl (unhide HGc) ?_); intro g1 cap1 w5 hM hK hat; have hcv := hM.text cap1; simp only [Nat.reduceAdd] at hcv; have HC1 := hide ((unhide HCa).kept hK (fun b h => by omega)); have HK1 := hide ((unhide HKa).trans (hK.mono (fun b _ h => Or.inr (by omega)))); generalize strOfNums (X ++ [48]) = T at hcv; clear hM hK hat HMa HCa HKa HGc)
    go_ret
    exact ⟨T, rfl, unhide HC1, (unhide HK1).mono (fun b hb h => h.resolve_right (by omega))⟩
  · have hcv := ((unhide HM).take (m := k) (by omega)).text cap
    have hki : (k : Int) ≤ 11 := by omega
    have hkc : (k : Int) ≤ cap := by omega
    generalize strOfNums (X.take k) = T at *
    go_wp2
    go_ret
    exact ⟨T, rfl, unhide HC, (unhide HK).mono (fun b hb h => h.resolve_right (by omega))⟩
  · go_wp2_with fail
    refine (unhide HB _ (unhide HC) _ (by omega) (by omega)).mono ?_
    rintro e w4 ⟨x, rfl, hx0, hx1, hc, hk⟩
    replace HM := hide ((unhide HM).kept hk (by omega))
    replace HK := hide ((unhide HK).trans (hk.mono (fun _ _ h => Or.inl h)))
    have q1 : IntKind.i64.wrap (48 + x) = 48 + x := by rw [IntKind.wrap_i64]; omega
    have q2 : IntKind.u8.wrap (48 + x) = 48 + x := wrap8d (by omega) (by omega)
    have c0 := (unhide HM).cell (i := 10) (by omega)
    have f0 := (unhide HM).frozen (i := 10) (by omega)
    have HMs := hide ((unhide HM).set (i := 10) (by omega) (48 + x))
    have HCs := hide (hc.kept ((Kept.refl (fun b => b = g) w4).setCell (p := ⟨g, 10, none⟩) rfl (.int .u8 (48 + x))) (fun b h => by omega))
    have HKs := hide ((unhide HK).setCell (p := ⟨g, 10, none⟩) (Or.inr hgw) (.int .u8 (48 + x)))
    have hcv := (unhide HMs).text cap
    clear HM HC HK hc hk
    generalize X.getD 10 0 = x0 at *
    generalize strOfNums (X.set 10 (48 + x)) = T at *
    go_wp2
    go_ret
    exact ⟨T, rfl, unhide HCs, (unhide HKs).mono (fun b hb h => h.resolve_right (by omega))⟩
  · have hcv := (unhide HM).text cap
    generalize strOfNums X = T at *
    go_wp2
    go_ret
    exact ⟨T, rfl, unhide HC, (unhide HK).mono (fun b hb h => h.resolve_right (by omega))⟩

end Go.Proofs.Ytnfdokcpjcnknaa

/- Boxes that are drawn: l11Draw. Written by wip/mkds.py. No statement about the program stands here. -/
namespace Go.Proofs.Ytnfdokcpjcnknaa
open Go.RowKit

set_option maxRecDepth 10000 in
set_option maxHeartbeats 6400000 in
theorem l11Draw_any (cb n : Nat) (v : Value) (w : World) (h : Cur w cb v n) (hn : n ≤ 1048576) :
    Calls Try.prog 32 #[.pointer (some ⟨cb, 0, none⟩)] w fun e w' => ∃ s wt cl co fr to, e = .returned (vBox s wt cl co fr to) ∧ Cur w' cb v n ∧ Kept (fun b => b = cb) w w' := by
  have hcl := h.lt
  have hA := Below.alloc1 w (.cells #[.string ⟨#[]⟩, .int .i64 0, .int .i64 0, .bool false, .int .i64 0, .int .i64 0] 36)
  have HC := hide (h.below hA)
  have HK : Hid (Kept (fun b => b = cb ∨ w.heap.size ≤ b) w (w.alloc (.cells #[.string ⟨#[]⟩, .int .i64 0, .int .i64 0, .bool false, .int .i64 0, .int .i64 0] 36))) := kept_of_below hA
  have HO := hide (ownV_alloc w #[.string ⟨#[]⟩, .int .i64 0, .int .i64 0, .bool false, .int .i64 0, .int .i64 0] 36)
  have HB := hide fun W (hW : Cur W cb v n) k h0 h1 => l1Below_any cb n v k W hW hn h0 h1
  have HQ := hide fun W (hW : Cur W cb v n) k h0 h1 => l1Once_any cb n v k W hW hn h0 h1
  have HN := hide fun W (hW : Cur W cb v n) => l11DrawName_any cb n v W hW hn
  clear h hA
  go_enter Try.func32, Try.ntmps32
  go_wp2_with fail
  refine (unhide HB _ (unhide HC) _ (by omega) (by omega)).mono ?_
  rintro e w1 ⟨x1, rfl, x1a, x1b, hc, hk⟩
  replace HC := hide hc
  replace HO := hide ((unhide HO).kept hk (by omega))
  replace HK := hide ((unhide HK).trans (hk.mono (fun _ _ h => Or.inl h)))
  clear hc hk
  go_wp2_with fail
  refine (unhide HN _ (unhide HC)).mono ?_
  rintro e w2 ⟨s, rfl, hs, hc, hk⟩
  replace HC := hide hc
  replace HO := hide ((unhide HO).kept hk (by omega))
  replace HK := hide ((unhide HK).trans (hk.mono (fun _ _ h => Or.inl h)))
  clear hc hk hs
  go_wp2_with fail
  refine (unhide HB _ (unhide HC) _ (by omega) (by omega)).mono ?_
  rintro e w3 ⟨x3, rfl, x3a, x3b, hc, hk⟩
  replace HC := hide hc
  replace HO := hide ((unhide HO).kept hk (by omega))
  replace HK := hide ((unhide HK).trans (hk.mono (fun _ _ h => Or.inl h)))
  clear hc hk
  go_wp2_with fail
  refine (unhide HB _ (unhide HC) _ (by omega) (by omega)).mono ?_
  rintro e w4 ⟨x4, rfl, x4a, x4b, hc, hk⟩
  replace HC := hide hc
  replace HO := hide ((unhide HO).kept hk (by omega))
  replace HK := hide ((unhide HK).trans (hk.mono (fun _ _ h => Or.inl h)))
  clear hc hk
  have hs4 := (unhide HK).size
  have ho4 := (unhide HO).lt
  have hA := Below.alloc1 w4 (.cells #[.string s, .int .i64 (1 + x3), .int .i64 0, .bool false, .int .i64 x1, .int .i64 (x1 + 1 + x4)] 36)
  have HX := hide (ownV_alloc w4 #[.string s, .int .i64 (1 + x3), .int .i64 0, .bool false, .int .i64 x1, .int .i64 (x1 + 1 + x4)] 36)
  replace HC := hide ((unhide HC).below hA)
  replace HO := hide ((unhide HO).step hA)
  replace HK := hide ((unhide HK).trans (kept_of_below hA))
  clear hA
  have hx4 := (unhide HX).lt
  have hl4 := (unhide HC).lt
  simp only [World.size_alloc] at hx4 hl4
  go_wp2_with fail
  refine (unhide HQ _ (unhide HC) _ (by omega) (by omega)).mono ?_
  rintro e w5 ⟨q5, rfl, hc, hk⟩
  replace HC := hide hc
  replace HO := hide ((unhide HO).kept hk (by omega))
  replace HX := hide ((unhide HX).kept hk (by omega))
  replace HK := hide ((unhide HK).trans (hk.mono (fun _ _ h => Or.inl h)))
  clear hc hk
  generalize 1 + x3 = f1 at *
  generalize x1 + 1 + x4 = f5 at *
  cases q5 with
  | true =>
    go_wp2_with fail
    refine (unhide HB _ (unhide HC) _ (by omega) (by omega)).mono ?_
    rintro e w6 ⟨x6, rfl, x6a, x6b, hc, hk⟩
    replace HC := hide hc
    replace HO := hide ((unhide HO).kept hk (by omega))
    replace HX := hide ((unhide HX).kept hk (by omega))
    replace HK := hide ((unhide HK).trans (hk.mono (fun _ _ h => Or.inl h)))
    clear hc hk
    have kc := (unhide HX).cell (i := 2) rfl
    have kf := (unhide HX).frozen 2
    have hS := (Kept.refl (fun b => b = w4.heap.size) w6).setCell (p := ⟨w4.heap.size, 2, none⟩) rfl (.int .i64 x6)
    have HX2 := hide ((unhide HX).set 2 (.int .i64 x6) (by simp))
    have HO2 := hide ((unhide HO).kept hS (by omega))
    have HC2 := hide ((unhide HC).kept hS (fun b h => by omega))
    have HK2 := hide ((unhide HK).setCell (p := ⟨w4.heap.size, 2, none⟩) (Or.inr (by omega)) (.int .i64 x6))
    generalize hV : w6.setCell ⟨w4.heap.size, 2, none⟩ (.int .i64 x6) = V6 at HX2 HO2 HC2 HK2
    clear hS HX HC HK HO
    simp only [List.set_cons_zero, List.set_cons_succ] at HX2
    have HX := HX2
    have HO := HO2
    have HC := HC2
    have HK := HK2
    clear HX2 HO2 HC2 HK2
    go_wp2_with fail
    clear hV kc kf
    refine (unhide HQ _ (unhide HC) _ (by omega) (by omega)).mono ?_
    rintro e w7 ⟨q7, rfl, hc, hk⟩
    replace HC := hide hc
    replace HO := hide ((unhide HO).kept hk (by omega))
    replace HX := hide ((unhide HX).kept hk (by omega))
    replace HK := hide ((unhide HK).trans (hk.mono (fun _ _ h => Or.inl h)))
    clear hc hk
    have kc := (unhide HX).cell (i := 3) rfl
    have kf := (unhide HX).frozen 3
    have hS := (Kept.refl (fun b => b = w4.heap.size) w7).setCell (p := ⟨w4.heap.size, 3, none⟩) rfl (.bool q7)
    have HX2 := hide ((unhide HX).set 3 (.bool q7) (by simp))
    have HO2 := hide ((unhide HO).kept hS (by omega))
    have HC2 := hide ((unhide HC).kept hS (fun b h => by omega))
    have HK2 := hide ((unhide HK).setCell (p := ⟨w4.heap.size, 3, none⟩) (Or.inr (by omega)) (.bool q7))
    generalize hV : w7.setCell ⟨w4.heap.size, 3, none⟩ (.bool q7) = V at HX2 HO2 HC2 HK2
    clear hS HX HC HK HO
    simp only [List.set_cons_zero, List.set_cons_succ] at HX2
    have HX := HX2
    have HO := HO2
    have HC := HC2
    have HK := HK2
    clear HX2 HO2 HC2 HK2
    have d0 := (unhide HO).cell (i := 0) rfl
    have df0 := (unhide HO).frozen 0
    have e0 := (unhide HX).cell (i := 0) rfl
    have d1 := (unhide HO).cell (i := 1) rfl
    have df1 := (unhide HO).frozen 1
    have e1 := (unhide HX).cell (i := 1) rfl
    have d2 := (unhide HO).cell (i := 2) rfl
    have df2 := (unhide HO).frozen 2
    have e2 := (unhide HX).cell (i := 2) rfl
    have d3 := (unhide HO).cell (i := 3) rfl
    have df3 := (unhide HO).frozen 3
    have e3 := (unhide HX).cell (i := 3) rfl
    have d4 := (unhide HO).cell (i := 4) rfl
    have df4 := (unhide HO).frozen 4
    have e4 := (unhide HX).cell (i := 4) rfl
    have d5 := (unhide HO).cell (i := 5) rfl
    have df5 := (unhide HO).frozen 5
    have e5 := (unhide HX).cell (i := 5) rfl
    have hKf := ((((((Kept.refl (fun b => b = w.heap.size) V).setCell (p := ⟨w.heap.size, 0, none⟩) rfl (.string s)).setCell (p := ⟨w.heap.size, 1, none⟩) rfl (.int .i64 f1)).setCell (p := ⟨w.heap.size, 2, none⟩) rfl (.int .i64 x6)).setCell (p := ⟨w.heap.size, 3, none⟩) rfl (.bool q7)).setCell (p := ⟨w.heap.size, 4, none⟩) rfl (.int .i64 x1)).setCell (p := ⟨w.heap.size, 5, none⟩) rfl (.int .i64 f5)
    have HOf := hide ((((((unhide HO).set 0 (.string s) (by simp)).set 1 (.int .i64 f1) (by simp)).set 2 (.int .i64 x6) (by simp)).set 3 (.bool q7) (by simp)).set 4 (.int .i64 x1) (by simp) |>.set 5 (.int .i64 f5) (by simp))
    have HCf := hide ((unhide HC).kept hKf (fun b h => by omega))
    have HKf := hide ((unhide HK).trans (hKf.mono (fun b _ h => Or.inr (by omega))))
    clear hKf
    have k0 := (unhide HOf).cell (i := 0) rfl
    have k1 := (unhide HOf).cell (i := 1) rfl
    have k2 := (unhide HOf).cell (i := 2) rfl
    have k3 := (unhide HOf).cell (i := 3) rfl
    have k4 := (unhide HOf).cell (i := 4) rfl
    have k5 := (unhide HOf).cell (i := 5) rfl
    go_wp2
    refine bodyPost_ret (v := vBox s f1 x6 q7 x1 f5) (by simp [results, Try.results32, go_sem, vBox, k0, k1, k2, k3, k4, k5]) rfl ⟨_, _, _, _, _, _, rfl, unhide HCf, (unhide HKf).mono (fun b hb h => h.resolve_right (by omega))⟩
  | false =>
    go_wp2_with fail
    refine (unhide HQ _ (unhide HC) _ (by omega) (by omega)).mono ?_
    rintro e w7 ⟨q7, rfl, hc, hk⟩
    replace HC := hide hc
    replace HO := hide ((unhide HO).kept hk (by omega))
    replace HX := hide ((unhide HX).kept hk (by omega))
    replace HK := hide ((unhide HK).trans (hk.mono (fun _ _ h => Or.inl h)))
    clear hc hk
    have kc := (unhide HX).cell (i := 3) rfl
    have kf := (unhide HX).frozen 3
    have hS := (Kept.refl (fun b => b = w4.heap.size) w7).setCell (p := ⟨w4.heap.size, 3, none⟩) rfl (.bool q7)
    have HX2 := hide ((unhide HX).set 3 (.bool q7) (by simp))
    have HO2 := hide ((unhide HO).kept hS (by omega))
    have HC2 := hide ((unhide HC).kept hS (fun b h => by omega))
    have HK2 := hide ((unhide HK).setCell (p := ⟨w4.heap.size, 3, none⟩) (Or.inr (by omega)) (.bool q7))
    generalize hV : w7.setCell ⟨w4.heap.size, 3, none⟩ (.bool q7) = V at HX2 HO2 HC2 HK2
    clear hS HX HC HK HO
    simp only [List.set_cons_zero, List.set_cons_succ] at HX2
    have HX := HX2
    have HO := HO2
    have HC := HC2
    have HK := HK2
    clear HX2 HO2 HC2 HK2
    have d0 := (unhide HO).cell (i := 0) rfl
    have df0 := (unhide HO).frozen 0
    have e0 := (unhide HX).cell (i := 0) rfl
    have d1 := (unhide HO).cell (i := 1) rfl
    have df1 := (unhide HO).frozen 1
    have e1 := (unhide HX).cell (i := 1) rfl
    have d2 := (unhide HO).cell (i := 2) rfl
    have df2 := (unhide HO).frozen 2
    have e2 := (unhide HX).cell (i := 2) rfl
    have d3 := (unhide HO).cell (i := 3) rfl
    have df3 := (unhide HO).frozen 3
    have e3 := (unhide HX).cell (i := 3) rfl
    have d4 := (unhide HO).cell (i := 4) rfl
    have df4 := (unhide HO).frozen 4
    have e4 := (unhide HX).cell (i := 4) rfl
    have d5 := (unhide HO).cell (i := 5) rfl
    have df5 := (unhide HO).frozen 5
    have e5 := (unhide HX).cell (i := 5) rfl
    have hKf := ((((((Kept.refl (fun b => b = w.heap.size) V).setCell (p := ⟨w.heap.size, 0, none⟩) rfl (.string s)).setCell (p := ⟨w.heap.size, 1, none⟩) rfl (.int .i64 f1)).setCell (p := ⟨w.heap.size, 2, none⟩) rfl (.int .i64 0)).setCell (p := ⟨w.heap.size, 3, none⟩) rfl (.bool q7)).setCell (p := ⟨w.heap.size, 4, none⟩) rfl (.int .i64 x1)).setCell (p := ⟨w.heap.size, 5, none⟩) rfl (.int .i64 f5)
    have HOf := hide ((((((unhide HO).set 0 (.string s) (by simp)).set 1 (.int .i64 f1) (by simp)).set 2 (.int .i64 0) (by simp)).set 3 (.bool q7) (by simp)).set 4 (.int .i64 x1) (by simp) |>.set 5 (.int .i64 f5) (by simp))
    have HCf := hide ((unhide HC).kept hKf (fun b h => by omega))
    have HKf := hide ((unhide HK).trans (hKf.mono (fun b _ h => Or.inr (by omega))))
    clear hKf
    have k0 := (unhide HOf).cell (i := 0) rfl
    have k1 := (unhide HOf).cell (i := 1) rfl
    have k2 := (unhide HOf).cell (i := 2) rfl
    have k3 := (unhide HOf).cell (i := 3) rfl
    have k4 := (unhide HOf).cell (i := 4) rfl
    have k5 := (unhide HOf).cell (i := 5) rfl
    go_wp2
    refine bodyPost_ret (v := vBox s f1 0 q7 x1 f5) (by simp [results, Try.results32, go_sem, vBox, k0, k1, k2, k3, k4, k5]) rfl ⟨_, _, _, _, _, _, rfl, unhide HCf, (unhide HKf).mono (fun b hb h => h.resolve_right (by omega))⟩

end Go.Proofs.Ytnfdokcpjcnknaa

/- Boxes that are drawn: l11DrawAny. Written by wip/mkds.py. No statement about the program stands here. -/
namespace Go.Proofs.Ytnfdokcpjcnknaa
open Go.RowKit

set_option maxRecDepth 10000 in
set_option maxHeartbeats 6400000 in
theorem l11DrawAny_any (cb n : Nat) (v : Value) (w : World) (h : Cur w cb v n) (hn : n ≤ 1048576) :
    Calls Try.prog 35 #[.pointer (some ⟨cb, 0, none⟩)] w fun e w' => ∃ s wt cl co fr to, e = .returned (vBox s wt cl co fr to) ∧ Cur w' cb v n ∧ Kept (fun b => b = cb) w w' := by
  have hcl := h.lt
  have hA := Below.alloc1 w (.cells #[.string ⟨#[]⟩, .int .i64 0, .int .i64 0, .bool false, .int .i64 0, .int .i64 0] 36)
  have HC := hide (h.below hA)
  have HK : Hid (Kept (fun b => b = cb ∨ w.heap.size ≤ b) w (w.alloc (.cells #[.string ⟨#[]⟩, .int .i64 0, .int .i64 0, .bool false, .int .i64 0, .int .i64 0] 36))) := kept_of_below hA
  have HO := hide (ownV_alloc w #[.string ⟨#[]⟩, .int .i64 0, .int .i64 0, .bool false, .int .i64 0, .int .i64 0] 36)
  have HB := hide fun W (hW : Cur W cb v n) k h0 h1 => l1Below_any cb n v k W hW hn h0 h1
  have HP := hide fun W (hW : Cur W cb v n) g m xs => l1PickInt_any cb n v g m xs W hW hn
  have HD := hide fun W (hW : Cur W cb v n) => l11Draw_any cb n v W hW hn
  have HT := hide fun W (hW : Cur W cb v n) => l11DrawText_any cb n v W hW hn
  clear h hA
  go_enter Try.func35, Try.ntmps35
  go_wp2_with fail
  refine (unhide HD _ (unhide HC)).mono ?_
  rintro e w1 ⟨s, wt, cl, co, fr, to, rfl, hc, hk⟩
  replace HC := hide hc
  replace HO := hide ((unhide HO).kept hk (by omega))
  replace HK := hide ((unhide HK).trans (hk.mono (fun _ _ h => Or.inl h)))
  clear hc hk HD
  unfold vBox
  have hs1 := (unhide HK).size
  have ho1 := (unhide HO).lt
  have hA := Below.alloc1 w1 (.cells #[.string s, .int .i64 wt, .int .i64 cl, .bool co, .int .i64 fr, .int .i64 to] 36)
  have HX := hide (ownV_alloc w1 #[.string s, .int .i64 wt, .int .i64 cl, .bool co, .int .i64 fr, .int .i64 to] 36)
  replace HC := hide ((unhide HC).below hA)
  replace HO := hide ((unhide HO).step hA)
  replace HK := hide ((unhide HK).trans (kept_of_below hA))
  clear hA
  have hx1 := (unhide HX).lt
  have hl1 := (unhide HC).lt
  simp only [World.size_alloc] at hx1 hl1
  go_wp2_with fail
  refine (unhide HB _ (unhide HC) _ (by omega) (by omega)).mono ?_
  rintro e w2 ⟨x2, rfl, x2a, x2b, hc, hk⟩
  replace HC := hide hc
  replace HO := hide ((unhide HO).kept hk (by omega))
  replace HX := hide ((unhide HX).kept hk (by omega))
  replace HK := hide ((unhide HK).trans (hk.mono (fun _ _ h => Or.inl h)))
  clear hc hk
  have hl2 := (unhide HC).lt
  have hx2 := (unhide HX).lt
  have ho2 := (unhide HO).lt
  have hxx : x2 = 0 ∨ x2 = 1 ∨ x2 = 2 ∨ x2 = 3 ∨ x2 = 4 ∨ 4 < x2 := by omega
  rcases hxx with rfl | rfl | rfl | rfl | rfl | hx
  · go_wp2_with fail
    refine (unhide HT _ (unhide HC)).mono ?_
    rintro e w3 ⟨y, rfl, hc, hk⟩
    replace HC := hide hc
    replace HO := hide ((unhide HO).kept hk (by omega))
    replace HX := hide ((unhide HX).kept hk (by omega))
    replace HK := hide ((unhide HK).trans (hk.mono (fun _ _ h => Or.inl h)))
    clear hc hk HB HP HT
    have kc := (unhide HX).cell (i := 0) rfl
    have kf := (unhide HX).frozen 0
    have hS := (Kept.refl (fun b => b = w1.heap.size) w3).setCell (p := ⟨w1.heap.size, 0, none⟩) rfl (.string y)
    have HX2 := hide ((unhide HX).set 0 (.string y) (by simp))
    have HO2 := hide ((unhide HO).kept hS (by omega))
    have HC2 := hide ((unhide HC).kept hS (fun b h => by omega))
    have HK2 := hide ((unhide HK).setCell (p := ⟨w1.heap.size, 0, none⟩) (Or.inr (by omega)) (.string y))
    generalize hV : w3.setCell ⟨w1.heap.size, 0, none⟩ (.string y) = V at HX2 HO2 HC2 HK2
    clear hS HX HC HK HO
    simp only [List.set_cons_zero] at HX2
    have HX := HX2
    have HO := HO2
    have HC := HC2
    have HK := HK2
    clear HX2 HO2 HC2 HK2
    have d0 := (unhide HO).cell (i := 0) rfl
    have df0 := (unhide HO).frozen 0
    have e0 := (unhide HX).cell (i := 0) rfl
    have d1 := (unhide HO).cell (i := 1) rfl
    have df1 := (unhide HO).frozen 1
    have e1 := (unhide HX).cell (i := 1) rfl
    have d2 := (unhide HO).cell (i := 2) rfl
    have df2 := (unhide HO).frozen 2
    have e2 := (unhide HX).cell (i := 2) rfl
    have d3 := (unhide HO).cell (i := 3) rfl
    have df3 := (unhide HO).frozen 3
    have e3 := (unhide HX).cell (i := 3) rfl
    have d4 := (unhide HO).cell (i := 4) rfl
    have df4 := (unhide HO).frozen 4
    have e4 := (unhide HX).cell (i := 4) rfl
    have d5 := (unhide HO).cell (i := 5) rfl
    have df5 := (unhide HO).frozen 5
    have e5 := (unhide HX).cell (i := 5) rfl
    have hKf := ((((((Kept.refl (fun b => b = w.heap.size) V).setCell (p := ⟨w.heap.size, 0, none⟩) rfl (.string y)).setCell (p := ⟨w.heap.size, 1, none⟩) rfl (.int .i64 wt)).setCell (p := ⟨w.heap.size, 2, none⟩) rfl (.int .i64 cl)).setCell (p := ⟨w.heap.size, 3, none⟩) rfl (.bool co)).setCell (p := ⟨w.heap.size, 4, none⟩) rfl (.int .i64 fr)).setCell (p := ⟨w.heap.size, 5, none⟩) rfl (.int .i64 to)
    have HOf := hide ((((((unhide HO).set 0 (.string y) (by simp)).set 1 (.int .i64 wt) (by simp)).set 2 (.int .i64 cl) (by simp)).set 3 (.bool co) (by simp)).set 4 (.int .i64 fr) (by simp) |>.set 5 (.int .i64 to) (by simp))
    have HCf := hide ((unhide HC).kept hKf (fun b h => by omega))
    have HKf := hide ((unhide HK).trans (hKf.mono (fun b _ h => Or.inr (by omega))))
    clear hKf
    have k0 := (unhide HOf).cell (i := 0) rfl
    have k1 := (unhide HOf).cell (i := 1) rfl
    have k2 := (unhide HOf).cell (i := 2) rfl
    have k3 := (unhide HOf).cell (i := 3) rfl
    have k4 := (unhide HOf).cell (i := 4) rfl
    have k5 := (unhide HOf).cell (i := 5) rfl
    go_wp2
    refine bodyPost_ret (v := vBox y wt cl co fr to) (by simp [results, Try.results35, go_sem, vBox, k0, k1, k2, k3, k4, k5]) rfl ⟨_, _, _, _, _, _, rfl, unhide HCf, (unhide HKf).mono (fun b hb h => h.resolve_right (by omega))⟩
  · have hA := Below.alloc1 w2 (.cells #[.int .i64 (0), .int .i64 (40000), .int .i64 (40001), .int .i64 (-1)] 3)
    have HY : Hid (OwnV (w2.alloc (.cells #[.int .i64 (0), .int .i64 (40000), .int .i64 (40001), .int .i64 (-1)] 3)) w2.heap.size (ints [0, 40000, 40001, -1])) := ownV_alloc w2 #[.int .i64 (0), .int .i64 (40000), .int .i64 (40001), .int .i64 (-1)] 3
    replace HC := hide ((unhide HC).below hA)
    replace HO := hide ((unhide HO).step hA)
    replace HX := hide ((unhide HX).step hA)
    replace HK := hide ((unhide HK).trans (kept_of_below hA))
    clear hA
    go_wp2_with fail
    refine (unhide HP _ (unhide HC) _ 4 _ (unhide HY) (by omega) rfl (by omega) (by omega)).mono ?_
    rintro e w3 ⟨y, rfl, hc, hk⟩
    clear HY
    replace HC := hide hc
    replace HO := hide ((unhide HO).kept hk (by omega))
    replace HX := hide ((unhide HX).kept hk (by omega))
    replace HK := hide ((unhide HK).trans (hk.mono (fun _ _ h => Or.inl h)))
    clear hc hk HB HP HT
    have kc := (unhide HX).cell (i := 1) rfl
    have kf := (unhide HX).frozen 1
    have hS := (Kept.refl (fun b => b = w1.heap.size) w3).setCell (p := ⟨w1.heap.size, 1, none⟩) rfl (.int .i64 y)
    have HX2 := hide ((unhide HX).set 1 (.int .i64 y) (by simp))
    have HO2 := hide ((unhide HO).kept hS (by omega))
    have HC2 := hide ((unhide HC).kept hS (fun b h => by omega))
    have HK2 := hide ((unhide HK).setCell (p := ⟨w1.heap.size, 1, none⟩) (Or.inr (by omega)) (.int .i64 y))
    generalize hV : w3.setCell ⟨w1.heap.size, 1, none⟩ (.int .i64 y) = V at HX2 HO2 HC2 HK2
    clear hS HX HC HK HO
    simp only [List.set_cons_zero, List.set_cons_succ] at HX2
    have HX := HX2
    have HO := HO2
    have HC := HC2
    have HK := HK2
    clear HX2 HO2 HC2 HK2
    have d0 := (unhide HO).cell (i := 0) rfl
    have df0 := (unhide HO).frozen 0
    have e0 := (unhide HX).cell (i := 0) rfl
    have d1 := (unhide HO).cell (i := 1) rfl
    have df1 := (unhide HO).frozen 1
    have e1 := (unhide HX).cell (i := 1) rfl
    have d2 := (unhide HO).cell (i := 2) rfl
    have df2 := (unhide HO).frozen 2
    have e2 := (unhide HX).cell (i := 2) rfl
    have d3 := (unhide HO).cell (i := 3) rfl
    have df3 := (unhide HO).frozen 3
    have e3 := (unhide HX).cell (i := 3) rfl
    have d4 := (unhide HO).cell (i := 4) rfl
    have df4 := (unhide HO).frozen 4
    have e4 := (unhide HX).cell (i := 4) rfl
    have d5 := (unhide HO).cell (i := 5) rfl
    have df5 := (unhide HO).frozen 5
    have e5 := (unhide HX).cell (i := 5) rfl
    have hKf := ((((((Kept.refl (fun b => b = w.heap.size) V).setCell (p := ⟨w.heap.size, 0, none⟩) rfl (.string s)).setCell (p := ⟨w.heap.size, 1, none⟩) rfl (.int .i64 y)).setCell (p := ⟨w.heap.size, 2, none⟩) rfl (.int .i64 cl)).setCell (p := ⟨w.heap.size, 3, none⟩) rfl (.bool co)).setCell (p := ⟨w.heap.size, 4, none⟩) rfl (.int .i64 fr)).setCell (p := ⟨w.heap.size, 5, none⟩) rfl (.int .i64 to)
    have HOf := hide ((((((unhide HO).set 0 (.string s) (by simp)).set 1 (.int .i64 y) (by simp)).set 2 (.int .i64 cl) (by simp)).set 3 (.bool co) (by simp)).set 4 (.int .i64 fr) (by simp) |>.set 5 (.int .i64 to) (by simp))
    have HCf := hide ((unhide HC).kept hKf (fun b h => by omega))
    have HKf := hide ((unhide HK).trans (hKf.mono (fun b _ h => Or.inr (by omega))))
    clear hKf
    have k0 := (unhide HOf).cell (i := 0) rfl
    have k1 := (unhide HOf).cell (i := 1) rfl
    have k2 := (unhide HOf).cell (i := 2) rfl
    have k3 := (unhide HOf).cell (i := 3) rfl
    have k4 := (unhide HOf).cell (i := 4) rfl
    have k5 := (unhide HOf).cell (i := 5) rfl
    go_wp2
    refine bodyPost_ret (v := vBox s y cl co fr to) (by simp [results, Try.results35, go_sem, vBox, k0, k1, k2, k3, k4, k5]) rfl ⟨_, _, _, _, _, _, rfl, unhide HCf, (unhide HKf).mono (fun b hb h => h.resolve_right (by omega))⟩
  · have hA := Below.alloc1 w2 (.cells #[.int .i64 (-1), .int .i64 (9), .int .i64 (10)] 3)
    have HY : Hid (OwnV (w2.alloc (.cells #[.int .i64 (-1), .int .i64 (9), .int .i64 (10)] 3)) w2.heap.size (ints [-1, 9, 10])) := ownV_alloc w2 #[.int .i64 (-1), .int .i64 (9), .int .i64 (10)] 3
    replace HC := hide ((unhide HC).below hA)
    replace HO := hide ((unhide HO).step hA)
    replace HX := hide ((unhide HX).step hA)
    replace HK := hide ((unhide HK).trans (kept_of_below hA))
    clear hA
    go_wp2_with fail
    refine (unhide HP _ (unhide HC) _ 3 _ (unhide HY) (by omega) rfl (by omega) (by omega)).mono ?_
    rintro e w3 ⟨y, rfl, hc, hk⟩
    clear HY
    replace HC := hide hc
    replace HO := hide ((unhide HO).kept hk (by omega))
    replace HX := hide ((unhide HX).kept hk (by omega))
    replace HK := hide ((unhide HK).trans (hk.mono (fun _ _ h => Or.inl h)))
    clear hc hk HB HP HT
    have kc := (unhide HX).cell (i := 2) rfl
    have kf := (unhide HX).frozen 2
    have hS := (Kept.refl (fun b => b = w1.heap.size) w3).setCell (p := ⟨w1.heap.size, 2, none⟩) rfl (.int .i64 y)
    have HX2 := hide ((unhide HX).set 2 (.int .i64 y) (by simp))
    have HO2 := hide ((unhide HO).kept hS (by omega))
    have HC2 := hide ((unhide HC).kept hS (fun b h => by omega))
    have HK2 := hide ((unhide HK).setCell (p := ⟨w1.heap.size, 2, none⟩) (Or.inr (by omega)) (.int .i64 y))
    generalize hV : w3.setCell ⟨w1.heap.size, 2, none⟩ (.int .i64 y) = V at HX2 HO2 HC2 HK2
    clear hS HX HC HK HO
    simp only [List.set_cons_zero, List.set_cons_succ] at HX2
    have HX := HX2
    have HO := HO2
    have HC := HC2
    have HK := HK2
    clear HX2 HO2 HC2 HK2
    have d0 := (unhide HO).cell (i := 0) rfl
    have df0 := (unhide HO).frozen 0
    have e0 := (unhide HX).cell (i := 0) rfl
    have d1 := (unhide HO).cell (i := 1) rfl
    have df1 := (unhide HO).frozen 1
    have e1 := (unhide HX).cell (i := 1) rfl
    have d2 := (unhide HO).cell (i := 2) rfl
    have df2 := (unhide HO).frozen 2
    have e2 := (unhide HX).cell (i := 2) rfl
    have d3 := (unhide HO).cell (i := 3) rfl
    have df3 := (unhide HO).frozen 3
    have e3 := (unhide HX).cell (i := 3) rfl
    have d4 := (unhide HO).cell (i := 4) rfl
    have df4 := (unhide HO).frozen 4
    have e4 := (unhide HX).cell (i := 4) rfl
    have d5 := (unhide HO).cell (i := 5) rfl
    have df5 := (unhide HO).frozen 5
    have e5 := (unhide HX).cell (i := 5) rfl
    have hKf := ((((((Kept.refl (fun b => b = w.heap.size) V).setCell (p := ⟨w.heap.size, 0, none⟩) rfl (.string s)).setCell (p := ⟨w.heap.size, 1, none⟩) rfl (.int .i64 wt)).setCell (p := ⟨w.heap.size, 2, none⟩) rfl (.int .i64 y)).setCell (p := ⟨w.heap.size, 3, none⟩) rfl (.bool co)).setCell (p := ⟨w.heap.size, 4, none⟩) rfl (.int .i64 fr)).setCell (p := ⟨w.heap.size, 5, none⟩) rfl (.int .i64 to)
    have HOf := hide ((((((unhide HO).set 0 (.string s) (by simp)).set 1 (.int .i64 wt) (by simp)).set 2 (.int .i64 y) (by simp)).set 3 (.bool co) (by simp)).set 4 (.int .i64 fr) (by simp) |>.set 5 (.int .i64 to) (by simp))
    have HCf := hide ((unhide HC).kept hKf (fun b h => by omega))
    have HKf := hide ((unhide HK).trans (hKf.mono (fun b _ h => Or.inr (by omega))))
    clear hKf
    have k0 := (unhide HOf).cell (i := 0) rfl
    have k1 := (unhide HOf).cell (i := 1) rfl
    have k2 := (unhide HOf).cell (i := 2) rfl
    have k3 := (unhide HOf).cell (i := 3) rfl
    have k4 := (unhide HOf).cell (i := 4) rfl
    have k5 := (unhide HOf).cell (i := 5) rfl
    go_wp2
    refine bodyPost_ret (v := vBox s wt y co fr to) (by simp [results, Try.results35, go_sem, vBox, k0, k1, k2, k3, k4, k5]) rfl ⟨_, _, _, _, _, _, rfl, unhide HCf, (unhide HKf).mono (fun b hb h => h.resolve_right (by omega))⟩
  · have hA := Below.alloc1 w2 (.cells #[.int .i64 (-1), .int .i64 (18), .int .i64 (19)] 3)
    have HY : Hid (OwnV (w2.alloc (.cells #[.int .i64 (-1), .int .i64 (18), .int .i64 (19)] 3)) w2.heap.size (ints [-1, 18, 19])) := ownV_alloc w2 #[.int .i64 (-1), .int .i64 (18), .int .i64 (19)] 3
    replace HC := hide ((unhide HC).below hA)
    replace HO := hide ((unhide HO).step hA)
    replace HX := hide ((unhide HX).step hA)
    replace HK := hide ((unhide HK).trans (kept_of_below hA))
    clear hA
    go_wp2_with fail
    refine (unhide HP _ (unhide HC) _ 3 _ (unhide HY) (by omega) rfl (by omega) (by omega)).mono ?_
    rintro e w3 ⟨y, rfl, hc, hk⟩
    clear HY
    replace HC := hide hc
    replace HO := hide ((unhide HO).kept hk (by omega))
    replace HX := hide ((unhide HX).kept hk (by omega))
    replace HK := hide ((unhide HK).trans (hk.mono (fun _ _ h => Or.inl h)))
    clear hc hk HB HP HT
    have kc := (unhide HX).cell (i := 4) rfl
    have kf := (unhide HX).frozen 4
    have hS := (Kept.refl (fun b => b = w1.heap.size) w3).setCell (p := ⟨w1.heap.size, 4, none⟩) rfl (.int .i64 y)
    have HX2 := hide ((unhide HX).set 4 (.int .i64 y) (by simp))
    have HO2 := hide ((unhide HO).kept hS (by omega))
    have HC2 := hide ((unhide HC).kept hS (fun b h => by omega))
    have HK2 := hide ((unhide HK).setCell (p := ⟨w1.heap.size, 4, none⟩) (Or.inr (by omega)) (.int .i64 y))
    generalize hV : w3.setCell ⟨w1.heap.size, 4, none⟩ (.int .i64 y) = V at HX2 HO2 HC2 HK2
    clear hS HX HC HK HO
    simp only [List.set_cons_zero, List.set_cons_succ] at HX2
    have HX := HX2
    have HO := HO2
    have HC := HC2
    have HK := HK2
    clear HX2 HO2 HC2 HK2
    have d0 := (unhide HO).cell (i := 0) rfl
    have df0 := (unhide HO).frozen 0
    have e0 := (unhide HX).cell (i := 0) rfl
    have d1 := (unhide HO).cell (i := 1) rfl
    have df1 := (unhide HO).frozen 1
    have e1 := (unhide HX).cell (i := 1) rfl
    have d2 := (unhide HO).cell (i := 2) rfl
    have df2 := (unhide HO).frozen 2
    have e2 := (unhide HX).cell (i := 2) rfl
    have d3 := (unhide HO).cell (i := 3) rfl
    have df3 := (unhide HO).frozen 3
    have e3 := (unhide HX).cell (i := 3) rfl
    have d4 := (unhide HO).cell (i := 4) rfl
    have df4 := (unhide HO).frozen 4
    have e4 := (unhide HX).cell (i := 4) rfl
    have d5 := (unhide HO).cell (i := 5) rfl
    have df5 := (unhide HO).frozen 5
    have e5 := (unhide HX).cell (i := 5) rfl
    have hKf := ((((((Kept.refl (fun b => b = w.heap.size) V).setCell (p := ⟨w.heap.size, 0, none⟩) rfl (.string s)).setCell (p := ⟨w.heap.size, 1, none⟩) rfl (.int .i64 wt)).setCell (p := ⟨w.heap.size, 2, none⟩) rfl (.int .i64 cl)).setCell (p := ⟨w.heap.size, 3, none⟩) rfl (.bool co)).setCell (p := ⟨w.heap.size, 4, none⟩) rfl (.int .i64 y)).setCell (p := ⟨w.heap.size, 5, none⟩) rfl (.int .i64 to)
    have HOf := hide ((((((unhide HO).set 0 (.string s) (by simp)).set 1 (.int .i64 wt) (by simp)).set 2 (.int .i64 cl) (by simp)).set 3 (.bool co) (by simp)).set 4 (.int .i64 y) (by simp) |>.set 5 (.int .i64 to) (by simp))
    have HCf := hide ((unhide HC).kept hKf (fun b h => by omega))
    have HKf := hide ((unhide HK).trans (hKf.mono (fun b _ h => Or.inr (by omega))))
    clear hKf
    have k0 := (unhide HOf).cell (i := 0) rfl
    have k1 := (unhide HOf).cell (i := 1) rfl
    have k2 := (unhide HOf).cell (i := 2) rfl
    have k3 := (unhide HOf).cell (i := 3) rfl
    have k4 := (unhide HOf).cell (i := 4) rfl
    have k5 := (unhide HOf).cell (i := 5) rfl
    go_wp2
    refine bodyPost_ret (v := vBox s wt cl co y to) (by simp [results, Try.results35, go_sem, vBox, k0, k1, k2, k3, k4, k5]) rfl ⟨_, _, _, _, _, _, rfl, unhide HCf, (unhide HKf).mono (fun b hb h => h.resolve_right (by omega))⟩
  · have hA := Below.alloc1 w2 (.cells #[.int .i64 (0), .int .i64 (19), .int .i64 (20)] 3)
    have HY : Hid (OwnV (w2.alloc (.cells #[.int .i64 (0), .int .i64 (19), .int .i64 (20)] 3)) w2.heap.size (ints [0, 19, 20])) := ownV_alloc w2 #[.int .i64 (0), .int .i64 (19), .int .i64 (20)] 3
    replace HC := hide ((unhide HC).below hA)
    replace HO := hide ((unhide HO).step hA)
    replace HX := hide ((unhide HX).step hA)
    replace HK := hide ((unhide HK).trans (kept_of_below hA))
    clear hA
    go_wp2_with fail
    refine (unhide HP _ (unhide HC) _ 3 _ (unhide HY) (by omega) rfl (by omega) (by omega)).mono ?_
    rintro e w3 ⟨y, rfl, hc, hk⟩
    clear HY
    replace HC := hide hc
    replace HO := hide ((unhide HO).kept hk (by omega))
    replace HX := hide ((unhide HX).kept hk (by omega))
    replace HK := hide ((unhide HK).trans (hk.mono (fun _ _ h => Or.inl h)))
    clear hc hk HB HP HT
    have kc := (unhide HX).cell (i := 5) rfl
    have kf := (unhide HX).frozen 5
    have hS := (Kept.refl (fun b => b = w1.heap.size) w3).setCell (p := ⟨w1.heap.size, 5, none⟩) rfl (.int .i64 y)
    have HX2 := hide ((unhide HX).set 5 (.int .i64 y) (by simp))
    have HO2 := hide ((unhide HO).kept hS (by omega))
    have HC2 := hide ((unhide HC).kept hS (fun b h => by omega))
    have HK2 := hide ((unhide HK).setCell (p := ⟨w1.heap.size, 5, none⟩) (Or.inr (by omega)) (.int .i64 y))
    generalize hV : w3.setCell ⟨w1.heap.size, 5, none⟩ (.int .i64 y) = V at HX2 HO2 HC2 HK2
    clear hS HX HC HK HO
    simp only [List.set_cons_zero, List.set_cons_succ] at HX2
    have HX := HX2
    have HO := HO2
    have HC := HC2
    have HK := HK2
    clear HX2 HO2 HC2 HK2
    have d0 := (unhide HO).cell (i := 0) rfl
    have df0 := (unhide HO).frozen 0
    have e0 := (unhide HX).cell (i := 0) rfl
    have d1 := (unhide HO).cell (i := 1) rfl
    have df1 := (unhide HO).frozen 1
    have e1 := (unhide HX).cell (i := 1) rfl
    have d2 := (unhide HO).cell (i := 2) rfl
    have df2 := (unhide HO).frozen 2
    have e2 := (unhide HX).cell (i := 2) rfl
    have d3 := (unhide HO).cell (i := 3) rfl
    have df3 := (unhide HO).frozen 3
    have e3 := (unhide HX).cell (i := 3) rfl
    have d4 := (unhide HO).cell (i := 4) rfl
    have df4 := (unhide HO).frozen 4
    have e4 := (unhide HX).cell (i := 4) rfl
    have d5 := (unhide HO).cell (i := 5) rfl
    have df5 := (unhide HO).frozen 5
    have e5 := (unhide HX).cell (i := 5) rfl
    have hKf := ((((((Kept.refl (fun b => b = w.heap.size) V).setCell (p := ⟨w.heap.size, 0, none⟩) rfl (.string s)).setCell (p := ⟨w.heap.size, 1, none⟩) rfl (.int .i64 wt)).setCell (p := ⟨w.heap.size, 2, none⟩) rfl (.int .i64 cl)).setCell (p := ⟨w.heap.size, 3, none⟩) rfl (.bool co)).setCell (p := ⟨w.heap.size, 4, none⟩) rfl (.int .i64 fr)).setCell (p := ⟨w.heap.size, 5, none⟩) rfl (.int .i64 y)
    have HOf := hide ((((((unhide HO).set 0 (.string s) (by simp)).set 1 (.int .i64 wt) (by simp)).set 2 (.int .i64 cl) (by simp)).set 3 (.bool co) (by simp)).set 4 (.int .i64 fr) (by simp) |>.set 5 (.int .i64 y) (by simp))
    have HCf := hide ((unhide HC).kept hKf (fun b h => by omega))
    have HKf := hide ((unhide HK).trans (hKf.mono (fun b _ h => Or.inr (by omega))))
    clear hKf
    have k0 := (unhide HOf).cell (i := 0) rfl
    have k1 := (unhide HOf).cell (i := 1) rfl
    have k2 := (unhide HOf).cell (i := 2) rfl
    have k3 := (unhide HOf).cell (i := 3) rfl
    have k4 := (unhide HOf).cell (i := 4) rfl
    have k5 := (unhide HOf).cell (i := 5) rfl
    go_wp2
    refine bodyPost_ret (v := vBox s wt cl co fr y) (by simp [results, Try.results35, go_sem, vBox, k0, k1, k2, k3, k4, k5]) rfl ⟨_, _, _, _, _, _, rfl, unhide HCf, (unhide HKf).mono (fun b hb h => h.resolve_right (by omega))⟩
  · have t0 : (x2 == 0) = false := by simp; omega
    have t1 : (x2 == 1) = false := by simp; omega
    have t2 : (x2 == 2) = false := by simp; omega
    have t3 : (x2 == 3) = false := by simp; omega
    have t4 : (x2 == 4) = false := by simp; omega
    obtain ⟨V, eV⟩ : ∃ V, V = w2 := ⟨_, rfl⟩
    rw [← eV] at HC HK HO HX ⊢
    clear eV
    have d0 := (unhide HO).cell (i := 0) rfl
    have df0 := (unhide HO).frozen 0
    have e0 := (unhide HX).cell (i := 0) rfl
    have d1 := (unhide HO).cell (i := 1) rfl
    have df1 := (unhide HO).frozen 1
    have e1 := (unhide HX).cell (i := 1) rfl
    have d2 := (unhide HO).cell (i := 2) rfl
    have df2 := (unhide HO).frozen 2
    have e2 := (unhide HX).cell (i := 2) rfl
    have d3 := (unhide HO).cell (i := 3) rfl
    have df3 := (unhide HO).frozen 3
    have e3 := (unhide HX).cell (i := 3) rfl
    have d4 := (unhide HO).cell (i := 4) rfl
    have df4 := (unhide HO).frozen 4
    have e4 := (unhide HX).cell (i := 4) rfl
    have d5 := (unhide HO).cell (i := 5) rfl
    have df5 := (unhide HO).frozen 5
    have e5 := (unhide HX).cell (i := 5) rfl
    have hKf := ((((((Kept.refl (fun b => b = w.heap.size) V).setCell (p := ⟨w.heap.size, 0, none⟩) rfl (.string s)).setCell (p := ⟨w.heap.size, 1, none⟩) rfl (.int .i64 wt)).setCell (p := ⟨w.heap.size, 2, none⟩) rfl (.int .i64 cl)).setCell (p := ⟨w.heap.size, 3, none⟩) rfl (.bool co)).setCell (p := ⟨w.heap.size, 4, none⟩) rfl (.int .i64 fr)).setCell (p := ⟨w.heap.size, 5, none⟩) rfl (.int .i64 to)
    have HOf := hide ((((((unhide HO).set 0 (.string s) (by simp)).set 1 (.int .i64 wt) (by simp)).set 2 (.int .i64 cl) (by simp)).set 3 (.bool co) (by simp)).set 4 (.int .i64 fr) (by simp) |>.set 5 (.int .i64 to) (by simp))
    have HCf := hide ((unhide HC).kept hKf (fun b h => by omega))
    have HKf := hide ((unhide HK).trans (hKf.mono (fun b _ h => Or.inr (by omega))))
    clear hKf
    have k0 := (unhide HOf).cell (i := 0) rfl
    have k1 := (unhide HOf).cell (i := 1) rfl
    have k2 := (unhide HOf).cell (i := 2) rfl
    have k3 := (unhide HOf).cell (i := 3) rfl
    have k4 := (unhide HOf).cell (i := 4) rfl
    have k5 := (unhide HOf).cell (i := 5) rfl
    go_wp2
    refine bodyPost_ret (v := vBox s wt cl co fr to) (by simp [results, Try.results35, go_sem, vBox, k0, k1, k2, k3, k4, k5]) rfl ⟨_, _, _, _, _, _, rfl, unhide HCf, (unhide HKf).mono (fun b hb h => h.resolve_right (by omega))⟩

end Go.Proofs.Ytnfdokcpjcnknaa

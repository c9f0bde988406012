/- Digits: a name's ten bytes as numbers; another digit. No statement about the program stands here. -/
import Derived.Test.YtmnpeljgafmnpaaBxC
import Derived.Test.YtmnpeljgafmnpaaWalkH
import Derived.Test.YtmnpeljgafmnpaaWalkL
import Derived.Laws.BytesArg
import Derived.Laws.Strings2
namespace Go.Proofs.Ytmnpeljgafmnpaa
open Go.RowKit

def by8 (X : List Int) : List Value := X.map (Value.int .u8)
theorem by8_len (X : List Int) : (by8 X).length = X.length := by simp [by8]
theorem by8_get (X : List Int) {i : Nat} (h : i < X.length) : (by8 X)[i]? = some (.int .u8 (X.getD i 0)) := by
  simp [by8, List.getD, List.getElem?_eq_getElem h]
theorem by8_set (X : List Int) (i : Nat) (x : Int) : (by8 X).set i (.int .u8 x) = by8 (X.set i x) := by simp [by8, List.map_set]
theorem by8_app (X : List Int) (d : Int) : by8 X ++ [.int .u8 d] = by8 (X ++ [d]) := by simp [by8]

/-- Four capitals and six digits. -/
structure Right10 (X : List Int) : Prop where
  len : X.length = 10
  cap : ∀ r, r < 4 → 65 ≤ X.getD r 0 ∧ X.getD r 0 ≤ 90
  dig : ∀ r, 4 ≤ r → r < 10 → 48 ≤ X.getD r 0 ∧ X.getD r 0 ≤ 57

theorem getD_setN (X : List Int) (k r : Nat) (x : Int) (hk : k < X.length) : (X.set k x).getD r 0 = if r = k then x else X.getD r 0 := by
  simp only [List.getD, List.getElem?_set]
  by_cases e : r = k
  · subst e; simp [hk]
  · simp [e, Ne.symm e]
theorem Right10.set_cap {X : List Int} (h : Right10 X) {k : Nat} (hk : k < 4) {x : Int} (h0 : 65 ≤ x) (h1 : x ≤ 90) : Right10 (X.set k x) := by
  have hl := h.len
  refine ⟨by rw [List.length_set]; exact hl, fun r hr => ?_, fun r hr hr2 => ?_⟩
  · rw [getD_setN X k r x (by omega)]
    split
    · exact ⟨h0, h1⟩
    · exact h.cap r hr
  · rw [getD_setN X k r x (by omega), if_neg (by omega)]
    exact h.dig r hr hr2
theorem Right10.set_dig {X : List Int} (h : Right10 X) {k : Nat} (hk4 : 4 ≤ k) (hk : k < 10) {x : Int} (h0 : 48 ≤ x) (h1 : x ≤ 57) : Right10 (X.set k x) := by
  have hl := h.len
  refine ⟨by rw [List.length_set]; exact hl, fun r hr => ?_, fun r hr hr2 => ?_⟩
  · rw [getD_setN X k r x (by omega), if_neg (by omega)]
    exact h.cap r hr
  · rw [getD_setN X k r x (by omega)]
    split
    · exact ⟨h0, h1⟩
    · exact h.dig r hr hr2
theorem Right10.bd {X : List Int} (h : Right10 X) {r : Nat} (hr : r < 10) : 0 ≤ X.getD r 0 ∧ X.getD r 0 < 256 := by
  by_cases h4 : r < 4
  · have := h.cap r h4; omega
  · have := h.dig r (by omega) hr; omega
theorem Right10.good {X : List Int} (h : Right10 X) {r : Nat} (hr : r < 10) : 0 ≤ sgB (X.getD r 0) r := by
  unfold sgB
  by_cases h4 : r < 4
  · have h1 := h.cap r h4
    have h2 : 65 ≤ X.getD r 0 ∧ X.getD r 0 ≤ 90 := h1
    rw [if_pos h4, letV, if_pos h2]
    unfold ltr
    omega
  · have h1 := h.dig r (by omega) hr
    rw [if_neg h4, if_pos h1]
    omega

theorem byt_str {X : List Int} {i : Nat} (hi : i < X.length) (h0 : 0 ≤ X.getD i 0) (h1 : X.getD i 0 < 256) : byt (strOfNums X) i = X.getD i 0 := by
  have hs : i < (strOfNums X).size := by rw [strOfNums_size]; exact hi
  rw [← byt_eq _ _ hs]
  have e : (strOfNums X)[i]'hs = UInt8.ofNat (X.getD i 0).toNat := by
    show (strOfNums X).data[i]'hs = _
    simp [strOfNums, List.getD, List.getElem?_eq_getElem hi]
  rw [e]
  generalize X.getD i 0 = x at *
  simp
  omega
/-- The sum that the digit is told by. -/
def smX (X : List Int) (k : Nat) : Int := sumTo (fun r => sgB (X.getD r 0) r * 2 ^ r) k
theorem cdSum_str {X : List Int} (h : Right10 X) : ∀ k, k ≤ 10 → cdSum (strOfNums X) k = smX X k
  | 0, _ => rfl
  | k + 1, hk => by
    have ih := cdSum_str h k (by omega)
    have hb := h.bd (r := k) (by omega)
    rw [cdSum, ih, byt_str (by rw [h.len]; omega) hb.1 hb.2]
    rfl
theorem cd_str {X : List Int} (h : Right10 X) : cd (strOfNums X) = smX X 10 % 11 % 10 := by
  rw [cd_all (by rw [strOfNums_size]; exact h.len) (fun i hi => by
    have hb := h.bd hi
    rw [byt_str (by rw [h.len]; exact hi) hb.1 hb.2]
    exact h.good hi), cdSum_str h 10 (Nat.le_refl _)]
theorem str_cut {X : List Int} (d : Int) (h : X.length = 10) : (strOfNums (X ++ [d])).extract 0 10 = strOfNums X := by
  unfold strOfNums
  rw [ByteArray.extract_mk]
  congr 1
  simp [h]
theorem bn_str {X : List Int} (h : Right10 X) {d : Int} (h0 : 0 ≤ d) (h1 : d < 256) : bnB (strOfNums (X ++ [d])) = decide (d = 48 + cd (strOfNums X)) := by
  have hl := h.len
  have e10 : (X ++ [d]).getD 10 0 = d := by
    simp only [List.getD]
    rw [List.getElem?_append_right (by omega), hl]
    rfl
  have hb : byt (strOfNums (X ++ [d])) 10 = d := by
    rw [byt_str (by simp [hl]) (by rw [e10]; exact h0) (by rw [e10]; exact h1), e10]
  have hc : 0 ≤ cd (strOfNums X) := by rw [cd_str h]; omega
  unfold bnB
  rw [str_cut d hl, hb, strOfNums_size]
  simp [hl, hc]
theorem bn_ten {X : List Int} (h : X.length = 10) : bnB (strOfNums X) = false := bn_len (by rw [strOfNums_size, h]; omega)
theorem cd_bd2 {X : List Int} (h : Right10 X) : 0 ≤ cd (strOfNums X) ∧ cd (strOfNums X) ≤ 9 := by rw [cd_str h]; omega

theorem smX_set (X : List Int) (k : Nat) (x : Int) (hk : k < X.length) : ∀ n, smX (X.set k x) n = smX X n + (if k < n then (sgB x k - sgB (X.getD k 0) k) * 2 ^ k else 0)
  | 0 => by simp [smX, sumTo]
  | n + 1 => by
    have ih := smX_set X k x hk n
    unfold smX at *
    rw [sumTo, sumTo, ih, getD_setN X k n x hk]
    by_cases h1 : n = k
    · subst h1
      rw [if_pos rfl, if_neg (Nat.lt_irrefl _), if_pos (Nat.lt_succ_self _), Int.sub_mul]
      omega
    · rw [if_neg h1]
      by_cases h2 : k < n
      · rw [if_pos h2, if_pos (by omega)]
        omega
      · rw [if_neg h2, if_neg (by omega)]
        omega
theorem pow_mod {d : Int} {k : Nat} (h4 : 4 ≤ k) (hk : k < 10) (h0 : -9 ≤ d) (h1 : d ≤ 9) (hm : d * 2 ^ k % 11 = 0) : d = 0 := by
  have : k = 4 ∨ k = 5 ∨ k = 6 ∨ k = 7 ∨ k = 8 ∨ k = 9 := by omega
  rcases this with h | h | h | h | h | h <;> subst h <;> simp at hm <;> omega
/-- With another one of the six digits the same digit is told at most where it is 0. -/
theorem digit_turn {X : List Int} (h : Right10 X) {k : Nat} (h4 : 4 ≤ k) (hk : k < 10) {x : Int} (h0 : 48 ≤ x) (h1 : x ≤ 57) (hne : x ≠ X.getD k 0) (he : cd (strOfNums (X.set k x)) = cd (strOfNums X)) : cd (strOfNums X) = 0 := by
  have hr := h.set_dig h4 hk h0 h1
  rw [cd_str hr, cd_str h, smX_set X k x (by rw [h.len]; exact hk), if_pos hk] at he
  rw [cd_str h]
  have hd := h.dig k h4 hk
  have e1 : sgB x k = x - 48 := by unfold sgB; rw [if_neg (by omega), if_pos ⟨h0, h1⟩]
  have e2 : sgB (X.getD k 0) k = X.getD k 0 - 48 := by unfold sgB; rw [if_neg (by omega), if_pos hd]
  rw [e1, e2] at he
  obtain ⟨d, ed⟩ : ∃ d, d = x - 48 - (X.getD k 0 - 48) := ⟨_, rfl⟩
  rw [← ed] at he
  have hp := fun hm => pow_mod (d := d) h4 hk (by omega) (by omega) hm
  generalize d * 2 ^ k = m at *
  generalize smX X 10 = s at *
  by_cases hc : s % 11 % 10 = 0
  · exact hc
  · exfalso
    have := hp (by omega)
    omega

end Go.Proofs.Ytmnpeljgafmnpaa

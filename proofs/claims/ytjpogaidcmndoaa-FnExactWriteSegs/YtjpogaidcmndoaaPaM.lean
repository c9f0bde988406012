/- Parties in numbers and texts: what Send21, Take21, Again21 and Settle21 tell. No statement about the program stands here. -/
import Derived.Test.YtjpogaidcmndoaaWalkD
import Derived.Test.YtjpogaidcmndoaaRPost
namespace Go.Proofs.Ytjpogaidcmndoaa
open Go.RowKit

theorem getD_at {L : List ByteArray} {i : Nat} (h : i < L.length) : L.getD i default = L[i] := by simp [List.getD, List.getElem?_eq_getElem h]
/-- At most 200 texts, each of at most 40 bytes. -/
def txB (L : List ByteArray) : Bool := (L.all fun s => decide (s.size ≤ 40)) && decide (L.length ≤ 200)
/-- A party: what it sent, what is acknowledged, what it got. -/
abbrev PtyT := List ByteArray × Int × List ByteArray
def ptB (p : PtyT) : Bool := txB p.1 && txB p.2.2 && inB p.2.1 0 p.1.length
def nT : ByteArray := ⟨#[]⟩
theorem ptB_bd {p : PtyT} (h : ptB p = true) : txB p.1 = true ∧ txB p.2.2 = true ∧ 0 ≤ p.2.1 ∧ p.2.1 ≤ p.1.length := by
  unfold ptB at h
  rw [Bool.and_eq_true, Bool.and_eq_true] at h
  exact ⟨h.1.1, h.1.2, inB_true h.2⟩
theorem ptB_mk {p : PtyT} (h1 : txB p.1 = true) (h2 : txB p.2.2 = true) (h3 : 0 ≤ p.2.1) (h4 : p.2.1 ≤ p.1.length) : ptB p = true := by
  unfold ptB
  rw [h1, h2, inB_mk h3 h4]
  rfl
theorem txB_len {L : List ByteArray} (h : txB L = true) : L.length ≤ 200 := by
  unfold txB at h
  rw [Bool.and_eq_true, decide_eq_true_eq] at h
  exact h.2
theorem txB_get {L : List ByteArray} (h : txB L = true) {i : Nat} (hi : i < L.length) : (L.getD i default).size ≤ 40 := by
  unfold txB at h
  rw [Bool.and_eq_true, List.all_eq_true] at h
  have := h.1 (L.getD i default) (by rw [getD_at hi]; exact List.getElem_mem _)
  exact of_decide_eq_true this
theorem txB_mk {L : List ByteArray} (h : ∀ i, i < L.length → (L.getD i default).size ≤ 40) (hl : L.length ≤ 200) : txB L = true := by
  unfold txB
  rw [Bool.and_eq_true, decide_eq_true_eq, List.all_eq_true]
  refine ⟨fun x hx => ?_, hl⟩
  obtain ⟨i, hi, rfl⟩ := List.getElem_of_mem hx
  have := h i hi
  rw [getD_at hi] at this
  exact decide_eq_true this
theorem txB_snoc {L : List ByteArray} {t : ByteArray} (h : txB L = true) (ht : t.size ≤ 40) (hl : L.length < 200) : txB (L ++ [t]) = true := by
  unfold txB at h ⊢
  rw [Bool.and_eq_true] at h
  rw [Bool.and_eq_true, List.all_append, h.1]
  simp
  omega

/-- What Send21 tells. -/
def sdB (p : PtyT) (who : Int) (t : ByteArray) : Bool := ptB p && inB who 0 1 && decide (t.size ≤ 40)
def sdV (p : PtyT) (who : Int) (t : ByteArray) : PtyT × PostT × Int :=
  bif sdB p who t then (if p.1.length = 200 then (p, (0, 0, 0, nT), 2) else ((p.1 ++ [t], p.2.1, p.2.2), (who, (p.1.length : Int) + 1, (p.2.2.length : Int), t), 0)) else (p, (0, 0, 0, nT), 1)
theorem sd_len (p : PtyT) (who : Int) (t : ByteArray) : (sdV p who t).1.1.length ≤ p.1.length + 1 ∧ (sdV p who t).1.2.2.length = p.2.2.length := by
  unfold sdV
  cases sdB p who t
  · exact ⟨Nat.le_succ _, rfl⟩
  · rw [cond_true]
    split
    · exact ⟨Nat.le_succ _, rfl⟩
    · exact ⟨by simp, rfl⟩

/-- What Take21 tells. -/
def tkB (p : PtyT) (who : Int) (x : PostT) : Bool := ptB p && inB who 0 1 && decide (x.1 = 1 - who) && decide (0 ≤ x.2.1) && inB x.2.2.1 0 p.1.length && decide (x.2.2.2.size ≤ 40)
def tkP (p : PtyT) (x : PostT) : PtyT := (p.1, if p.2.1 < x.2.2.1 then x.2.2.1 else p.2.1, if x.2.1 = (p.2.2.length : Int) + 1 ∧ p.2.2.length < 200 then p.2.2 ++ [x.2.2.2] else p.2.2)
def tkV (p : PtyT) (who : Int) (x : PostT) : PtyT × Bool := bif tkB p who x then (tkP p x, true) else (p, false)
theorem tk_len (p : PtyT) (who : Int) (x : PostT) : (tkV p who x).1.1.length = p.1.length ∧ (tkV p who x).1.2.2.length ≤ p.2.2.length + 1 := by
  unfold tkV
  cases tkB p who x
  · exact ⟨rfl, Nat.le_succ _⟩
  · refine ⟨rfl, ?_⟩
    show (tkP p x).2.2.length ≤ _
    unfold tkP
    dsimp only
    split
    · simp
    · exact Nat.le_succ _
theorem tk_ok {p : PtyT} (who : Int) (x : PostT) (h : ptB p = true) : ptB (tkV p who x).1 = true := by
  unfold tkV
  cases hb : tkB p who x
  · exact h
  · rw [cond_true]
    obtain ⟨h1, h2, h3, h4⟩ := ptB_bd h
    unfold tkB at hb
    simp only [Bool.and_eq_true, decide_eq_true_eq] at hb
    obtain ⟨⟨⟨⟨⟨_, _⟩, _⟩, _⟩, ha⟩, ht⟩ := hb
    have ha := inB_true ha
    unfold tkP
    refine ptB_mk h1 ?_ ?_ ?_
    · dsimp only
      split
      · rename_i hc
        exact txB_snoc h2 ht hc.2
      · exact h2
    · dsimp only; split <;> omega
    · dsimp only; split <;> omega

/-- What Again21 tells. -/
def agP (p : PtyT) (who : Int) (n : Nat) : PostT := (who, (n : Int) + 1, (p.2.2.length : Int), p.1.getD n default)
/-- The posts of the messages from the j-th up to the n-th. -/
def agF (p : PtyT) (who : Int) (n : Nat) : List PostT := (List.range (n - p.2.1.toNat)).map fun i => agP p who (p.2.1.toNat + i)
def agL (p : PtyT) (who : Int) : List PostT := if p.2.1 = (p.1.length : Int) then [(who, 0, (p.2.2.length : Int), nT)] else agF p who p.1.length
def agV (p : PtyT) (who : Int) : List PostT × Bool := bif ptB p && inB who 0 1 then (agL p who, true) else ([], false)
theorem agF_zero (p : PtyT) (who : Int) : agF p who p.2.1.toNat = [] := by unfold agF; rw [Nat.sub_self]; rfl
theorem agF_succ (p : PtyT) (who : Int) {n : Nat} (h : p.2.1.toNat ≤ n) : agF p who (n + 1) = agF p who n ++ [agP p who n] := by
  unfold agF
  rw [show n + 1 - p.2.1.toNat = (n - p.2.1.toNat) + 1 by omega, List.range_succ, List.map_append]
  simp only [List.map_cons, List.map_nil]
  rw [show p.2.1.toNat + (n - p.2.1.toNat) = n by omega]
theorem agF_len (p : PtyT) (who : Int) (n : Nat) : (agF p who n).length = n - p.2.1.toNat := by unfold agF; simp
theorem ag_len (p : PtyT) (who : Int) : (agV p who).1.length ≤ 201 := by
  unfold agV
  cases hb : (ptB p && inB who 0 1)
  · simp
  · rw [cond_true]
    show (agL p who).length ≤ 201
    unfold agL
    rw [Bool.and_eq_true] at hb
    have := txB_len (ptB_bd hb.1).1
    split
    · simp
    · rw [agF_len]; omega

end Go.Proofs.Ytjpogaidcmndoaa

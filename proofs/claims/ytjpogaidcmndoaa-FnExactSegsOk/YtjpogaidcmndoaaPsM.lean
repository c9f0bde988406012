/- Two parties that settle, in numbers and texts. No statement about the program stands here. -/
import Derived.Test.YtjpogaidcmndoaaPaM
namespace Go.Proofs.Ytjpogaidcmndoaa
open Go.RowKit

/-- part is the beginning of whole. -/
def bgB (P Q : List ByteArray) : Bool := decide (∀ i, i < P.length → i < Q.length ∧ P.getD i default = Q.getD i default)
theorem bg_true {P Q : List ByteArray} (h : ∀ i, i < P.length → i < Q.length ∧ P.getD i default = Q.getD i default) : bgB P Q = true := by unfold bgB; exact decide_eq_true h
theorem bg_false {P Q : List ByteArray} {i : Nat} (hi : i < P.length) (h : ¬ (i < Q.length ∧ P.getD i default = Q.getD i default)) : bgB P Q = false := by unfold bgB; exact decide_eq_false (fun h2 => h (h2 i hi))

def cnB (lost : List Bool) (c : Nat) : Bool := lost.getD c false
/-- A post that comes, or is lost. -/
def stP (lost : List Bool) (tw : Int) (s : Nat × PtyT) (p : PostT) : Nat × PtyT := (s.1 + 1, bif cnB lost s.1 then s.2 else (tkV s.2 tw p).1)
def plS (lost : List Bool) (tw : Int) (L : List PostT) (s : Nat × PtyT) : Nat × PtyT := L.foldl (stP lost tw) s
theorem plS_snoc (lost : List Bool) (tw : Int) (L : List PostT) (p : PostT) (s : Nat × PtyT) : plS lost tw (L ++ [p]) s = stP lost tw (plS lost tw L s) p := by unfold plS; rw [List.foldl_append]; rfl
theorem stP_ok {lost : List Bool} {tw : Int} {s : Nat × PtyT} {p : PostT} (h : ptB s.2 = true) : ptB (stP lost tw s p).2 = true := by
  unfold stP
  cases cnB lost s.1
  · exact tk_ok tw p h
  · exact h
theorem plS_ok (lost : List Bool) (tw : Int) : ∀ (L : List PostT) (s : Nat × PtyT), ptB s.2 = true → ptB (plS lost tw L s).2 = true
  | [], _, h => h
  | p :: L, s, h => plS_ok lost tw L (stP lost tw s p) (stP_ok h)
theorem plS_coin (lost : List Bool) (tw : Int) : ∀ (L : List PostT) (s : Nat × PtyT), (plS lost tw L s).1 = s.1 + L.length
  | [], _ => rfl
  | p :: L, s => by
    have := plS_coin lost tw L (stP lost tw s p)
    show (plS lost tw L (stP lost tw s p)).1 = _
    rw [this]
    show s.1 + 1 + L.length = s.1 + (L.length + 1)
    omega
/-- Both parties and the coins taken. -/
abbrev StT := Nat × PtyT × PtyT
def hf0 (lost : List Bool) (s : StT) : StT := ((plS lost 1 (agV s.2.1 0).1 (s.1, s.2.2)).1, s.2.1, (plS lost 1 (agV s.2.1 0).1 (s.1, s.2.2)).2)
def hf1 (lost : List Bool) (s : StT) : StT := ((plS lost 0 (agV s.2.2 1).1 (s.1, s.2.1)).1, (plS lost 0 (agV s.2.2 1).1 (s.1, s.2.1)).2, s.2.2)
def rdN (lost : List Bool) : Nat → StT → StT
  | 0, s => s
  | n + 1, s => hf1 lost (hf0 lost (rdN lost n s))
def okS (s : StT) : Prop := ptB s.2.1 = true ∧ ptB s.2.2 = true
theorem hf0_ok {lost : List Bool} {s : StT} (h : okS s) : okS (hf0 lost s) := ⟨h.1, plS_ok lost 1 _ (s.1, s.2.2) h.2⟩
theorem hf1_ok {lost : List Bool} {s : StT} (h : okS s) : okS (hf1 lost s) := ⟨plS_ok lost 0 _ (s.1, s.2.1) h.1, h.2⟩
theorem hf0_coin (lost : List Bool) (s : StT) : (hf0 lost s).1 ≤ s.1 + 201 := by
  unfold hf0
  have := ag_len s.2.1 0
  have := plS_coin lost 1 (agV s.2.1 0).1 (s.1, s.2.2)
  omega
theorem hf1_coin (lost : List Bool) (s : StT) : (hf1 lost s).1 ≤ s.1 + 201 := by
  unfold hf1
  have := ag_len s.2.2 1
  have := plS_coin lost 0 (agV s.2.2 1).1 (s.1, s.2.1)
  omega
theorem rd_ok (lost : List Bool) : ∀ (n : Nat) {s : StT}, okS s → okS (rdN lost n s)
  | 0, _, h => h
  | n + 1, _, h => hf1_ok (hf0_ok (rd_ok lost n h))
theorem rd_coin (lost : List Bool) : ∀ (n : Nat) (s : StT), (rdN lost n s).1 ≤ s.1 + 402 * n
  | 0, s => by show s.1 ≤ _; omega
  | n + 1, s => by
    have h1 := rd_coin lost n s
    have h2 := hf0_coin lost (rdN lost n s)
    have h3 := hf1_coin lost (hf0 lost (rdN lost n s))
    show (hf1 lost (hf0 lost (rdN lost n s))).1 ≤ _
    omega
/-- Within a round: ahead, behind the first half, behind both. -/
def skS (lost : List Bool) (s : StT) : Nat → StT
  | 0 => s
  | 1 => hf0 lost s
  | _ => hf1 lost (hf0 lost s)
theorem sk_ok {lost : List Bool} {s : StT} (h : okS s) : ∀ k, okS (skS lost s k)
  | 0 => h
  | 1 => hf0_ok h
  | _ + 2 => hf1_ok (hf0_ok h)
theorem sk_coin (lost : List Bool) (s : StT) : ∀ k, (skS lost s k).1 ≤ s.1 + 402
  | 0 => by show s.1 ≤ _; omega
  | 1 => by have := hf0_coin lost s; show (hf0 lost s).1 ≤ _; omega
  | _ + 2 => by
    have h2 := hf0_coin lost s
    have h3 := hf1_coin lost (hf0 lost s)
    show (hf1 lost (hf0 lost s)).1 ≤ _
    omega
theorem take_snocP (L : List PostT) {k : Nat} (h : k < L.length) : L.take (k + 1) = L.take k ++ [L.getD k default] := by
  rw [List.take_add_one]; simp [List.getD, List.getElem?_eq_getElem h]
/-- The numbers of posts are small. -/
theorem ag_num {p : PtyT} {who : Int} {i : Nat} (hi : i < (agV p who).1.length) : 0 ≤ ((agV p who).1.getD i default).2.1 ∧ ((agV p who).1.getD i default).2.1 ≤ 1000 := by
  unfold agV at hi ⊢
  cases hb : (ptB p && inB who 0 1)
  · rw [hb] at hi; simp at hi
  · rw [hb] at hi
    rw [cond_true] at hi ⊢
    rw [Bool.and_eq_true] at hb
    have hl := txB_len (ptB_bd hb.1).1
    have ha := (ptB_bd hb.1).2.2.1
    change i < (agL p who).length at hi
    show 0 ≤ ((agL p who).getD i default).2.1 ∧ ((agL p who).getD i default).2.1 ≤ 1000
    unfold agL at hi ⊢
    split
    · rename_i h
      rw [if_pos h] at hi
      have : i = 0 := by simpa using hi
      subst this
      exact ⟨Int.le_refl _, by show (0 : Int) ≤ 1000; omega⟩
    · rename_i h
      rw [if_neg h, agF_len] at hi
      have e : (agF p who p.1.length).getD i default = agP p who (p.2.1.toNat + i) := by
        unfold agF
        simp [List.getD, hi]
      rw [e]
      show 0 ≤ ((p.2.1.toNat + i : Nat) : Int) + 1 ∧ ((p.2.1.toNat + i : Nat) : Int) + 1 ≤ 1000
      omega

/-- What Settle21 asks, and tells. -/
def seB (a b : PtyT) (lost : List Bool) (r : Int) : Bool := ptB a && ptB b && bgB a.2.2 b.1 && bgB b.2.2 a.1 && decide (a.2.1 ≤ (b.2.2.length : Int)) && decide (b.2.1 ≤ (a.2.2.length : Int)) && decide (lost.length ≤ 2000) && inB r 0 50
def zP : PtyT := ([], 0, [])
def alB (x y : PtyT) : Bool := decide (x.2.2.length = y.1.length) && decide (y.2.2.length = x.1.length)
def seV (a b : PtyT) (lost : List Bool) (r : Int) : PtyT × PtyT × Bool :=
  bif seB a b lost r then ((rdN lost r.toNat (0, a, b)).2.1, (rdN lost r.toNat (0, a, b)).2.2, alB (rdN lost r.toNat (0, a, b)).2.1 (rdN lost r.toNat (0, a, b)).2.2) else (zP, zP, false)

end Go.Proofs.Ytjpogaidcmndoaa

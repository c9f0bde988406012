/- About turns and swings as lists: turns go up and down by turns; swings, a whole one as two halves, are as many as the turns less one; the greatest is the range. No statement about the program stands here. -/
import Derived.Test.YtliodmahbdmcbaaSwD
import Derived.Test.YtliodmahbdmcbaaSgT5
namespace Go.Proofs.Ytliodmahbdmcbaa
open Go.RowKit

/-- The latest first: each but the ends is the least or the greatest of its neighbours. -/
def alt : List Int → Prop
  | x :: y :: z :: r => x ≠ y ∧ (x < y ↔ z < y) ∧ alt (y :: z :: r)
  | [x, y] => x ≠ y
  | _ => True
/-- The latest first: the ways get shorter. -/
def dec : List Int → Prop
  | x :: y :: z :: r => (x - y).natAbs < (y - z).natAbs ∧ dec (y :: z :: r)
  | _ => True

theorem alt_tail {x : Int} {r : List Int} (h : alt (x :: r)) : alt r := by
  match r, h with
  | [], _ => trivial
  | [y], _ => trivial
  | y :: z :: r, h => exact h.2.2

theorem alt_ne {x y : Int} {r : List Int} (h : alt (x :: y :: r)) : x ≠ y := by
  match r, h with
  | [], h => exact h
  | z :: r, h => exact h.1

/-- Another number ahead that lies to the same side. -/
theorem alt_swap {x x' y : Int} {r : List Int} (h : alt (x :: y :: r)) (h1 : x' ≠ y) (h2 : x' < y ↔ x < y) : alt (x' :: y :: r) := by
  match r, h with
  | [], _ => exact h1
  | z :: r, h => exact ⟨h1, h2.trans h.2.1, h.2.2⟩

theorem alt_push {x y p : Int} {r : List Int} (h : alt (y :: p :: r)) (h1 : x ≠ y) (h2 : x < y ↔ p < y) : alt (x :: y :: p :: r) := ⟨h1, h2, h⟩

/-- The turns alternate. -/
theorem turn_alt (L : List Int) : ∀ k, alt ((tSt (mvTo L k)).out ++ [(tSt (mvTo L k)).waits]).reverse
  | 0 => trivial
  | k + 1 => by
    have ih := turn_alt L k
    obtain ⟨i1, i2, i3⟩ := tinv L k
    unfold mvTo
    split
    · exact ih
    · rename_i hm
      rw [tSt_snoc]
      have hx : 0 < (tSt (mvTo L k)).seen → L.getD k 0 ≠ (tSt (mvTo L k)).waits := fun hs e => by
        by_cases hk : 0 < k
        · exact hm ⟨hk, by rw [e, (i2 hk).2]⟩
        · have := i3 (by omega); omega
      generalize L.getD k 0 = x at *
      generalize tSt (mvTo L k) = s at *
      simp only [List.reverse_append, List.reverse_cons, List.reverse_nil, List.nil_append, List.cons_append] at ih ⊢
      simp only [TSt.step]
      cases ht : turnB s x with
      | true =>
        simp only [if_true, List.reverse_append, List.reverse_cons, List.reverse_nil, List.nil_append, List.cons_append]
        simp only [turnB, Bool.or_eq_true, Bool.and_eq_true, decide_eq_true_eq] at ht
        have hs : 0 < s.seen := by rcases ht with h | h <;> omega
        have hne := hx hs
        by_cases h1 : s.seen ≤ 1
        · rw [i1.a h1]; exact hne
        · obtain ⟨b1, b2, b3, b4⟩ := i1.b (by omega)
          have h2 : decide (s.ahead < s.waits) ≠ decide (s.waits < x) := by
            rcases ht with h | h
            · omega
            · simpa using h.2
          have h3 : ¬ (s.ahead < s.waits ↔ s.waits < x) := fun e => h2 (decide_eq_decide.2 e)
          obtain ⟨o', q, hq⟩ : ∃ o' q, s.out = o' ++ [q] := ⟨_, _, (List.dropLast_concat_getLast b1).symm⟩
          rw [hq] at ih b2 b4 ⊢
          simp only [List.reverse_append, List.reverse_cons, List.reverse_nil, List.nil_append, List.cons_append] at ih ⊢
          rw [last_snoc] at b2 b4
          refine alt_push ih hne ?_
          omega
      | false =>
        simp only [Bool.false_eq_true, if_false]
        simp only [turnB, Bool.or_eq_false_iff, decide_eq_false_iff_not, Bool.and_eq_false_iff] at ht
        by_cases h0 : s.seen = 0
        · rw [i1.a (by omega)]; trivial
        · have hne := hx (by omega)
          obtain ⟨b1, b2, b3, b4⟩ := i1.b (by omega)
          have h2 : (s.ahead < s.waits ↔ s.waits < x) := by
            rcases ht.2 with h | h
            · omega
            · have : decide (s.ahead < s.waits) = decide (s.waits < x) := by simpa using h
              exact decide_eq_decide.1 this
          obtain ⟨o', q, hq⟩ : ∃ o' q, s.out = o' ++ [q] := ⟨_, _, (List.dropLast_concat_getLast b1).symm⟩
          rw [hq] at ih b2 b4 ⊢
          simp only [List.reverse_append, List.reverse_cons, List.reverse_nil, List.nil_append, List.cons_append] at ih ⊢
          rw [last_snoc] at b2 b4
          refine alt_swap ih ?_ ?_ <;> omega

theorem turnsOf_alt (L : List Int) : alt (turnsOf L).reverse := by
  unfold turnsOf
  split
  · unfold tOut
    split
    · trivial
    · exact turn_alt L L.length
  · trivial

theorem lst_rev (R : List Int) {n : Nat} (hn : n < R.length) : lst R.reverse n = R.getD n 0 := by
  unfold lst
  simp only [List.getD, List.length_reverse]
  rw [List.getElem?_reverse (by omega)]
  congr 2
  omega

theorem closedB_rev (d c b : Int) (r : List Int) : closedB (d :: c :: b :: r).reverse = decide ((c - b).natAbs ≤ (d - c).natAbs) := by
  unfold closedB
  rw [lst_rev _ (by simp), lst_rev _ (by simp), lst_rev _ (by simp)]
  simp [List.getD]

theorem closedB_short {R : List Int} (h : R.length < 3) : closedB R.reverse = false := by
  unfold closedB
  rw [decide_eq_false (by simp; omega), Bool.false_and]

theorem swing_rev (d c b : Int) (r : List Int) : swing (d :: c :: b :: r).reverse = (((c - b).natAbs : Int), decide (r = [])) := by
  unfold swing
  rw [lst_rev _ (by simp), lst_rev _ (by simp)]
  simp [List.getD]

theorem closeS_rev (d c b : Int) (r : List Int) : closeS (d :: c :: b :: r).reverse = if r = [] then [c, d] else (d :: r).reverse := by
  unfold closeS
  by_cases h : r = []
  · subst h; simp
  · have hl : 0 < r.length := List.length_pos_iff.2 h
    rw [if_neg (by simp; exact h), if_neg h, lst_rev _ (by simp)]
    simp [List.getD]

/-- Whole swings count two, half ones one. -/
def cnt : List Sw → Nat
  | [] => 0
  | s :: r => (if s.2 = true then 1 else 2) + cnt r
theorem cnt_app (a b : List Sw) : cnt (a ++ b) = cnt a + cnt b := by
  induction a with
  | nil => simp [cnt]
  | cons s r ih => simp [cnt, ih]; omega

/-- What holds while swings are told: U the turns so far, R the stack, both the latest first. -/
structure RInv (U R : List Int) (out : List Sw) (lo hi : Int) : Prop where
  zig : alt R
  less : dec R.tail
  top : ∃ d r q, R = d :: r ∧ U = d :: q
  sign : ∀ d c r p q, R = d :: c :: r → U = d :: p :: q → (d < c ↔ d < p)
  bd : ∀ y ∈ R, lo ≤ y ∧ y ≤ hi
  inlo : lo ∈ R
  inhi : hi ∈ R
  outs : ∀ s ∈ out, 0 ≤ s.1 ∧ s.1 ≤ hi - lo
  count : cnt out + R.length = U.length

theorem dec_tail {x : Int} {r : List Int} (h : dec (x :: r)) : dec r := by
  match r, h with
  | [], _ => trivial
  | [y], _ => trivial
  | y :: z :: r, h => exact h.2

theorem RInv.close {U : List Int} {d c b : Int} {r : List Int} {out : List Sw} {lo hi : Int} (h : RInv U (d :: c :: b :: r) out lo hi) (hc : (c - b).natAbs ≤ (d - c).natAbs) :
    RInv U (if r = [] then [d, c] else d :: r) (out ++ [(((c - b).natAbs : Int), decide (r = []))]) lo hi := by
  obtain ⟨a1, a2, a3⟩ := h.zig
  have a4 := alt_ne a3
  have bd := h.bd d (by simp)
  have bc := h.bd c (by simp)
  have bb := h.bd b (by simp)
  have hout : ∀ s ∈ out ++ [(((c - b).natAbs : Int), decide (r = []))], 0 ≤ s.1 ∧ s.1 ≤ hi - lo := fun s hs => by
    rcases List.mem_append.1 hs with hs | hs
    · exact h.outs s hs
    · simp only [List.mem_singleton] at hs
      subst hs
      dsimp only
      omega
  by_cases hr : r = []
  · subst hr
    simp only [if_true, decide_true]
    refine ⟨a1, trivial, ?_, ?_, ?_, ?_, ?_, by simpa using hout, ?_⟩
    · obtain ⟨d', r', q, e1, e2⟩ := h.top
      cases e1
      exact ⟨d, [c], q, rfl, e2⟩
    · intro d' c' r' p q e1 e2
      cases e1
      exact h.sign d c [b] p q rfl e2
    · intro y hy
      exact h.bd y (by simp only [List.mem_cons, List.not_mem_nil, or_false] at hy ⊢; rcases hy with e | e <;> simp [e])
    · have := h.inlo
      simp only [List.mem_cons, List.not_mem_nil, or_false] at this ⊢
      omega
    · have := h.inhi
      simp only [List.mem_cons, List.not_mem_nil, or_false] at this ⊢
      omega
    · have := h.count
      rw [cnt_app]
      simp [cnt] at this ⊢
      omega
  · obtain ⟨a, r', rfl⟩ := List.exists_cons_of_ne_nil hr
    simp only [reduceCtorEq, if_false, decide_false] at hout ⊢
    obtain ⟨_, a5, a6⟩ := a3
    have a7 := alt_ne a6
    have hd : (c - b).natAbs < (b - a).natAbs := h.less.1
    have ba := h.bd a (by simp)
    have hda : d ≠ a ∧ (d < a ↔ b < a) ∧ (d < c ↔ d < a) := by omega
    refine ⟨alt_swap a6 hda.1 hda.2.1, dec_tail (dec_tail h.less), ?_, ?_, ?_, ?_, ?_, hout, ?_⟩
    · obtain ⟨d', r'', q, e1, e2⟩ := h.top
      cases e1
      exact ⟨d, _, q, rfl, e2⟩
    · intro d' c' r'' p q e1 e2
      cases e1
      have := h.sign d c _ p q rfl e2
      omega
    · intro y hy
      simp only [List.mem_cons] at hy
      exact h.bd y (by simp only [List.mem_cons]; rcases hy with e | e | e <;> simp [e])
    · have := h.inlo
      simp only [List.mem_cons] at this ⊢
      rcases this with e | e | e | e | e
      · exact Or.inl e
      · omega
      · exact Or.inl (by omega)
      · exact Or.inr (Or.inl e)
      · exact Or.inr (Or.inr e)
    · have := h.inhi
      simp only [List.mem_cons] at this ⊢
      rcases this with e | e | e | e | e
      · exact Or.inl e
      · omega
      · exact Or.inl (by omega)
      · exact Or.inr (Or.inl e)
      · exact Or.inr (Or.inr e)
    · have := h.count
      rw [cnt_app]
      simp [cnt] at this ⊢
      omega

theorem red_R {U : List Int} {lo hi : Int} : ∀ (n : Nat) (R : List Int) (out : List Sw), R.length ≤ n → RInv U R out lo hi → ∃ R', (red n R.reverse out).1 = R'.reverse ∧ RInv U R' (red n R.reverse out).2 lo hi ∧ dec R'
  | 0, R, out, hn, h => by
    obtain ⟨d, r, q, rfl, _⟩ := h.top
    simp at hn
  | n + 1, R, out, hn, h => by
    by_cases hc : closedB R.reverse = true
    · rw [red_go hc]
      match R, hc, h, hn with
      | [], hc, _, _ => rw [closedB_short (by simp)] at hc; cases hc
      | [_], hc, _, _ => rw [closedB_short (by simp)] at hc; cases hc
      | [_, _], hc, _, _ => rw [closedB_short (by simp)] at hc; cases hc
      | d :: c :: b :: r, hc, h, hn =>
        rw [closedB_rev, decide_eq_true_eq] at hc
        have h' := h.close hc
        rw [closeS_rev, swing_rev]
        have ih := red_R n (if r = [] then [d, c] else d :: r) _ (by split <;> simp at hn ⊢ <;> omega) h'
        have e : (if r = [] then [d, c] else d :: r).reverse = if r = [] then [c, d] else (d :: r).reverse := by split <;> simp
        rw [e] at ih
        exact ih
    · have hf : closedB R.reverse = false := by simpa using hc
      rw [red_stop hf]
      refine ⟨R, rfl, h, ?_⟩
      match R, hf, h with
      | [], _, _ => trivial
      | [_], _, _ => trivial
      | [_, _], _, _ => trivial
      | d :: c :: b :: r, hf, h =>
        rw [closedB_rev, decide_eq_false_iff_not] at hf
        exact ⟨by omega, h.less⟩

/-- The least and the greatest of the first k, as the law reckons them. -/
def loAt (T : List Int) : Nat → Int
  | 0 => 0
  | k + 1 => if k = 0 ∨ T.getD k 0 < loAt T k then T.getD k 0 else loAt T k
def hiAt (T : List Int) : Nat → Int
  | 0 => 0
  | k + 1 => if k = 0 ∨ hiAt T k < T.getD k 0 then T.getD k 0 else hiAt T k

theorem alt_suffix : ∀ (a b : List Int), alt (a ++ b) → alt b
  | [], _, h => h
  | _ :: a, b, h => alt_suffix a b (alt_tail h)

theorem alt_take {T : List Int} (h : alt T.reverse) (k : Nat) : alt (T.take k).reverse := by
  have e : T.reverse = (T.drop k).reverse ++ (T.take k).reverse := by rw [← List.reverse_append, List.take_append_drop]
  rw [e] at h
  exact alt_suffix _ _ h

theorem take_rev (T : List Int) {k : Nat} (hk : k < T.length) : (T.take (k + 1)).reverse = T.getD k 0 :: (T.take k).reverse := by
  rw [List.take_add_one]; simp [List.getD, hk]

theorem alt_at {T : List Int} (h : alt T.reverse) {i : Nat} (hi : i + 2 < T.length) : T.getD (i + 2) 0 ≠ T.getD (i + 1) 0 ∧ (T.getD (i + 2) 0 < T.getD (i + 1) 0 ↔ T.getD i 0 < T.getD (i + 1) 0) ∧ T.getD (i + 1) 0 ≠ T.getD i 0 := by
  have h3 := alt_take h (i + 3)
  rw [take_rev T hi, take_rev T (by omega), take_rev T (by omega)] at h3
  exact ⟨h3.1, h3.2.1, alt_ne h3.2.2⟩

theorem swSt_R (T : List Int) (hT : alt T.reverse) : ∀ k, 0 < k → k ≤ T.length → ∃ R, (swSt (T.take k)).1 = R.reverse ∧ RInv (T.take k).reverse R (swSt (T.take k)).2 (loAt T k) (hiAt T k) ∧ dec R
  | 0, h, _ => by omega
  | k + 1, _, hk => by
    have et : T.take (k + 1) = T.take k ++ [T.getD k 0] := by rw [List.take_add_one]; simp [List.getD, show k < T.length by omega]
    have ea := alt_take hT (k + 1)
    rw [take_rev T (by omega)] at ea ⊢
    by_cases h0 : k = 0
    · subst h0
      refine ⟨[T.getD 0 0], ?_, ?_, trivial⟩
      · rw [et]
        simp only [List.take_zero, List.nil_append, swSt, List.foldl, pushS]
        rw [red_stop (by simp [closedB])]
        rfl
      · have e2 : (swSt (T.take (0 + 1))).2 = [] := by
          rw [et]
          simp only [List.take_zero, List.nil_append, swSt, List.foldl, pushS]
          rw [red_stop (by simp [closedB])]
        rw [e2]
        have e3 : loAt T (0 + 1) = T.getD 0 0 := by simp [loAt]
        have e4 : hiAt T (0 + 1) = T.getD 0 0 := by simp [hiAt]
        rw [e3, e4]
        refine ⟨trivial, trivial, ⟨_, [], _, rfl, rfl⟩, fun d c r p q e => by simp at e, fun y hy => ?_, by simp, by simp, fun s hs => by simp at hs, by simp [cnt]⟩
        simp only [List.mem_singleton] at hy
        omega
    · obtain ⟨R, e1, hR, hd⟩ := swSt_R T hT k (by omega) (by omega)
      rw [et, swSt_snoc]
      have hlo : loAt T (k + 1) = if T.getD k 0 < loAt T k then T.getD k 0 else loAt T k := by simp [loAt, h0]
      have hhi : hiAt T (k + 1) = if hiAt T k < T.getD k 0 then T.getD k 0 else hiAt T k := by simp [hiAt, h0]
      rw [hlo, hhi]
      obtain ⟨⟨S, out⟩, es⟩ : ∃ s, s = swSt (T.take k) := ⟨_, rfl⟩
      rw [← es] at e1 hR ⊢
      dsimp only at e1 hR
      subst e1
      generalize T.getD k 0 = x at *
      generalize loAt T k = lo at *
      generalize hiAt T k = hi at *
      generalize (T.take k).reverse = U at *
      have hN : RInv (x :: U) (x :: R) out (if x < lo then x else lo) (if hi < x then x else hi) := by
        obtain ⟨d, r, q, rfl, rfl⟩ := hR.top
        have hll := hR.bd lo hR.inlo
        refine ⟨?_, hd, ⟨x, _, _, rfl, rfl⟩, ?_, ?_, ?_, ?_, ?_, ?_⟩
        · match r, hR with
          | [], _ => exact alt_ne ea
          | c :: r, hR =>
            match q, ea, hR with
            | [], _, hR => have := hR.count; simp at this; omega
            | p :: q, ea, hR =>
              have h1 := hR.sign d c r p q rfl rfl
              have h2 := alt_ne hR.zig
              have h3 := alt_ne (alt_tail ea)
              have h4 := ea.2.1
              exact alt_push hR.zig ea.1 (by omega)
        · intro d' c' r' p' q' e1 e2
          cases e1; cases e2
          exact Iff.rfl
        · intro y hy
          rcases List.mem_cons.1 hy with e | e
          · subst e; constructor <;> split <;> omega
          · have := hR.bd y e
            constructor <;> split <;> omega
        · split
          · simp
          · exact List.mem_cons_of_mem _ hR.inlo
        · split
          · simp
          · exact List.mem_cons_of_mem _ hR.inhi
        · intro s hs
          have := hR.outs s hs
          refine ⟨this.1, ?_⟩
          split <;> split <;> omega
        · have := hR.count
          simp at this ⊢
          omega
      have h2 := red_R (R.reverse.length + 1) (x :: R) out (by simp) hN
      rw [List.reverse_cons] at h2
      exact h2

/-- All of a stack lies between its two oldest. -/
theorem dec_ends : ∀ (R : List Int) (e1 e0 : Int), alt (R ++ [e1, e0]) → dec (R ++ [e1, e0]) → ∀ y ∈ R ++ [e1, e0], (y - e0).natAbs ≤ (e1 - e0).natAbs ∧ (y - e1).natAbs ≤ (e1 - e0).natAbs
  | [], e1, e0, _, _, y, hy => by
    simp only [List.nil_append, List.mem_cons, List.not_mem_nil, or_false] at hy
    omega
  | x :: R, e1, e0, ha, hd, y, hy => by
    have ih := dec_ends R e1 e0 (alt_tail ha) (dec_tail hd)
    rcases List.mem_cons.1 hy with e | e
    · subst e
      match R, ha, hd, ih with
      | [], ha, hd, _ =>
        have h1 := ha.2.1
        have h2 := ha.1
        have h3 := hd.1
        have h4 := alt_ne ha.2.2
        omega
      | [a], ha, hd, ih =>
        have h1 := ha.2.1
        have h3 := hd.1
        have i1 := ih a (by simp)
        have i2 := ih e1 (by simp)
        have h2 := ha.1
        omega
      | a :: b :: R, ha, hd, ih =>
        have h1 := ha.2.1
        have h3 := hd.1
        have i1 := ih a (by simp)
        have i2 := ih b (by simp)
        have h2 := ha.1
        omega
    · exact ih y e

theorem cnt_halves (S : List Int) : ∀ k, cnt (halvesTo S k) = k
  | 0 => rfl
  | k + 1 => by rw [halvesTo_succ, cnt_app, cnt_halves S k]; simp [cnt]

/-- What the law reckons of the swings. -/
def mostTo (W : List Sw) : Nat → Int
  | 0 => 0
  | k + 1 => if mostTo W k < (W.getD k default).1 then (W.getD k default).1 else mostTo W k

theorem mostTo_le {W : List Sw} {M : Int} (h0 : 0 ≤ M) (h : ∀ s ∈ W, s.1 ≤ M) : ∀ k, k ≤ W.length → 0 ≤ mostTo W k ∧ mostTo W k ≤ M ∧ ∀ i, i < k → (W.getD i default).1 ≤ mostTo W k
  | 0, _ => ⟨Int.le_refl _, h0, fun i hi => by omega⟩
  | k + 1, hk => by
    obtain ⟨i1, i2, i3⟩ := mostTo_le h0 h k (by omega)
    have hw := h (W.getD k default) (by rw [getD_lt (show k < W.length by omega)]; exact List.getElem_mem _)
    unfold mostTo
    refine ⟨by split <;> omega, by split <;> omega, fun i hi => ?_⟩
    by_cases e : i = k
    · subst e; split <;> omega
    · have := i3 i (by omega)
      split <;> omega

theorem most_is {W : List Sw} {M : Int} (h0 : 0 ≤ M) (h : ∀ s ∈ W, s.1 ≤ M) (hm : M = 0 ∨ ∃ i, i < W.length ∧ (W.getD i default).1 = M) : mostTo W W.length = M := by
  obtain ⟨i1, i2, i3⟩ := mostTo_le h0 h W.length (Nat.le_refl _)
  rcases hm with e | ⟨i, hi, e⟩
  · omega
  · have := i3 i hi
    omega

theorem cnt_take (W : List Sw) {k : Nat} (hk : k < W.length) : cnt (W.take (k + 1)) = cnt (W.take k) + if (W.getD k default).2 = true then 1 else 2 := by
  rw [List.take_add_one, cnt_app]
  simp [List.getD, hk, cnt]

/-- What the law asks of the swings. -/
theorem swings_law (L : List Int) (hT : turnsOf L ≠ []) : cnt (swingsOf L) = (turnsOf L).length - 1 ∧ mostTo (swingsOf L) (swingsOf L).length = hiAt (turnsOf L) (turnsOf L).length - loAt (turnsOf L) (turnsOf L).length ∧ loAt (turnsOf L) (turnsOf L).length ≤ hiAt (turnsOf L) (turnsOf L).length := by
  have hl : 0 < (turnsOf L).length := List.length_pos_iff.2 hT
  obtain ⟨R, e1, hR, hd⟩ := swSt_R (turnsOf L) (turnsOf_alt L) (turnsOf L).length hl (Nat.le_refl _)
  rw [List.take_length] at e1 hR
  have es : swingsOf L = (swSt (turnsOf L)).2 ++ halvesTo R.reverse (R.length - 1) := by
    show (swSt (turnsOf L)).2 ++ halvesTo (swSt (turnsOf L)).1 ((swSt (turnsOf L)).1.length - 1) = _
    rw [e1, List.length_reverse]
  have hc := hR.count
  rw [List.length_reverse] at hc
  generalize (swSt (turnsOf L)).2 = out at *
  generalize loAt (turnsOf L) (turnsOf L).length = lo at *
  generalize hiAt (turnsOf L) (turnsOf L).length = hi at *
  obtain ⟨d, r, q, eR, _⟩ := hR.top
  have hRl : 0 < R.length := by rw [eR]; simp
  have hll := hR.bd lo hR.inlo
  refine ⟨by rw [es, cnt_app, cnt_halves]; omega, ?_, hll.2⟩
  have hall : ∀ s ∈ swingsOf L, s.1 ≤ hi - lo := fun s hs => by
    rw [es] at hs
    rcases List.mem_append.1 hs with hs | hs
    · exact (hR.outs s hs).2
    · simp only [halvesTo, List.mem_map, List.mem_range] at hs
      obtain ⟨i, hi', rfl⟩ := hs
      have h1 := hR.bd (R.reverse.getD i 0) (by rw [getD_lt (by simp; omega)]; exact List.mem_reverse.1 (List.getElem_mem _))
      have h2 := hR.bd (R.reverse.getD (i + 1) 0) (by rw [getD_lt (by simp; omega)]; exact List.mem_reverse.1 (List.getElem_mem _))
      dsimp only
      omega
  refine most_is (by omega) hall ?_
  by_cases h1 : R.length = 1
  · left
    have : r = [] := by rw [eR] at h1; simpa using h1
    subst this
    have a := hR.inlo
    have b := hR.inhi
    rw [eR] at a b
    simp only [List.mem_singleton] at a b
    omega
  · right
    obtain ⟨R', y1, y0, eq⟩ : ∃ R' y1 y0, R = R' ++ [y1, y0] := by
      refine ⟨R.take (R.length - 2), R.getD (R.length - 2) 0, R.getD (R.length - 1) 0, ?_⟩
      have e3 : R.drop (R.length - 2) = [R.getD (R.length - 2) 0, R.getD (R.length - 1) 0] := by
        apply List.ext_getElem
        · simp; omega
        · intro i h3 h4
          simp at h4
          match i, h4 with
          | 0, _ => simp [List.getD, show R.length - 2 < R.length by omega]
          | 1, _ =>
            have : R.length - 2 + 1 = R.length - 1 := by omega
            simp [List.getD, this, show R.length - 1 < R.length by omega]
      rw [← e3, List.take_append_drop]
    have hz := hR.zig
    rw [eq] at hz hd
    have hends := dec_ends R' y1 y0 hz hd
    have m1 := hR.inlo
    have m2 := hR.inhi
    rw [eq] at m1 m2
    have k1 := hends lo m1
    have k2 := hends hi m2
    have k3 := hR.bd y1 (by rw [eq]; simp)
    have k4 := hR.bd y0 (by rw [eq]; simp)
    have kne : y1 ≠ y0 := alt_ne (alt_suffix R' [y1, y0] hz)
    have ho : (halvesTo R.reverse (R.length - 1)).length = R.length - 1 := halvesTo_len _ _
    refine ⟨out.length, by rw [es, List.length_append, ho]; omega, ?_⟩
    have hg : (swingsOf L).getD out.length default = (((R.reverse.getD 0 0 - R.reverse.getD 1 0).natAbs : Int), true) := by
      rw [es]
      simp only [List.getD, List.getElem?_append_right (Nat.le_refl _), Nat.sub_self, halvesTo, List.getElem?_map]
      rw [List.getElem?_range (by omega)]
      rfl
    rw [hg, eq]
    simp [List.getD]
    omega

end Go.Proofs.Ytliodmahbdmcbaa

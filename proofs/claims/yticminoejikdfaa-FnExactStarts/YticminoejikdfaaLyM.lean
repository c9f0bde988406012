/- Laytime in numbers (mathematics alone). -/
import Derived.Test.YticminoejikdfaaEnM
namespace Go.Proofs.Yticminoejikdfaa

def chP (n a d s : Int) : Prop := (0 ≤ n ∧ n ≤ 100000) ∧ (0 ≤ a ∧ a ≤ 100000) ∧ (0 ≤ d ∧ d ≤ 1000000000) ∧ (0 ≤ s ∧ s ≤ 1000000000)
instance (n a d s : Int) : Decidable (chP n a d s) := by unfold chP; infer_instance
def chB (n a d s : Int) : Bool := decide (chP n a d s)

/-- When laytime begins, behind k spells. -/
def stN (L : List I2) (b : Int) : Nat → Int
  | 0 => b
  | k + 1 => if fr L k ≤ stN L b k ∧ stN L b k < tw L k then tw L k else stN L b k
theorem stN_bd {L : List I2} (h : Sp L) {b : Int} (h0 : 0 ≤ b) (h1 : b ≤ 100100000) : ∀ k, k ≤ L.length → 0 ≤ stN L b k ∧ stN L b k ≤ 100100000 := by
  intro k
  induction k with
  | zero => intro _; exact ⟨h0, h1⟩
  | succ k ih =>
    intro hk
    have := ih (by omega)
    obtain ⟨h2, h3, h4, -⟩ := h.2 k (by omega)
    simp only [stN]
    split <;> omega
def startOk (n a d s x : Int) (L : List I2) : Prop := chP n a d s ∧ (0 ≤ x ∧ x ≤ 100000000) ∧ Sp L ∧ stN L (x + n) L.length ≤ 100000000
instance (n a d s x : Int) (L : List I2) : Decidable (startOk n a d s x L) := by unfold startOk; infer_instance
def startV (n a d s x : Int) (L : List I2) : Int × Bool := if startOk n a d s x L then (stN L (x + n) L.length, true) else (-1, false)
theorem startV_not {n a d s x : Int} {L : List I2} (h : ¬ startOk n a d s x L) : startV n a d s x L = (-1, false) := if_neg h
theorem startV_yes {n a d s x : Int} {L : List I2} (h : startOk n a d s x L) : startV n a d s x L = (stN L (x + n) L.length, true) := if_pos h

/-- What is owed. -/
def owedOk (n a d s u o : Int) : Prop := chP n a d s ∧ (0 ≤ u ∧ u ≤ a) ∧ (0 ≤ o ∧ o ≤ 100000000) ∧ (0 < o → a ≤ u)
instance (n a d s u o : Int) : Decidable (owedOk n a d s u o) := by unfold owedOk; infer_instance
def owedV (n a d s u o : Int) : Int × Bool := if owedOk n a d s u o then (if 0 < o then o * d / 1440 else -((a - u) * s / 1440), true) else (0, false)
theorem owedV_not {n a d s u o : Int} (h : ¬ owedOk n a d s u o) : owedV n a d s u o = (0, false) := if_neg h

/-- The place behind the last of the allowed minutes. -/
def zed (p left : Int) : List I2 → Int
  | [] => p + left
  | s :: L => if left ≤ 0 then p + left else if s.2 ≤ p then zed p left L else if left ≤ s.1 - p then p + left else zed s.2 (left - max 0 (s.1 - p)) L

abbrev I4 := Int × Int × Int × Int
/-- A stretch in a spell; a free one. -/
def adO (f t : Int) (q : I4) : I4 := if 0 < q.1 ∨ f = t then q else (q.1, q.2.1, q.2.2.1 + (t - f), if q.2.2.1 = 0 then f else q.2.2.2)
def adF (f t : Int) (q : I4) : I4 := adO (f + min q.1 (t - f)) t (q.1 - min q.1 (t - f), q.2.1 + min q.1 (t - f), q.2.2.1, q.2.2.2)
def cutA (x p d : Int) : Int := min (max x p) d
def stret (d p : Int) (q : I4) : List I2 → I4
  | [] => adF p d q
  | s :: L => stret d (cutA s.2 p d) (adO (cutA s.1 p d) (cutA s.2 p d) (adF p (cutA s.1 p d) q)) L

inductive Ord : List I2 → Prop
  | nil : Ord []
  | cons {s : I2} {L : List I2} (h1 : s.1 < s.2) (h2 : ∀ t, t ∈ L → s.2 ≤ t.1 ∧ s.2 ≤ t.2) (h3 : Ord L) : Ord (s :: L)
def wkl (p d : Int) : List I2 → Int
  | [] => 0
  | s :: L => pc s p d + wkl p d L

theorem adF_same (d : Int) (q : I4) (h : 0 ≤ q.1) : adF d d q = q := by
  obtain ⟨a, u, o, l⟩ := q
  have h : 0 ≤ a := h
  unfold adF adO
  have e : min a (d - d) = 0 := by omega
  simp only [e]
  simp
theorem adO_same (d : Int) (q : I4) : adO d d q = q := by unfold adO; simp
theorem cut_end {x d : Int} : cutA x d d = d := by unfold cutA; omega
theorem stret_end (d : Int) (q : I4) (h : 0 ≤ q.1) : ∀ L, stret d d q L = q := by
  intro L
  induction L with
  | nil => exact adF_same d q h
  | cons s L ih => simp only [stret, cut_end, adF_same d q h, adO_same, ih]

/-- What is over, once nothing is left. -/
def ovr (p d u o l : Int) : I4 := (0, u, o + (d - p), if o = 0 then (if p < d then p else l) else l)
theorem adO_ovr {p d u o l : Int} (h : p ≤ d) : adO p d (0, u, o, l) = ovr p d u o l := by
  unfold adO ovr
  by_cases e : p = d
  · subst e; simp
  · simp only [Int.lt_irrefl, false_or, e, if_false]
    rw [if_pos (show p < d by omega)]
theorem adF_ovr {p d u o l : Int} (h : p ≤ d) : adF p d (0, u, o, l) = ovr p d u o l := by
  unfold adF
  have e : min (0 : Int) (d - p) = 0 := by omega
  simp only [e]
  rw [show p + 0 = p by omega, show (0 : Int) - 0 = 0 by omega, show u + 0 = u by omega]
  exact adO_ovr h
theorem ovr_ovr {p x d u o l : Int} (h1 : p ≤ x) (h2 : x ≤ d) (ho : 0 ≤ o) : ovr x d (ovr p x u o l).2.1 (ovr p x u o l).2.2.1 (ovr p x u o l).2.2.2 = ovr p d u o l := by
  unfold ovr
  simp only [Prod.mk.injEq, true_and]
  refine ⟨by omega, ?_⟩
  by_cases e : o = 0
  · subst e
    by_cases e1 : p < x
    · simp only [e1, if_true]
      rw [if_neg (by omega), if_pos (by omega)]
    · have : p = x := by omega
      subst this
      simp
  · rw [if_neg e, if_neg e, if_neg (by omega)]
theorem cut_le {x p d : Int} (h : p ≤ d) : p ≤ cutA x p d ∧ cutA x p d ≤ d := by unfold cutA; omega
theorem cut_mono {x y p d : Int} (h : x ≤ y) : cutA x p d ≤ cutA y p d := by unfold cutA; omega
theorem stret_over {d : Int} {L : List I2} (hL : Ord L) : ∀ {p u o l : Int}, p ≤ d → 0 ≤ o → stret d p (0, u, o, l) L = ovr p d u o l := by
  induction hL with
  | nil => intro p u o l h ho; exact adF_ovr h
  | @cons s L h1 h2 h3 ih =>
    intro p u o l h ho
    have c1 := cut_le (x := s.1) h
    have c2 := cut_le (x := s.2) h
    have c3 : cutA s.1 p d ≤ cutA s.2 p d := cut_mono (by omega)
    simp only [stret]
    rw [adF_ovr c1.1]
    have e0 : ovr p (cutA s.1 p d) u o l = (0, (ovr p (cutA s.1 p d) u o l).2.1, (ovr p (cutA s.1 p d) u o l).2.2.1, (ovr p (cutA s.1 p d) u o l).2.2.2) := rfl
    rw [e0, adO_ovr c3, ovr_ovr c1.1 c3 ho]
    have e1 : ovr p (cutA s.2 p d) u o l = (0, (ovr p (cutA s.2 p d) u o l).2.1, (ovr p (cutA s.2 p d) u o l).2.2.1, (ovr p (cutA s.2 p d) u o l).2.2.2) := rfl
    rw [e1, ih c2.2 (by show 0 ≤ o + (cutA s.2 p d - p); omega), ovr_ovr c2.1 c2.2 ho]

theorem zed_ge {L : List I2} (hL : Ord L) : ∀ {p a : Int}, 0 ≤ a → p ≤ zed p a L := by
  induction hL with
  | nil => intro p a h; simp only [zed]; omega
  | @cons s L h1 h2 h3 ih =>
    intro p a h
    simp only [zed]
    split
    · omega
    split
    · exact ih h
    split
    · omega
    · have := ih (p := s.2) (a := a - max 0 (s.1 - p)) (by omega)
      omega
theorem wkl_none {p d : Int} : ∀ {L : List I2}, (∀ t, t ∈ L → d ≤ t.1) → wkl p d L = 0 := by
  intro L
  induction L with
  | nil => intro _; rfl
  | cons s L ih =>
    intro h
    have h1 := h s (by simp)
    simp only [wkl, ih fun t ht => h t (by simp [ht])]
    unfold pc
    omega
theorem wkl_late {p x d : Int} (hpx : p ≤ x) : ∀ {L : List I2}, (∀ t, t ∈ L → x ≤ t.1) → wkl p d L = wkl x d L := by
  intro L
  induction L with
  | nil => intro _; rfl
  | cons s L ih =>
    intro h
    have h1 := h s (by simp)
    simp only [wkl, ih fun t ht => h t (by simp [ht])]
    unfold pc
    omega
theorem wkl_end {d : Int} : ∀ L : List I2, wkl d d L = 0 := by
  intro L
  induction L with
  | nil => rfl
  | cons s L ih => simp only [wkl, ih]; unfold pc; omega

theorem adF_left {p x a u : Int} (h : x - p < a) : adF p x (a, u, 0, -1) = (a - (x - p), u + (x - p), 0, -1) := by
  unfold adF
  have e : min a (x - p) = x - p := by omega
  simp only [e]
  unfold adO
  rw [if_pos (by left; show 0 < a - (x - p); omega)]
theorem adF_just {p d a u : Int} (h : d ≤ p + a) : adF p d (a, u, 0, -1) = (a - (d - p), u + (d - p), 0, -1) := by
  unfold adF
  have e : min a (d - p) = d - p := by omega
  simp only [e]
  unfold adO
  rw [if_pos (by right; omega)]
theorem adF_used {p x a u : Int} (h : a ≤ x - p) : adF p x (a, u, 0, -1) = ovr (p + a) x (u + a) 0 (-1) := by
  unfold adF
  have e : min a (x - p) = a := by omega
  simp only [e]
  rw [show a - a = 0 by omega]
  exact adO_ovr (by omega)
theorem adO_left {f t a u o l : Int} (h : 0 < a) : adO f t (a, u, o, l) = (a, u, o, l) := by unfold adO; rw [if_pos (by left; exact h)]
theorem ovr_late {p d u : Int} (h : p < d) : ovr p d u 0 (-1) = (0, u, d - p, p) := by
  unfold ovr
  simp [h]
theorem stret_left {d : Int} {L : List I2} (hL : Ord L) : ∀ {p a u : Int}, 0 < a → p ≤ d →
    stret d p (a, u, 0, -1) L = if d ≤ zed p a L then (a - (d - p - wkl p d L), u + (d - p - wkl p d L), 0, -1) else (0, u + a, d - zed p a L, zed p a L) := by
  induction hL with
  | nil =>
    intro p a u ha h
    have z1 : zed p a [] = p + a := rfl
    simp only [stret, wkl]
    rw [show d - p - 0 = d - p by omega, z1]
    by_cases e : d ≤ p + a
    · rw [if_pos e, adF_just e]
    · rw [if_neg e, adF_used (by omega), ovr_late (by omega)]
  | @cons s L h1 h2 h3 ih =>
    intro p a u ha h
    simp only [stret, wkl]
    by_cases e1 : s.2 ≤ p
    · have x1 : cutA s.1 p d = p := by unfold cutA; omega
      have x2 : cutA s.2 p d = p := by unfold cutA; omega
      have x3 : pc s p d = 0 := by unfold pc; omega
      have z1 : zed p a (s :: L) = zed p a L := by simp only [zed]; rw [if_neg (by omega), if_pos e1]
      rw [x1, x2, x3, adF_same _ _ (by show 0 ≤ a; omega), adO_same, z1, ih ha h]
      rw [show (0 : Int) + wkl p d L = wkl p d L by omega]
    by_cases e2 : a ≤ s.1 - p
    · have z1 : zed p a (s :: L) = p + a := by simp only [zed]; rw [if_neg (by omega), if_neg e1, if_pos e2]
      rw [z1]
      by_cases e3 : d ≤ p + a
      · have x1 : cutA s.1 p d = d := by unfold cutA; omega
        have x2 : cutA s.2 p d = d := by unfold cutA; omega
        have x3 : pc s p d = 0 := by unfold pc; omega
        have x4 : wkl p d L = 0 := wkl_none fun t ht => by have := h2 t ht; omega
        rw [x1, x2, x3, x4, adF_just e3, adO_same, stret_end _ _ (by show 0 ≤ a - (d - p); omega), if_pos e3]
        rw [show d - p - (0 + 0) = d - p by omega]
      · have x2 : cutA s.1 p d ≤ cutA s.2 p d := cut_mono (by omega)
        have x4 := cut_le (x := s.2) h
        have x3 : p + a ≤ cutA s.1 p d := by unfold cutA; omega
        rw [if_neg e3, adF_used (by omega)]
        have e0 : ovr (p + a) (cutA s.1 p d) (u + a) 0 (-1) = (0, (ovr (p + a) (cutA s.1 p d) (u + a) 0 (-1)).2.1, (ovr (p + a) (cutA s.1 p d) (u + a) 0 (-1)).2.2.1, (ovr (p + a) (cutA s.1 p d) (u + a) 0 (-1)).2.2.2) := rfl
        rw [e0, adO_ovr x2, ovr_ovr x3 x2 (Int.le_refl _)]
        have e4 : ovr (p + a) (cutA s.2 p d) (u + a) 0 (-1) = (0, (ovr (p + a) (cutA s.2 p d) (u + a) 0 (-1)).2.1, (ovr (p + a) (cutA s.2 p d) (u + a) 0 (-1)).2.2.1, (ovr (p + a) (cutA s.2 p d) (u + a) 0 (-1)).2.2.2) := rfl
        rw [e4, stret_over h3 x4.2 (by show (0 : Int) ≤ 0 + (cutA s.2 p d - (p + a)); omega), ovr_ovr (by omega) x4.2 (Int.le_refl _), ovr_late (by omega)]
    obtain ⟨m, hm⟩ : ∃ m, m = max 0 (s.1 - p) := ⟨_, rfl⟩
    have z1 : zed p a (s :: L) = zed s.2 (a - m) L := by simp only [zed]; rw [if_neg (by omega), if_neg e1, if_neg e2, hm]
    rw [z1]
    by_cases e3 : d ≤ p + m
    · have x1 : cutA s.1 p d = d := by unfold cutA; omega
      have x2 : cutA s.2 p d = d := by unfold cutA; omega
      have x3 : pc s p d = 0 := by unfold pc; omega
      have x5 : wkl p d L = 0 := wkl_none fun t ht => by have := h2 t ht; omega
      have x4 := zed_ge h3 (p := s.2) (a := a - m) (by omega)
      rw [x1, x2, x3, x5, adF_left (by omega), adO_same, stret_end _ _ (by show 0 ≤ a - (d - p); omega), if_pos (by omega)]
      rw [show d - p - (0 + 0) = d - p by omega]
    · have x1 : cutA s.1 p d = p + m := by unfold cutA; omega
      have x3 : wkl p d L = wkl s.2 d L := wkl_late (by omega) fun t ht => (h2 t ht).1
      rw [x1, adF_left (by omega), adO_left (by omega), show p + m - p = m by omega, x3]
      by_cases e4 : s.2 ≤ d
      · have x2 : cutA s.2 p d = s.2 := by unfold cutA; omega
        have x4 : pc s p d = s.2 - (p + m) := by unfold pc; omega
        rw [x2, ih (by omega) e4, x4]
        split
        · simp only [Prod.mk.injEq, and_true]; omega
        · simp only [Prod.mk.injEq, true_and, and_true]; omega
      · have x2 : cutA s.2 p d = d := by unfold cutA; omega
        have x4 : pc s p d = d - (p + m) := by unfold pc; omega
        have x5 : wkl s.2 d L = 0 := wkl_none fun t ht => by have := h2 t ht; omega
        have x6 := zed_ge h3 (p := s.2) (a := a - m) (by omega)
        rw [x2, stret_end _ _ (by show 0 ≤ a - m; omega), x4, x5, if_pos (by omega)]
        simp only [Prod.mk.injEq, and_true]; omega

/-- What the tally keeps. -/
theorem adO_keep {f t : Int} {q : I4} (h : f ≤ t) : (adO f t q).1 = q.1 ∧ (adO f t q).2.1 = q.2.1 ∧ q.2.2.1 ≤ (adO f t q).2.2.1 ∧ (adO f t q).2.2.1 ≤ q.2.2.1 + (t - f) := by
  unfold adO
  split
  · exact ⟨rfl, rfl, Int.le_refl _, by omega⟩
  · refine ⟨rfl, rfl, ?_, ?_⟩
    · show q.2.2.1 ≤ q.2.2.1 + (t - f); omega
    · show q.2.2.1 + (t - f) ≤ q.2.2.1 + (t - f); omega
theorem adF_keep {f t : Int} {q : I4} (h : f ≤ t) (hq : 0 ≤ q.1) : 0 ≤ (adF f t q).1 ∧ (adF f t q).1 + (adF f t q).2.1 = q.1 + q.2.1 ∧ q.2.1 ≤ (adF f t q).2.1 ∧ q.2.2.1 ≤ (adF f t q).2.2.1 ∧ (adF f t q).2.2.1 ≤ q.2.2.1 + (t - f) := by
  unfold adF
  have k := adO_keep (f := f + min q.1 (t - f)) (t := t) (q := (q.1 - min q.1 (t - f), q.2.1 + min q.1 (t - f), q.2.2.1, q.2.2.2)) (by omega)
  obtain ⟨k1, k2, k3, k4⟩ := k
  rw [k1, k2]
  dsimp only at k3 k4 ⊢
  omega
theorem stret_keep {d : Int} {L : List I2} (hL : Ord L) : ∀ {p : Int} {q : I4}, p ≤ d → 0 ≤ q.1 → 0 ≤ (stret d p q L).1 ∧ (stret d p q L).1 + (stret d p q L).2.1 = q.1 + q.2.1 ∧ q.2.1 ≤ (stret d p q L).2.1 := by
  induction hL with
  | nil => intro p q h hq; have := adF_keep h hq; exact ⟨this.1, this.2.1, this.2.2.1⟩
  | @cons s L h1 h2 h3 ih =>
    intro p q h hq
    have c1 := cut_le (x := s.1) h
    have c2 := cut_le (x := s.2) h
    have c3 : cutA s.1 p d ≤ cutA s.2 p d := cut_mono (by omega)
    have k1 := adF_keep (q := q) c1.1 hq
    have k2 := adO_keep (q := adF p (cutA s.1 p d) q) c3
    have k3 := ih (p := cutA s.2 p d) (q := adO (cutA s.1 p d) (cutA s.2 p d) (adF p (cutA s.1 p d) q)) c2.2 (by omega)
    simp only [stret]
    omega

theorem ord_drop {L : List I2} (h : Sp L) : ∀ j k, k + j = L.length → Ord (L.drop k) := by
  intro j
  induction j with
  | zero => intro k hk; rw [List.drop_eq_nil_of_le (by omega)]; exact .nil
  | succ j ih =>
    intro k hk
    have hlt : k < L.length := by omega
    rw [List.drop_eq_getElem_cons hlt]
    have e : L.getD k default = L[k] := by simp [List.getD, hlt]
    obtain ⟨g1, g2, g3, -⟩ := h.2 k hlt
    unfold fr tw at *
    rw [e] at g1 g2 g3
    refine .cons g2 (fun t ht => ?_) (ih (k + 1) (by omega))
    obtain ⟨i, hi, rfl⟩ := List.mem_iff_getElem.1 ht
    simp only [List.length_drop] at hi
    have hc := h.chain (i := k) (j := k + 1 + i) (by omega) (by omega)
    obtain ⟨-, g5, -, -⟩ := h.2 (k + 1 + i) (by omega)
    unfold fr tw at *
    rw [e] at hc
    have e2 : L.getD (k + 1 + i) default = (L.drop (k + 1))[i] := by rw [List.getElem_drop]; simp [List.getD, show k + 1 + i < L.length by omega]
    rw [e2] at hc g5
    omega
theorem Sp.ord {L : List I2} (h : Sp L) : Ord L := by have := ord_drop h L.length 0 (by omega); simpa using this
theorem wkl_wk (L : List I2) (a b : Int) : ∀ j k, k + j = L.length → wk L a b L.length = wk L a b k + wkl a b (L.drop k) := by
  intro j
  induction j with
  | zero => intro k hk; rw [List.drop_eq_nil_of_le (by omega), show k = L.length by omega]; simp [wkl]
  | succ j ih =>
    intro k hk
    have hlt : k < L.length := by omega
    rw [List.drop_eq_getElem_cons hlt, ih (k + 1) (by omega)]
    have e : L.getD k default = L[k] := by simp [List.getD, hlt]
    simp only [wk, wkl, e]
    omega
theorem wkl_all (L : List I2) (a b : Int) : wkl a b L = wk L a b L.length := by have := wkl_wk L a b L.length 0 (by omega); simp [wk] at this; omega

/-- What is counted of one part, with a minutes left. -/
def cnt3 (a b d : Int) (L : List I2) : I3 := if d ≤ zed b a L then (d - b - wk L b d L.length, 0, -1) else (a, d - zed b a L, zed b a L)
def TInv (q : I4) : Prop := 0 ≤ q.1 ∧ 0 ≤ q.2.2.1 ∧ (0 < q.1 → q.2.2.1 = 0) ∧ (q.2.2.1 = 0 → q.2.2.2 = -1) ∧ (0 < q.2.2.1 → 0 ≤ q.2.2.2)
def mrg (n : I3) (q : I4) : I4 := (q.1 - n.1, q.2.1 + n.1, q.2.2.1 + n.2.1, if q.2.2.2 < 0 then n.2.2 else q.2.2.2)
theorem zed_zero (b : Int) (L : List I2) : zed b 0 L = b := by cases L <;> simp [zed]
theorem stret_cnt {L : List I2} (h : Sp L) {b d : Int} (hbd : b ≤ d) {q : I4} (hq : TInv q) : stret d b q L = mrg (cnt3 q.1 b d L) q := by
  obtain ⟨a, u, o, l⟩ := q
  obtain ⟨q1, q2, q3, q4, q5⟩ := hq
  dsimp only at q1 q2 q3 q4 q5 ⊢
  unfold mrg cnt3
  by_cases ha : 0 < a
  · obtain rfl := q3 ha
    obtain rfl := q4 rfl
    rw [stret_left h.ord ha hbd, ← wkl_all]
    split
    · simp
    · simp
  · obtain rfl : a = 0 := by omega
    rw [stret_over h.ord hbd q2, zed_zero, ← wkl_all]
    unfold ovr
    by_cases e : d ≤ b
    · obtain rfl : b = d := by omega
      rw [if_pos (Int.le_refl _), wkl_end]
      simp only [Prod.mk.injEq]
      refine ⟨by omega, by omega, by omega, ?_⟩
      by_cases e2 : o = 0
      · rw [if_pos e2, if_neg (by omega), q4 e2]; rfl
      · rw [if_neg e2, if_neg (by have := q5 (by omega); omega)]
    · rw [if_neg e]
      simp only [Prod.mk.injEq]
      refine ⟨by omega, by omega, trivial, ?_⟩
      by_cases e2 : o = 0
      · rw [if_pos e2, if_pos (by omega), q4 e2]; rfl
      · rw [if_neg e2, if_neg (by have := q5 (by omega); omega)]
theorem cnt3_bd {L : List I2} (h : Sp L) {a b d : Int} (ha : 0 ≤ a) (hb : 0 ≤ b) (hbd : b ≤ d) : 0 ≤ (cnt3 a b d L).1 ∧ (cnt3 a b d L).1 ≤ a ∧ 0 ≤ (cnt3 a b d L).2.1 ∧ (cnt3 a b d L).2.1 ≤ d - b ∧ -1 ≤ (cnt3 a b d L).2.2 ∧ (cnt3 a b d L).2.2 ≤ d ∧ ((cnt3 a b d L).1 < a → (cnt3 a b d L).2.1 = 0) ∧ ((cnt3 a b d L).2.1 = 0 → (cnt3 a b d L).2.2 = -1) ∧ (0 < (cnt3 a b d L).2.1 → 0 ≤ (cnt3 a b d L).2.2) := by
  have k := stret_keep h.ord (p := b) (d := d) (q := (a, 0, 0, -1)) hbd ha
  rw [stret_cnt h hbd ⟨ha, Int.le_refl _, fun _ => rfl, fun _ => rfl, fun h => absurd h (by show ¬ (0 : Int) < 0; omega)⟩] at k
  unfold mrg at k
  have hz := zed_ge h.ord (p := b) ha
  dsimp only at k
  unfold cnt3 at *
  split at k
  · rename_i hd
    rw [if_pos hd]
    dsimp only at *
    omega
  · rename_i hd
    rw [if_neg hd]
    dsimp only at *
    omega

def cntOk (n a d s b e : Int) (L : List I2) : Prop := chP n a d s ∧ (0 ≤ b ∧ b ≤ e ∧ e ≤ 100000000) ∧ Sp L
instance (n a d s b e : Int) (L : List I2) : Decidable (cntOk n a d s b e L) := by unfold cntOk; infer_instance
def cntV (n a d s b e : Int) (L : List I2) : I3 × Bool := if cntOk n a d s b e L then (cnt3 a b e L, true) else ((0, 0, 0), false)
theorem cntV_not {n a d s b e : Int} {L : List I2} (h : ¬ cntOk n a d s b e L) : cntV n a d s b e L = ((0, 0, 0), false) := if_neg h
theorem cntV_yes {n a d s b e : Int} {L : List I2} (h : cntOk n a d s b e L) : cntV n a d s b e L = (cnt3 a b e L, true) := if_pos h

/-- Several parts, one behind the other. -/
def lay1 (A : Int) (L : List I2) (s : I2) (q : I3) : I3 := (q.1 + (cnt3 (A - q.1) s.1 s.2 L).1, q.2.1 + (cnt3 (A - q.1) s.1 s.2 L).2.1, if q.2.2 < 0 then (cnt3 (A - q.1) s.1 s.2 L).2.2 else q.2.2)
def layN (A : Int) (P L : List I2) : Nat → I3
  | 0 => (0, 0, -1)
  | k + 1 => lay1 A L (P.getD k default) (layN A P L k)
structure LInv (A : Int) (k : Nat) (q : I3) : Prop where
  u0 : 0 ≤ q.1
  u1 : q.1 ≤ A
  o0 : 0 ≤ q.2.1
  o1 : q.2.1 ≤ 100000000 * (k : Int)
  l1 : q.2.2 ≤ 100000000
  l0 : -1 ≤ q.2.2
  left : q.1 < A → q.2.1 = 0
  none : q.2.1 = 0 → q.2.2 = -1
  some : 0 < q.2.1 → 0 ≤ q.2.2
theorem layN_inv {A : Int} {P L : List I2} (hA : 0 ≤ A) (hP : Sp P) (hL : Sp L) : ∀ k, k ≤ P.length → LInv A k (layN A P L k) := by
  intro k
  induction k with
  | zero => intro _; refine ⟨?_, ?_, ?_, ?_, ?_, ?_, ?_, ?_, ?_⟩ <;> simp [layN, hA]
  | succ k ih =>
    intro hk
    obtain ⟨i1, i2, i3, i4, i5, i6, i7, i8, i9⟩ := ih (by omega)
    obtain ⟨p1, p2, p3, -⟩ := hP.2 k (by omega)
    unfold fr tw at *
    obtain ⟨c1, c2, c3, c4, c5, c6, c7, c8, c9⟩ := cnt3_bd hL (a := A - (layN A P L k).1) (b := (P.getD k default).1) (d := (P.getD k default).2) (by omega) p1 (by omega)
    simp only [layN, lay1]
    generalize layN A P L k = q at *
    generalize cnt3 (A - q.1) (P.getD k default).1 (P.getD k default).2 L = n at *
    refine ⟨by dsimp only; omega, by dsimp only; omega, by dsimp only; omega, by dsimp only; omega, ?_, ?_, by dsimp only; omega, ?_, ?_⟩
    · dsimp only; split <;> omega
    · dsimp only; split <;> omega
    · dsimp only; split <;> omega
    · dsimp only; split <;> omega
theorem lay_step {A : Int} {L : List I2} (hL : Sp L) {k : Nat} {q : I3} (h : LInv A k q) {b d : Int} (hbd : b ≤ d) :
    stret d b (A - q.1, q) L = (A - (lay1 A L (b, d) q).1, lay1 A L (b, d) q) := by
  rw [stret_cnt hL hbd ⟨by have := h.u1; show 0 ≤ A - q.1; omega, h.o0, fun x => h.left (by have x : 0 < A - q.1 := x; omega), h.none, h.some⟩]
  unfold mrg lay1
  simp only [Prod.mk.injEq, and_true]
  omega
def layOk (n a d s : Int) (P L : List I2) : Prop := chP n a d s ∧ 0 < P.length ∧ Sp P ∧ Sp L
instance (n a d s : Int) (P L : List I2) : Decidable (layOk n a d s P L) := by unfold layOk; infer_instance
def layV (n a d s : Int) (P L : List I2) : I3 × Bool := if layOk n a d s P L then (layN a P L P.length, true) else ((0, 0, 0), false)
theorem layV_not {n a d s : Int} {P L : List I2} (h : ¬ layOk n a d s P L) : layV n a d s P L = ((0, 0, 0), false) := if_neg h
theorem layV_yes {n a d s : Int} {P L : List I2} (h : layOk n a d s P L) : layV n a d s P L = (layN a P L P.length, true) := if_pos h

end Go.Proofs.Yticminoejikdfaa

/- Sorting in place, stably, by keys; who bears what: in numbers (mathematics alone). -/
import Derived.Test.YtogoknldhimgfaaBase
namespace Go.Proofs.Ytogoknldhimgfaa

abbrev ix (D : List Int) (k : Nat) : Int := D.getD k 0
def ky (r : List Int) (x : Int) : Int := r.getD x.toNat 0
/-- x stands ahead of y. -/
def bf (r : List Int) (x y : Int) : Prop := ky r y < ky r x ∨ (ky r x = ky r y ∧ x < y)
theorem bf_trans {r : List Int} {x y z : Int} (h1 : bf r x y) (h2 : bf r y z) : bf r x z := by unfold bf at *; omega
theorem bf_irr {r : List Int} {x : Int} : ¬ bf r x x := by unfold bf; omega
theorem bf_le {r : List Int} {x y : Int} (h : bf r x y) : ky r y ≤ ky r x := by unfold bf at h; omega
theorem bf_key {r : List Int} {x y : Int} (h : ky r y < ky r x) : bf r x y := Or.inl h
theorem bf_not {r : List Int} {x y : Int} (h : ¬ ky r x < ky r y) (hxy : x < y) : bf r x y := by unfold bf; omega

structure Seg (a b : Nat) (D D' : List Int) : Prop where
  len : D'.length = D.length
  perm : D'.Perm D
  out : ∀ k, k < a ∨ b ≤ k → ix D' k = ix D k
  inn : ∀ k, a ≤ k → k < b → ∃ j, a ≤ j ∧ j < b ∧ ix D' k = ix D j
theorem Seg.refl (a b : Nat) (D : List Int) : Seg a b D D := ⟨rfl, .refl _, fun _ _ => rfl, fun k h1 h2 => ⟨k, h1, h2, rfl⟩⟩
theorem Seg.trans {a b : Nat} {D E F : List Int} (h : Seg a b D E) (k : Seg a b E F) : Seg a b D F :=
  ⟨k.len.trans h.len, k.perm.trans h.perm, fun i hi => (k.out i hi).trans (h.out i hi), fun i h1 h2 => by
    obtain ⟨j, j1, j2, e⟩ := k.inn i h1 h2
    obtain ⟨m, m1, m2, e2⟩ := h.inn j j1 j2
    exact ⟨m, m1, m2, e.trans e2⟩⟩
theorem Seg.mono {a b c d : Nat} {D E : List Int} (h : Seg a b D E) (h1 : c ≤ a) (h2 : b ≤ d) : Seg c d D E :=
  ⟨h.len, h.perm, fun i hi => h.out i (by omega), fun i i1 i2 => by
    by_cases hi : a ≤ i ∧ i < b
    · obtain ⟨j, j1, j2, e⟩ := h.inn i hi.1 hi.2
      exact ⟨j, by omega, by omega, e⟩
    · exact ⟨i, i1, i2, h.out i (by omega)⟩⟩

def swp (D : List Int) (i j : Nat) : List Int := (D.set i (ix D j)).set j (ix D i)
theorem swp_len (D : List Int) (i j : Nat) : (swp D i j).length = D.length := by simp [swp]
theorem getD_setI {L : List Int} {k m : Nat} (hk : k < L.length) (v : Int) : (L.set k v).getD m 0 = if m = k then v else L.getD m 0 := by
  simp only [List.getD, List.getElem?_set]
  by_cases e : k = m
  · subst e; simp [hk]
  · rw [if_neg e, if_neg (fun h => e h.symm)]
theorem ix_swp {D : List Int} {i j k : Nat} (hi : i < D.length) (hj : j < D.length) : ix (swp D i j) k = if k = j then ix D i else if k = i then ix D j else ix D k := by
  unfold swp ix
  rw [getD_setI (by simpa using hj), getD_setI hi]
theorem swp_perm {D : List Int} {i j : Nat} (hi : i < D.length) (hj : j < D.length) : (swp D i j).Perm D := by
  unfold swp ix
  rw [getD_lt hi, getD_lt hj]
  exact List.set_set_perm hi hj
theorem Seg.swap {D : List Int} {a b i j : Nat} (hb : b ≤ D.length) (h1 : a ≤ i) (h2 : i < b) (h3 : a ≤ j) (h4 : j < b) : Seg a b D (swp D i j) :=
  ⟨swp_len _ _ _, swp_perm (by omega) (by omega), fun k hk => by rw [ix_swp (by omega) (by omega), if_neg (by omega), if_neg (by omega)], fun k k1 k2 => by
    rw [ix_swp (by omega) (by omega)]
    split
    · exact ⟨i, h1, h2, rfl⟩
    split
    · exact ⟨j, h3, h4, rfl⟩
    · exact ⟨k, k1, k2, rfl⟩⟩

def Srt (r D : List Int) (a b : Nat) : Prop := ∀ i j, a ≤ i → i < j → j < b → bf r (ix D i) (ix D j)
theorem Srt.le {r D : List Int} {a b i j : Nat} (h : Srt r D a b) (h1 : a ≤ i) (h2 : i ≤ j) (h3 : j < b) : ky r (ix D j) ≤ ky r (ix D i) := by
  by_cases e : i = j
  · subst e; exact Int.le_refl _
  · exact bf_le (h i j h1 (by omega) h3)

/-- Insertion: the element x stands at j, all else up to i is in order. -/
structure Ins (r D0 : List Int) (a i j : Nat) (D : List Int) : Prop where
  seg : Seg a (i + 1) D0 D
  lo : a ≤ j
  hi : j ≤ i
  ahead : ∀ p, a ≤ p → p ≤ i → p ≠ j → ix D p < ix D j
  pair : ∀ p q, a ≤ p → p < q → q ≤ i → p ≠ j → q ≠ j → bf r (ix D p) (ix D q)
  mine : ∀ q, j < q → q ≤ i → bf r (ix D j) (ix D q)
theorem Ins.start {r D0 D : List Int} {a i : Nat} (hs : Seg a i D0 D) (ho : Srt r D a i) (ha : a ≤ i) (hasc : ∀ p, a ≤ p → p < i → ix D0 p < ix D0 i) : Ins r D0 a i i D :=
  ⟨hs.mono (Nat.le_refl _) (by omega), ha, Nat.le_refl _, fun p h1 h2 h3 => by
    obtain ⟨j, j1, j2, e⟩ := hs.inn p h1 (by omega)
    rw [e, hs.out i (by omega)]
    exact hasc j j1 j2, fun p q h1 h2 h3 h4 h5 => ho p q h1 h2 (by omega), fun q h1 h2 => by omega⟩
theorem Ins.next {r D0 D : List Int} {a i j : Nat} (h : Ins r D0 a i j D) (hl : i < D.length) (hj : a < j) (hc : ky r (ix D (j - 1)) < ky r (ix D j)) : Ins r D0 a i (j - 1) (swp D j (j - 1)) := by
  have hlo := h.lo
  have hhi := h.hi
  have e : ∀ k, ix (swp D j (j - 1)) k = if k = j - 1 then ix D j else if k = j then ix D (j - 1) else ix D k := fun k => ix_swp (by omega) (by omega)
  have ej : ix (swp D j (j - 1)) (j - 1) = ix D j := by rw [e, if_pos rfl]
  have e1 : ∀ k, k ≠ j → k ≠ j - 1 → ix (swp D j (j - 1)) k = ix D k := fun k h1 h2 => by rw [e, if_neg h2, if_neg h1]
  have e2 : ix (swp D j (j - 1)) j = ix D (j - 1) := by rw [e, if_neg (by omega), if_pos rfl]
  refine ⟨h.seg.trans (Seg.swap (by omega) (by omega) (by omega) (by omega) (by omega)), by omega, by omega, fun p h1 h2 h3 => ?_, fun p q h1 h2 h3 h4 h5 => ?_, fun q h1 h2 => ?_⟩
  · rw [ej]
    by_cases hp : p = j
    · rw [hp, e2]; exact h.ahead _ (by omega) (by omega) (by omega)
    · rw [e1 p hp h3]; exact h.ahead _ h1 h2 hp
  · by_cases hp : p = j
    · rw [hp, e2, e1 q (by omega) h5]; exact h.pair _ _ (by omega) (by omega) h3 (by omega) (by omega)
    · rw [e1 p hp h4]
      by_cases hq : q = j
      · rw [hq, e2]; exact h.pair _ _ h1 (by omega) (by omega) hp (by omega)
      · rw [e1 q hq h5]; exact h.pair _ _ h1 h2 h3 hp hq
  · rw [ej]
    by_cases hq : q = j
    · rw [hq, e2]; exact bf_key hc
    · rw [e1 q hq (by omega)]; exact h.mine q (by omega) h2
theorem Ins.done {r D0 D : List Int} {a i j : Nat} (h : Ins r D0 a i j D) (hc : j = a ∨ ¬ ky r (ix D (j - 1)) < ky r (ix D j)) : Srt r D a (i + 1) := by
  have hlo := h.lo
  have hhi := h.hi
  have key : ∀ p, a ≤ p → p < j → bf r (ix D p) (ix D j) := by
    intro p h1 h2
    have hc' : ¬ ky r (ix D (j - 1)) < ky r (ix D j) := by
      rcases hc with e | e
      · omega
      · exact e
    have hb : bf r (ix D (j - 1)) (ix D j) := bf_not hc' (h.ahead _ (by omega) (by omega) (by omega))
    by_cases e : p = j - 1
    · rw [e]; exact hb
    · exact bf_trans (h.pair p (j - 1) h1 (by omega) (by omega) (by omega) (by omega)) hb
  intro p q h1 h2 h3
  by_cases e1 : p = j
  · rw [e1]; exact h.mine q (by omega) (by omega)
  · by_cases e2 : q = j
    · rw [e2]; exact key p h1 (by omega)
    · exact h.pair p q h1 h2 (by omega) e1 e2

/-- Two ranges of n change places, the first i of them done. -/
def swr (f : Nat → Int) (a b i k : Nat) : Int := if a ≤ k ∧ k < a + i then f (b + (k - a)) else if b ≤ k ∧ k < b + i then f (a + (k - b)) else f k
theorem swr_zero (f : Nat → Int) (a b k : Nat) : swr f a b 0 k = f k := by unfold swr; rw [if_neg (by omega), if_neg (by omega)]
theorem swr_next {D E : List Int} {a b i n : Nat} (hab : a + n ≤ b) (hi : i < n) (hl : b + n ≤ E.length) (h : ∀ k, ix E k = swr (ix D) a b i k) : ∀ k, ix (swp E (a + i) (b + i)) k = swr (ix D) a b (i + 1) k := by
  intro k
  rw [ix_swp (by omega) (by omega)]
  by_cases e1 : k = b + i
  · rw [if_pos e1, h, swr, if_neg (by omega), if_neg (by omega), swr, if_neg (by omega), if_pos (by omega), show a + (k - b) = a + i by omega]
  · rw [if_neg e1]
    by_cases e2 : k = a + i
    · rw [if_pos e2, h, swr, if_neg (by omega), if_neg (by omega), swr, if_pos (by omega), show b + (k - a) = b + i by omega]
    · rw [if_neg e2, h]
      unfold swr
      by_cases c1 : a ≤ k ∧ k < a + i
      · rw [if_pos c1, if_pos (by omega)]
      · by_cases c2 : b ≤ k ∧ k < b + i
        · rw [if_neg c1, if_pos c2, if_neg (by omega), if_pos (by omega)]
        · rw [if_neg c1, if_neg c2, if_neg (by omega), if_neg (by omega)]

/-- The blocks a .. m and m .. b change places. -/
def rot (f : Nat → Int) (a m b k : Nat) : Int := if a ≤ k ∧ k < a + (b - m) then f (m + (k - a)) else if a + (b - m) ≤ k ∧ k < b then f (k - (b - m)) else f k
theorem rot_left {f g : Nat → Int} {m i j : Nat} (hm : i ≤ m) (hj : 0 < j) (hij : j < i) (h : ∀ k, g k = swr f (m - i) m j k) : ∀ k, rot g (m - (i - j)) m (m + j) k = rot f (m - i) m (m + j) k := by
  intro k
  unfold rot
  simp only [h]
  unfold swr
  by_cases c1 : m - i ≤ k ∧ k < m - i + (m + j - m)
  · rw [if_pos c1, if_neg (by omega), if_neg (by omega), if_pos (by omega)]
  · rw [if_neg c1]
    by_cases c2 : m - i + (m + j - m) ≤ k ∧ k < m + j
    · rw [if_pos c2]
      by_cases c3 : m - (i - j) ≤ k ∧ k < m - (i - j) + (m + j - m)
      · rw [if_pos c3, if_neg (by omega), if_pos (by omega)]; congr 1; omega
      · rw [if_neg c3, if_pos (by omega), if_neg (by omega), if_neg (by omega)]
    · rw [if_neg c2, if_neg (by omega), if_neg (by omega), if_neg (by omega), if_neg (by omega)]
theorem rot_right {f g : Nat → Int} {m i j : Nat} (hm : i ≤ m) (hi : 0 < i) (hij : i < j) (h : ∀ k, g k = swr f (m - i) (m + j - i) i k) : ∀ k, rot g (m - i) m (m + (j - i)) k = rot f (m - i) m (m + j) k := by
  intro k
  unfold rot
  simp only [h]
  unfold swr
  by_cases c1 : m - i ≤ k ∧ k < m - i + (m + (j - i) - m)
  · rw [if_pos c1, if_neg (by omega), if_neg (by omega), if_pos (by omega)]
  · rw [if_neg c1]
    by_cases c2 : m - i + (m + (j - i) - m) ≤ k ∧ k < m + (j - i)
    · rw [if_pos c2, if_pos (by omega), if_pos (by omega)]; congr 1; omega
    · rw [if_neg c2]
      by_cases c3 : m + j - i ≤ k ∧ k < m + j - i + i
      · rw [if_neg (by omega), if_pos c3, if_neg (by omega), if_pos (by omega)]; congr 1; omega
      · rw [if_neg (by omega), if_neg c3, if_neg (by omega), if_neg (by omega)]
theorem rot_end {f : Nat → Int} {m i k : Nat} (hm : i ≤ m) : swr f (m - i) m i k = rot f (m - i) m (m + i) k := by
  unfold rot swr
  by_cases c1 : m - i ≤ k ∧ k < m - i + i
  · rw [if_pos c1, if_pos (by omega)]
  · by_cases c2 : m ≤ k ∧ k < m + i
    · rw [if_neg c1, if_pos c2, if_neg (by omega), if_pos (by omega)]; congr 1; omega
    · rw [if_neg c1, if_neg c2, if_neg (by omega), if_neg (by omega)]
theorem rot_none {f : Nat → Int} {t m e : Nat} (ht : t ≤ m) (hm : m ≤ e) (h : t = m ∨ m = e) (k : Nat) : rot f t m e k = f k := by
  unfold rot
  by_cases c1 : t ≤ k ∧ k < t + (e - m)
  · rw [if_pos c1]; congr 1; omega
  · rw [if_neg c1]
    by_cases c2 : t + (e - m) ≤ k ∧ k < e
    · rw [if_pos c2]; congr 1; omega
    · rw [if_neg c2]

/-- What a merge asks for. -/
structure Mrg (r D : List Int) (a m b : Nat) : Prop where
  le : b ≤ D.length
  left : Srt r D a m
  right : Srt r D m b
  cross : ∀ p q, a ≤ p → p < m → m ≤ q → q < b → ix D p < ix D q
/-- What it leaves. -/
def Mgd (r D : List Int) (a b : Nat) (E : List Int) : Prop := Seg a b D E ∧ Srt r E a b

/-- Rotating the first element behind the place i. -/
theorem mrg_first {r D E : List Int} {a b i : Nat} (h : Mrg r D a (a + 1) b) (h1 : a + 1 ≤ i) (h2 : i ≤ b)
    (hlo : ∀ q, a + 1 ≤ q → q < i → ky r (ix D a) < ky r (ix D q)) (hhi : ∀ q, i ≤ q → q < b → ¬ ky r (ix D a) < ky r (ix D q))
    (hs : Seg a b D E) (e1 : ∀ k, a ≤ k → k < i - 1 → ix E k = ix D (k + 1)) (e2 : ix E (i - 1) = ix D a) (e3 : ∀ k, i ≤ k → ix E k = ix D k) : Mgd r D a b E := by
  refine ⟨hs, fun p q p1 pq q1 => ?_⟩
  have hx : ∀ q, i ≤ q → q < b → bf r (ix D a) (ix D q) := fun q h3 h4 => bf_not (hhi q h3 h4) (h.cross a q (Nat.le_refl _) (by omega) (by omega) h4)
  by_cases c1 : q < i - 1
  · rw [e1 p p1 (by omega), e1 q (by omega) c1]; exact h.right _ _ (by omega) (by omega) (by omega)
  by_cases c2 : q = i - 1
  · rw [c2, e2, e1 p p1 (by omega)]; exact bf_key (hlo _ (by omega) (by omega))
  rw [e3 q (by omega)]
  by_cases c3 : p < i - 1
  · rw [e1 p p1 c3]; exact h.right _ _ (by omega) (by omega) (by omega)
  by_cases c4 : p = i - 1
  · rw [c4, e2]; exact hx q (by omega) q1
  · rw [e3 p (by omega)]; exact h.right _ _ (by omega) pq q1
/-- Rotating the last element to the place i. -/
theorem mrg_last {r D E : List Int} {a m i : Nat} (h : Mrg r D a m (m + 1)) (h1 : a ≤ i) (h2 : i ≤ m)
    (hlo : ∀ q, a ≤ q → q < i → ¬ ky r (ix D q) < ky r (ix D m)) (hhi : ∀ q, i ≤ q → q < m → ky r (ix D q) < ky r (ix D m))
    (hs : Seg a (m + 1) D E) (e1 : ∀ k, i < k → k ≤ m → ix E k = ix D (k - 1)) (e2 : ix E i = ix D m) (e3 : ∀ k, k < i → ix E k = ix D k) : Mgd r D a (m + 1) E := by
  refine ⟨hs, fun p q p1 pq q1 => ?_⟩
  have hx : ∀ q, a ≤ q → q < i → bf r (ix D q) (ix D m) := fun q h3 h4 => bf_not (hlo q h3 h4) (h.cross q m h3 (by omega) (Nat.le_refl _) (by omega))
  by_cases c1 : q < i
  · rw [e3 p (by omega), e3 q c1]; exact h.left _ _ p1 pq (by omega)
  by_cases c2 : q = i
  · rw [c2, e2, e3 p (by omega)]; exact hx p p1 (by omega)
  rw [e1 q (by omega) (by omega)]
  by_cases c3 : p < i
  · rw [e3 p c3]; exact h.left _ _ p1 (by omega) (by omega)
  by_cases c4 : p = i
  · rw [c4, e2]; exact bf_key (hhi _ (by omega) (by omega))
  · rw [e1 p (by omega) (by omega)]; exact h.left _ _ (by omega) (by omega) (by omega)

/-- The first element on its way up to k; the last one on its way down to k. -/
structure MvU (D : List Int) (a b k : Nat) (E : List Int) : Prop where
  seg : Seg a b D E
  done : ∀ p, a ≤ p → p < k → ix E p = ix D (p + 1)
  me : ix E k = ix D a
  rest : ∀ p, k < p → ix E p = ix D p
theorem MvU.start (D : List Int) (a b : Nat) : MvU D a b a D := ⟨Seg.refl _ _ _, fun p h1 h2 => by omega, rfl, fun _ _ => rfl⟩
theorem MvU.next {D E : List Int} {a b k : Nat} (h : MvU D a b k E) (ha : a ≤ k) (hk : k + 1 < b) (hb : b ≤ D.length) : MvU D a b (k + 1) (swp E k (k + 1)) := by
  have hl := h.seg.len
  have e : ∀ p, ix (swp E k (k + 1)) p = if p = k + 1 then ix E k else if p = k then ix E (k + 1) else ix E p := fun p => ix_swp (by omega) (by omega)
  refine ⟨h.seg.trans (Seg.swap (by omega) ha (by omega) (by omega) hk), fun p h1 h2 => ?_, ?_, fun p h1 => ?_⟩
  · by_cases c : p = k
    · rw [e, if_neg (by omega), if_pos c, h.rest _ (by omega), c]
    · rw [e, if_neg (by omega), if_neg c, h.done p h1 (by omega)]
  · rw [e, if_pos rfl, h.me]
  · rw [e, if_neg (by omega), if_neg (by omega), h.rest p (by omega)]
structure MvD (D : List Int) (a m k : Nat) (E : List Int) : Prop where
  seg : Seg a (m + 1) D E
  done : ∀ p, k < p → p ≤ m → ix E p = ix D (p - 1)
  me : ix E k = ix D m
  rest : ∀ p, p < k → ix E p = ix D p
theorem MvD.start (D : List Int) (a m : Nat) : MvD D a m m D := ⟨Seg.refl _ _ _, fun p h1 h2 => by omega, rfl, fun _ _ => rfl⟩
theorem MvD.next {D E : List Int} {a m k : Nat} (h : MvD D a m k E) (ha : a < k) (hk : k ≤ m) (hb : m + 1 ≤ D.length) : MvD D a m (k - 1) (swp E k (k - 1)) := by
  have hl := h.seg.len
  have e : ∀ p, ix (swp E k (k - 1)) p = if p = k - 1 then ix E k else if p = k then ix E (k - 1) else ix E p := fun p => ix_swp (by omega) (by omega)
  refine ⟨h.seg.trans (Seg.swap (by omega) (by omega) (by omega) (by omega) (by omega)), fun p h1 h2 => ?_, ?_, fun p h1 => ?_⟩
  · by_cases c : p = k
    · rw [e, if_neg (by omega), if_pos c, h.rest _ (by omega), c]
    · rw [e, if_neg (by omega), if_neg c, h.done p (by omega) h2]
  · rw [e, if_pos rfl, h.me]
  · rw [e, if_neg (by omega), if_neg (by omega), h.rest p (by omega)]

/-- Where the two halves are cut: s0, r0: the search's ends. -/
structure Cut (r D : List Int) (a m b mid t : Nat) : Prop where
  mide : mid = (a + b) / 2
  am : a < m
  mb : m < b
  lo : a ≤ t
  hi : t ≤ mid
  tm : t ≤ m
  eb : mid + m - t ≤ b
  low : ∀ c, a ≤ c → c + 1 = t → mid + m - t < b → ¬ ky r (ix D c) < ky r (ix D (mid + m - t))
  high : t < m → t < mid → ky r (ix D t) < ky r (ix D (mid + m - t - 1))
section
variable {r D : List Int} {a m b mid t : Nat}
theorem Cut.em (h : Cut r D a m b mid t) : m ≤ mid + m - t := by have := h.hi; omega
/-- What the halves have, once they have changed places. -/
structure Half (r D1 : List Int) (a b mid t e : Nat) : Prop where
  l1 : Srt r D1 a t
  l2 : Srt r D1 t mid
  lc : ∀ p q, a ≤ p → p < t → t ≤ q → q < mid → ix D1 p < ix D1 q
  r1 : Srt r D1 mid e
  r2 : Srt r D1 e b
  rc : ∀ p q, mid ≤ p → p < e → e ≤ q → q < b → ix D1 p < ix D1 q
  sep : ∀ p q, a ≤ p → p < mid → mid ≤ q → q < b → bf r (ix D1 p) (ix D1 q)
theorem Cut.half {D1 : List Int} (h : Cut r D a m b mid t) (hm : Mrg r D a m b) (he : ∀ k, ix D1 k = rot (ix D) t m (mid + m - t) k) : Half r D1 a b mid t (mid + m - t) := by
  obtain ⟨c1, c2, c3, c4, c5, c6, c7, low, high⟩ := h
  have hmid1 : a ≤ mid ∧ mid < b := by omega
  obtain ⟨e, hee⟩ : ∃ e, e = mid + m - t := ⟨_, rfl⟩
  rw [← hee] at he c7 low high ⊢
  have k1 : ∀ k, k < t → ix D1 k = ix D k := fun k hk => by rw [he, rot, if_neg (by omega), if_neg (by omega)]
  have k2 : ∀ k, t ≤ k → k < mid → ix D1 k = ix D (m + (k - t)) := fun k h1 h2 => by rw [he, rot, if_pos (by omega)]
  have k3 : ∀ k, mid ≤ k → k < e → ix D1 k = ix D (k - (e - m)) := fun k h1 h2 => by rw [he, rot, if_neg (by omega), if_pos (by omega)]
  have k4 : ∀ k, e ≤ k → ix D1 k = ix D k := fun k hk => by rw [he, rot, if_neg (by omega), if_neg (by omega)]
  -- left against right, right against left
  have s1 : ∀ p q, a ≤ p → p < t → e ≤ q → q < b → bf r (ix D p) (ix D q) := by
    intro p q h1 h2 h3 h4
    have hx : bf r (ix D (t - 1)) (ix D e) := bf_not (low (t - 1) (by omega) (by omega) (by omega)) (hm.cross _ _ (by omega) (by omega) (by omega) (by omega))
    have hy : bf r (ix D p) (ix D e) := by
      by_cases g : p = t - 1
      · rw [g]; exact hx
      · exact bf_trans (hm.left p (t - 1) h1 (by omega) (by omega)) hx
    by_cases g : q = e
    · rw [g]; exact hy
    · exact bf_trans hy (hm.right e q (by omega) (by omega) h4)
  have s2 : ∀ p q, t ≤ p → p < m → m ≤ q → q < e → bf r (ix D q) (ix D p) := by
    intro p q h1 h2 h3 h4
    have hx : bf r (ix D (e - 1)) (ix D t) := bf_key (high (by omega) (by omega))
    have hy : bf r (ix D q) (ix D t) := by
      by_cases g : q = e - 1
      · rw [g]; exact hx
      · exact bf_trans (hm.right q (e - 1) h3 (by omega) (by omega)) hx
    by_cases g : p = t
    · rw [g]; exact hy
    · exact bf_trans hy (hm.left t p (by omega) (by omega) h2)
  refine ⟨fun p q h1 h2 h3 => ?_, fun p q h1 h2 h3 => ?_, fun p q h1 h2 h3 h4 => ?_, fun p q h1 h2 h3 => ?_, fun p q h1 h2 h3 => ?_, fun p q h1 h2 h3 h4 => ?_, fun p q h1 h2 h3 h4 => ?_⟩
  · rw [k1 p (by omega), k1 q h3]; exact hm.left _ _ h1 h2 (by omega)
  · rw [k2 p h1 (by omega), k2 q (by omega) h3]; exact hm.right _ _ (by omega) (by omega) (by omega)
  · rw [k1 p h2, k2 q h3 h4]; exact hm.cross _ _ h1 (by omega) (by omega) (by omega)
  · rw [k3 p h1 (by omega), k3 q (by omega) h3]; exact hm.left _ _ (by omega) (by omega) (by omega)
  · rw [k4 p h1, k4 q (by omega)]; exact hm.right _ _ (by omega) h2 h3
  · rw [k3 p h1 h2, k4 q h3]; exact hm.cross _ _ (by omega) (by omega) (by omega) h4
  · by_cases g1 : p < t
    · rw [k1 p g1]
      by_cases g2 : q < e
      · rw [k3 q h3 g2]; exact hm.left _ _ h1 (by omega) (by omega)
      · rw [k4 q (by omega)]; exact s1 p q h1 g1 (by omega) h4
    · rw [k2 p (by omega) h2]
      by_cases g2 : q < e
      · rw [k3 q h3 g2]; exact s2 _ _ (by omega) (by omega) (by omega) (by omega)
      · rw [k4 q (by omega)]; exact hm.right _ _ (by omega) (by omega) h4
end
/-- What the search for the cut knows. -/
structure Srch (r D : List Int) (a m b mid s t : Nat) : Prop where
  lo : ∀ c, a ≤ c → mid + m - b ≤ c → c < s → ¬ ky r (ix D c) < ky r (ix D (mid + m - 1 - c))
  hi : ∀ c, t ≤ c → c < m → c < mid → ky r (ix D c) < ky r (ix D (mid + m - 1 - c))
theorem Srch.cut {r D : List Int} {a m b mid t : Nat} (h : Srch r D a m b mid t t) (hmid : mid = (a + b) / 2) (ham : a < m) (hmb : m < b) (h1 : a ≤ t) (h2 : mid + m - b ≤ t) (h3 : t ≤ m) (h4 : t ≤ mid) : Cut r D a m b mid t :=
  ⟨hmid, ham, hmb, h1, h4, h3, by omega, fun c c1 c2 c3 => by have := h.lo c c1 (by omega) (by omega); rwa [show mid + m - 1 - c = mid + m - t by omega] at this,
    fun c1 c2 => by have := h.hi t (Nat.le_refl _) c1 c2; rwa [show mid + m - 1 - t = mid + m - t - 1 by omega] at this⟩
theorem Srch.up {r D : List Int} {a m b mid s t c : Nat} (h : Srch r D a m b mid s t) (hm : Mrg r D a m b) (hmid : mid = (a + b) / 2) (hcm : c < m) (hcmid : c < mid) (hc : ¬ ky r (ix D c) < ky r (ix D (mid + m - 1 - c))) : Srch r D a m b mid (c + 1) t :=
  ⟨fun q q1 q2 q3 => by
    have k1 := hm.left.le (i := q) (j := c) q1 (by omega) hcm
    have k2 := hm.right.le (i := mid + m - 1 - c) (j := mid + m - 1 - q) (by omega) (by omega) (by omega)
    omega, h.hi⟩
theorem Srch.down {r D : List Int} {a m b mid s t c : Nat} (h : Srch r D a m b mid s t) (hm : Mrg r D a m b) (hmid : mid = (a + b) / 2) (hsa : a ≤ c) (hsb : mid + m - b ≤ c) (hc : ky r (ix D c) < ky r (ix D (mid + m - 1 - c))) : Srch r D a m b mid s c :=
  ⟨h.lo, fun q q1 q2 q3 => by
    have k1 := hm.left.le (i := c) (j := q) hsa q1 q2
    have k2 := hm.right.le (i := mid + m - 1 - q) (j := mid + m - 1 - c) (by omega) (by omega) (by omega)
    omega⟩
theorem half_left {r D1 : List Int} {a b mid t e : Nat} (h : Half r D1 a b mid t e) (ht : t = a ∨ t = mid) : Srt r D1 a mid := by
  rcases ht with rfl | rfl
  · exact h.l2
  · exact h.l1
/-- The two halves merged. -/
theorem half_done {r D D1 D2 D3 : List Int} {a b mid t e : Nat} (h0 : Seg a b D D1) (h : Half r D1 a b mid t e) (hab : a ≤ mid ∧ mid ≤ b) (hl : Mgd r D1 a mid D2) (hr : Mgd r D2 mid b D3) : Mgd r D a b D3 := by
  refine ⟨(h0.trans (hl.1.mono (Nat.le_refl _) hab.2)).trans (hr.1.mono hab.1 (Nat.le_refl _)), fun p q h1 h2 h3 => ?_⟩
  by_cases c1 : q < mid
  · rw [hr.1.out p (by omega), hr.1.out q (by omega)]; exact hl.2 p q h1 h2 c1
  by_cases c2 : mid ≤ p
  · exact hr.2 p q c2 h2 h3
  · rw [hr.1.out p (by omega)]
    obtain ⟨p', a1, a2, e1⟩ := hl.1.inn p h1 (by omega)
    obtain ⟨q', b1, b2, e2⟩ := hr.1.inn q (by omega) h3
    rw [e1, e2, hl.1.out q' (by omega)]
    exact h.sep p' q' a1 a2 b1 b2

end Go.Proofs.Ytogoknldhimgfaa

/- Spells, work and rest in numbers (mathematics alone). -/
import Derived.Test.YticminoejikdfaaRecs
namespace Go.Proofs.Yticminoejikdfaa

abbrev fr (L : List I2) (i : Nat) : Int := (L.getD i default).1
abbrev tw (L : List I2) (i : Nat) : Int := (L.getD i default).2
def spGood (L : List I2) (i : Nat) : Prop := 0 ≤ fr L i ∧ fr L i < tw L i ∧ tw L i ≤ 100000000 ∧ (i = 0 ∨ tw L (i - 1) ≤ fr L i)
instance (L : List I2) (i : Nat) : Decidable (spGood L i) := by unfold spGood; infer_instance
def Sp (L : List I2) : Prop := L.length ≤ 100 ∧ ∀ i, i < L.length → spGood L i
instance (L : List I2) : Decidable (Sp L) := by unfold Sp; infer_instance
def spB (L : List I2) : Bool := decide (Sp L)

theorem Sp.chain {L : List I2} (h : Sp L) {i j : Nat} (hij : i < j) (hj : j < L.length) : tw L i ≤ fr L j := by
  induction j with
  | zero => omega
  | succ j ih =>
    obtain ⟨h1, h2, h3, h4⟩ := h.2 (j + 1) hj
    have h5 : tw L j ≤ fr L (j + 1) := by
      rcases h4 with h4 | h4
      · omega
      · exact h4
    by_cases e : i = j
    · subst e; exact h5
    · have h6 := ih (by omega) (by omega)
      obtain ⟨-, h7, -, -⟩ := h.2 j (by omega)
      omega

/-- How many minutes of a spell lie in a .. b. -/
def pc (s : I2) (a b : Int) : Int := max 0 (min s.2 b - max s.1 a)
def wk (L : List I2) (a b : Int) : Nat → Int
  | 0 => 0
  | k + 1 => wk L a b k + pc (L.getD k default) a b
theorem pc_bd {L : List I2} (h : Sp L) {i : Nat} (hi : i < L.length) (a b : Int) : 0 ≤ pc (L.getD i default) a b ∧ pc (L.getD i default) a b ≤ 100000000 := by
  obtain ⟨h1, h2, h3, -⟩ := h.2 i hi
  unfold pc
  unfold fr tw at *
  omega
theorem wk_bd {L : List I2} (h : Sp L) (a b : Int) : ∀ k, k ≤ L.length → 0 ≤ wk L a b k ∧ wk L a b k ≤ 100000000 * (k : Int) := by
  intro k
  induction k with
  | zero => intro _; simp [wk]
  | succ k ih =>
    intro hk
    have h1 := ih (by omega)
    have h2 := pc_bd h (i := k) (by omega) a b
    simp only [wk]
    omega
/-- Minutes of work ahead of m. -/
def cl (s : I2) (m : Int) : Int := max 0 (min s.2 m - s.1)
def cw (L : List I2) (m : Int) : Nat → Int
  | 0 => 0
  | k + 1 => cw L m k + cl (L.getD k default) m
theorem wk_cw {L : List I2} (h : Sp L) {a b : Int} (hab : a ≤ b) : ∀ k, k ≤ L.length → wk L a b k = cw L b k - cw L a k := by
  intro k
  induction k with
  | zero => intro _; simp [wk, cw]
  | succ k ih =>
    intro hk
    have h1 := ih (by omega)
    obtain ⟨h2, h3, h4, -⟩ := h.2 k (by omega)
    simp only [wk, cw, h1, pc, cl]
    unfold fr tw at *
    omega
theorem cw_zero {L : List I2} (h : Sp L) : ∀ k, k ≤ L.length → cw L 0 k = 0 := by
  intro k
  induction k with
  | zero => intro _; rfl
  | succ k ih =>
    intro hk
    obtain ⟨h2, h3, h4, -⟩ := h.2 k (by omega)
    simp only [cw, ih (by omega), cl]
    unfold fr tw at *
    omega
theorem cw_bd {L : List I2} (h : Sp L) {m : Int} (hm : 0 ≤ m) : 0 ≤ cw L m L.length ∧ cw L m L.length ≤ 10000000000 := by
  have h1 := wk_cw h hm L.length (Nat.le_refl _)
  have h2 := wk_bd h 0 m L.length (Nat.le_refl _)
  rw [cw_zero h _ (Nat.le_refl _)] at h1
  have h3 : (L.length : Int) ≤ 100 := by have := h.1; omega
  omega
/-- Whether the minute m is one of work of the first k spells. -/
def on1 (L : List I2) (m : Int) : Nat → Int
  | 0 => 0
  | k + 1 => if fr L k ≤ m ∧ m < tw L k then 1 else on1 L m k
theorem on1_bd (L : List I2) (m : Int) : ∀ k, 0 ≤ on1 L m k ∧ on1 L m k ≤ 1 := by
  intro k
  induction k with
  | zero => simp [on1]
  | succ k ih => simp only [on1]; split <;> omega
theorem on1_none (L : List I2) (m : Int) : ∀ k, (∀ i, i < k → tw L i ≤ m) → on1 L m k = 0 := by
  intro k
  induction k with
  | zero => intro _; rfl
  | succ k ih =>
    intro h
    simp only [on1]
    have := h k (by omega)
    rw [if_neg (by omega)]
    exact ih fun i hi => h i (by omega)
theorem cw_step {L : List I2} (h : Sp L) {m : Int} : ∀ k, k ≤ L.length → cw L (m + 1) k = cw L m k + on1 L m k := by
  intro k
  induction k with
  | zero => intro _; simp [cw, on1]
  | succ k ih =>
    intro hk
    have h1 := ih (by omega)
    obtain ⟨h2, h3, h4, -⟩ := h.2 k (by omega)
    by_cases hin : fr L k ≤ m ∧ m < tw L k
    · have h5 := on1_none L m k fun i hi => by have := h.chain hi (by omega); omega
      simp only [cw, on1, if_pos hin, h1, h5, cl]
      unfold fr tw at *
      omega
    · simp only [cw, on1, if_neg hin, h1, cl]
      unfold fr tw at *
      omega

/-- From x on 360 minutes are without work. -/
def Free (L : List I2) (x : Int) : Prop := ∀ i, i < L.length → tw L i ≤ x ∨ x + 360 ≤ fr L i
theorem wk_free {L : List I2} (h : Sp L) (x : Int) : wk L x (x + 360) L.length = 0 ↔ Free L x := by
  have key : ∀ k, k ≤ L.length → (wk L x (x + 360) k = 0 ↔ ∀ i, i < k → tw L i ≤ x ∨ x + 360 ≤ fr L i) := by
    intro k
    induction k with
    | zero => intro _; simp [wk]
    | succ k ih =>
      intro hk
      have h1 := ih (by omega)
      have h2 := wk_bd h x (x + 360) k (by omega)
      obtain ⟨h3, h4, h5, -⟩ := h.2 k (by omega)
      have h6 : pc (L.getD k default) x (x + 360) = 0 ↔ (tw L k ≤ x ∨ x + 360 ≤ fr L k) := by unfold pc fr tw at *; omega
      have h7 := pc_bd h (i := k) (by omega) x (x + 360)
      simp only [wk]
      constructor
      · intro e i hi
        by_cases hik : i = k
        · subst hik; exact h6.1 (by omega)
        · exact h1.1 (by omega) i (by omega)
      · intro e
        rw [h1.2 fun i hi => e i (by omega), h6.2 (e k (by omega))]; rfl
  exact key _ (Nat.le_refl _)
/-- In a .. b there are 360 minutes in a row without work. -/
def Split (L : List I2) (a b : Int) : Prop := ∃ x, a ≤ x ∧ x + 360 ≤ b ∧ Free L x
open Classical in
noncomputable def splitB (L : List I2) (a b : Int) : Bool := decide (Split L a b)

/-- What the search for such a row knows ahead of spell i, with all free from f on. -/
structure SpI (L : List I2) (a b : Int) (i : Nat) (f : Int) : Prop where
  lo : a ≤ f
  hi : f ≤ 100000000
  past : ∀ j, j < i → tw L j ≤ f
  none : ∀ x, a ≤ x → x < f → ¬ Free L x
theorem SpI.start {L : List I2} {a b : Int} (ha : a ≤ 100000000) : SpI L a b 0 a := ⟨Int.le_refl _, ha, fun j hj => by omega, fun x h1 h2 => by omega⟩
theorem SpI.pass {L : List I2} {a b f : Int} {i : Nat} (h : SpI L a b i f) (h1 : tw L i ≤ a) : SpI L a b (i + 1) f :=
  ⟨h.lo, h.hi, fun j hj => by
    by_cases e : j = i
    · subst e; have := h.lo; omega
    · exact h.past j (by omega), h.none⟩
theorem SpI.next {L : List I2} {a b f : Int} {i : Nat} (h : SpI L a b i f) (hS : Sp L) (hi : i < L.length) (h1 : a < tw L i) (h2 : fr L i - f < 360) : SpI L a b (i + 1) (tw L i) := by
  obtain ⟨g1, g2, g3, -⟩ := hS.2 i hi
  refine ⟨by omega, by omega, fun j hj => ?_, fun x h3 h4 hF => ?_⟩
  · by_cases e : j = i
    · subst e; omega
    · have := hS.chain (i := j) (j := i) (by omega) hi; omega
  · by_cases hx : x < f
    · exact h.none x h3 hx hF
    · rcases hF i hi with q | q <;> omega
theorem SpI.found {L : List I2} {a b f : Int} {i : Nat} (h : SpI L a b i f) (hS : Sp L) (hi : i < L.length) (h1 : fr L i < b) (h2 : 360 ≤ fr L i - f) : splitB L a b = true := by
  simp only [splitB, decide_eq_true_eq]
  refine ⟨f, h.lo, by omega, fun j hj => ?_⟩
  by_cases hji : j < i
  · exact Or.inl (h.past j hji)
  · refine Or.inr ?_
    by_cases e : j = i
    · subst e; omega
    · have h3 := hS.chain (i := i) (j := j) (by omega) hj
      obtain ⟨g1, g2, g3, -⟩ := hS.2 i hi
      omega
theorem SpI.done {L : List I2} {a b f : Int} {i : Nat} (h : SpI L a b i f) (hb : ∀ j, i ≤ j → j < L.length → b ≤ fr L j) : splitB L a b = decide (360 ≤ b - f) := by
  by_cases hd : 360 ≤ b - f
  · rw [decide_eq_true hd]
    simp only [splitB, decide_eq_true_eq]
    refine ⟨f, h.lo, by omega, fun j hj => ?_⟩
    by_cases hji : j < i
    · exact Or.inl (h.past j hji)
    · exact Or.inr (by have := hb j (by omega) hj; omega)
  · rw [decide_eq_false hd]
    simp only [splitB, decide_eq_false_iff_not]
    rintro ⟨x, h1, h2, h3⟩
    exact h.none x h1 (by omega) h3

/-- The code at t. -/
noncomputable def faultC (L : List I2) (t : Int) : Int :=
  if t < 1440 then 0 else if 840 < wk L (t - 1440) t L.length then 2 else if 10080 ≤ t ∧ 5460 < wk L (t - 10080) t L.length then 3 else if splitB L (t - 1440) t = false then 4 else 0
def firstF (f : Int → Int) : Int → Nat → Int × Int
  | _, 0 => (0, -1)
  | t, n + 1 => if f t = 0 then firstF f (t + 1) n else (f t, t)
theorem firstF_zero (f : Int → Int) : ∀ (n : Nat) (t : Int), (∀ u, t ≤ u → u < t + n → f u = 0) → firstF f t n = (0, -1) := by
  intro n
  induction n with
  | zero => intro t _; rfl
  | succ n ih =>
    intro t h
    rw [firstF, if_pos (h t (by omega) (by omega))]
    exact ih (t + 1) fun u h1 h2 => h u (by omega) (by omega)
theorem firstF_skip (f : Int → Int) : ∀ (d n : Nat) (t : Int), (∀ u, t ≤ u → u < t + d → f u = 0) → firstF f t (d + n) = firstF f (t + d) n := by
  intro d
  induction d with
  | zero => intro n t _; simp
  | succ d ih =>
    intro n t h
    rw [show d + 1 + n = (d + n) + 1 by omega, firstF, if_pos (h t (by omega) (by omega)), ih n (t + 1) fun u h1 h2 => h u (by omega) (by omega)]
    congr 1
    omega
def watchOk (L : List I2) (u : Int) : Prop := Sp L ∧ 0 ≤ u ∧ u ≤ 30000 ∧ ∀ i, i < L.length → tw L i ≤ 30000
open Classical in
noncomputable def restV (L : List I2) (u : Int) : Int × Int := if watchOk L u then firstF (faultC L) 360 (u - 359).toNat else (1, -1)
theorem faultC_early (L : List I2) {t : Int} (h : t < 1440) : faultC L t = 0 := by rw [faultC, if_pos h]
/-- The search of the specification begins at 1440. -/
theorem restV_from {L : List I2} {u : Int} (h : watchOk L u) (hu : 1440 ≤ u) : restV L u = firstF (faultC L) 1440 (u - 1439).toNat := by
  rw [restV, if_pos h, show (u - 359).toNat = 1080 + (u - 1439).toNat by omega, firstF_skip _ 1080 _ 360 fun t _ h2 => faultC_early L (by omega)]
  rfl
theorem restV_early {L : List I2} {u : Int} (h : watchOk L u) (hu : u < 1440) : restV L u = (0, -1) := by
  rw [restV, if_pos h]
  exact firstF_zero _ _ _ fun t _ h2 => faultC_early L (by omega)
theorem firstF_now {f : Int → Int} {t : Int} {n : Nat} (h : f t ≠ 0) (hn : 0 < n) : firstF f t n = (f t, t) := by
  obtain ⟨m, rfl⟩ : ∃ m, n = m + 1 := ⟨n - 1, by omega⟩
  rw [firstF, if_neg h]
theorem firstF_next {f : Int → Int} {t : Int} {n : Nat} (h : f t = 0) (hn : 0 < n) : firstF f t n = firstF f (t + 1) (n - 1) := by
  obtain ⟨m, rfl⟩ : ∃ m, n = m + 1 := ⟨n - 1, by omega⟩
  rw [firstF, if_pos h]; rfl

/-- What the program knows of the latest rest: r is the greatest one up to t. -/
structure Rested (L : List I2) (t r : Int) : Prop where
  lo : 0 ≤ r
  hi : r ≤ t
  one : r = 0 ∨ (360 ≤ r ∧ cw L r L.length = cw L (r - 360) L.length)
  last : ∀ q, 360 ≤ q → q ≤ t → cw L q L.length = cw L (q - 360) L.length → q ≤ r
theorem Rested.split {L : List I2} {t r : Int} (h : Rested L t r) (hS : Sp L) (ht : 1440 ≤ t) : splitB L (t - 1440) t = decide (t - 1440 ≤ r - 360) := by
  have key : ∀ x, Free L x ↔ cw L (x + 360) L.length = cw L x L.length := fun x => by
    rw [← wk_free hS x, wk_cw hS (by omega) _ (Nat.le_refl _)]; omega
  by_cases hd : t - 1440 ≤ r - 360
  · rw [decide_eq_true hd]
    simp only [splitB, decide_eq_true_eq]
    refine ⟨r - 360, hd, by have := h.hi; omega, (key _).2 ?_⟩
    rcases h.one with e | ⟨e1, e2⟩
    · omega
    · rw [show r - 360 + 360 = r by omega]; exact e2
  · rw [decide_eq_false hd]
    simp only [splitB, decide_eq_false_iff_not]
    rintro ⟨x, h1, h2, h3⟩
    have := h.last (x + 360) (by omega) h2 (by rw [show x + 360 - 360 = x by omega]; exact (key x).1 h3)
    omega
theorem Rested.start (L : List I2) : Rested L 359 0 := ⟨by omega, by omega, Or.inl rfl, fun q h1 h2 => by omega⟩
theorem Rested.hit {L : List I2} {t : Int} (ht : 360 ≤ t) (e : cw L t L.length = cw L (t - 360) L.length) : Rested L t t :=
  ⟨by omega, by omega, Or.inr ⟨ht, e⟩, fun q _ h2 _ => h2⟩
theorem Rested.miss {L : List I2} {t r : Int} (h : Rested L (t - 1) r) (e : cw L t L.length ≠ cw L (t - 360) L.length) : Rested L t r :=
  ⟨h.lo, by have := h.hi; omega, h.one, fun q h1 h2 h3 => by
    by_cases hq : q = t
    · subst hq; exact absurd h3 e
    · exact h.last q h1 (by omega) h3⟩

end Go.Proofs.Yticminoejikdfaa

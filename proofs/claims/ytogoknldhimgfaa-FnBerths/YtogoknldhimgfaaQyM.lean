/- Calls at a quay in numbers: who meets whom, the least berth, berths in turn. No statement about the program stands here. -/
import Derived.Test.YtogoknldhimgfaaBeM
import Derived.Test.YtogoknldhimgfaaAvN
namespace Go.Proofs.Ytogoknldhimgfaa

/-- The same places, and those from p on. -/
def covB (B : Nat → Bool) (p m : Nat) : Nat → Bool := fun j => B j || (decide (p ≤ j) && decide (j < p + m))
def freeB (B : Nat → Bool) (p : Nat) : Nat → Bool
  | 0 => true
  | k + 1 => freeB B p k && !(B (p + k))
theorem freeB_iff {B : Nat → Bool} {p : Nat} : ∀ {k : Nat}, freeB B p k = true ↔ ∀ j, j < k → B (p + j) = false
  | 0 => ⟨fun _ j hj => by omega, fun _ => rfl⟩
  | k + 1 => by
    simp only [freeB, Bool.and_eq_true, Bool.not_eq_true']
    rw [freeB_iff]
    constructor
    · rintro ⟨h1, h2⟩ j hj
      by_cases e : j = k
      · rw [e]; exact h2
      · exact h1 j (by omega)
    · intro h
      exact ⟨fun j hj => h j (by omega), h k (by omega)⟩
theorem freeB_no {B : Nat → Bool} {p k : Nat} (h : freeB B p k = false) : ∃ j, j < k ∧ B (p + j) = true := by
  refine Classical.byContradiction fun hn => ?_
  have : freeB B p k = true := freeB_iff.2 fun j hj => by
    cases hb : B (p + j) with
    | false => rfl
    | true => exact absurd ⟨j, hj, hb⟩ hn
  rw [this] at h
  cases h
theorem covB_zero (B : Nat → Bool) (p : Nat) : covB B p 0 = B := by
  funext j
  unfold covB
  have : (decide (p ≤ j) && decide (j < p + 0)) = false := by
    rw [Bool.and_eq_false_iff]
    by_cases h : p ≤ j
    · exact Or.inr (by simpa using h)
    · exact Or.inl (by simpa using h)
  rw [this, Bool.or_false]
theorem covB_next (B : Nat → Bool) (p k : Nat) : (fun j => if j = p + k then true else covB B p k j) = covB B p (k + 1) := by
  funext j
  unfold covB
  by_cases e : j = p + k
  · rw [if_pos e]
    subst e
    simp
  · rw [if_neg e]
    congr 1
    congr 1
    rw [Bool.eq_iff_iff]
    simp only [decide_eq_true_eq]
    omega
theorem covB_same {B : Nat → Bool} {p k : Nat} (h : B (p + k) = true) : covB B p (k + 1) = covB B p k := by
  rw [← covB_next]
  funext j
  by_cases e : j = p + k
  · rw [if_pos e, e]; unfold covB; rw [h]; rfl
  · rw [if_neg e]
/-- The same places less those from p on. -/
def uncB (B : Nat → Bool) (p m : Nat) : Nat → Bool := fun j => B j && !(decide (p ≤ j) && decide (j < p + m))
theorem uncB_zero (B : Nat → Bool) (p : Nat) : uncB B p 0 = B := by
  funext j
  unfold uncB
  have : (decide (p ≤ j) && decide (j < p + 0)) = false := by
    rw [Bool.and_eq_false_iff]
    by_cases h : p ≤ j
    · exact Or.inr (by simpa using h)
    · exact Or.inl (by simpa using h)
  rw [this]; simp
theorem uncB_next (B : Nat → Bool) (p k : Nat) : (fun j => if j = p + k then false else uncB B p k j) = uncB B p (k + 1) := by
  funext j
  unfold uncB
  by_cases e : j = p + k
  · rw [if_pos e]
    subst e
    simp
  · rw [if_neg e]
    congr 2
    congr 1
    rw [Bool.eq_iff_iff]
    simp only [decide_eq_true_eq]
    omega

/-- The least place from which on m are free. -/
def leastV (B : Nat → Bool) (m long : Nat) : Int := match (List.range (long + 1 - m)).find? (fun p => freeB B p m) with
  | some p => (p : Int)
  | none => -1
theorem leastV_at {B : Nat → Bool} {m long p : Nat} (h1 : p + m ≤ long) (h2 : freeB B p m = true) (h3 : ∀ q, q < p → freeB B q m = false) : leastV B m long = (p : Int) := by
  unfold leastV
  have : (List.range (long + 1 - m)).find? (fun p => freeB B p m) = some p := by
    rw [List.find?_range_eq_some]
    exact ⟨h2, List.mem_range.2 (by omega), fun q hq => by rw [h3 q hq]; rfl⟩
  rw [this]
theorem leastV_no {B : Nat → Bool} {m long : Nat} (h : ∀ p, p + m ≤ long → freeB B p m = false) (_hm : 1 ≤ m) : leastV B m long = -1 := by
  unfold leastV
  have : (List.range (long + 1 - m)).find? (fun p => freeB B p m) = none := by
    rw [List.find?_eq_none]
    intro p hp
    rw [h p (by have := List.mem_range.1 hp; omega)]
    simp
  rw [this]
theorem leastV_cases (B : Nat → Bool) (m long : Nat) (_hm : 1 ≤ m) : leastV B m long = -1 ∨ ∃ p : Nat, leastV B m long = (p : Int) ∧ p + m ≤ long ∧ freeB B p m = true := by
  unfold leastV
  cases h : (List.range (long + 1 - m)).find? (fun p => freeB B p m) with
  | none => exact Or.inl rfl
  | some p =>
    rw [List.find?_range_eq_some] at h
    exact Or.inr ⟨p, rfl, by have := List.mem_range.1 h.2.1; omega, h.1⟩
/-- How many are free in a row ahead of the place k. -/
def runB (B : Nat → Bool) : Nat → Nat
  | 0 => 0
  | k + 1 => if B k then 0 else runB B k + 1
theorem runB_le (B : Nat → Bool) : ∀ k, runB B k ≤ k
  | 0 => Nat.le_refl _
  | k + 1 => by have := runB_le B k; simp only [runB]; split <;> omega
theorem runB_free {B : Nat → Bool} : ∀ {k j : Nat}, j < runB B k → B (k - 1 - j) = false
  | 0, j, h => by simp [runB] at h
  | k + 1, j, h => by
    simp only [runB] at h
    cases hb : B k with
    | true => rw [hb] at h; simp at h
    | false =>
      rw [hb] at h
      simp only [Bool.false_eq_true, if_false] at h
      by_cases e : j = 0
      · subst e; simpa using hb
      · have h2 := runB_free (B := B) (k := k) (j := j - 1) (by omega)
        rwa [show k + 1 - 1 - j = k - 1 - (j - 1) by omega]
theorem runB_back {B : Nat → Bool} : ∀ {d k : Nat}, d ≤ runB B k → runB B (k - d) = runB B k - d
  | 0, k, _ => rfl
  | d + 1, 0, h => by simp [runB] at h
  | d + 1, k + 1, h => by
    cases hb : B k with
    | true => simp [runB, hb] at h
    | false =>
      have e : runB B (k + 1) = runB B k + 1 := by simp [runB, hb]
      rw [e] at h ⊢
      rw [show k + 1 - (d + 1) = k - d by omega, runB_back (by omega)]
      omega
theorem runB_ge {B : Nat → Bool} {p : Nat} : ∀ {m : Nat}, freeB B p m = true → m ≤ runB B (p + m)
  | 0, _ => Nat.zero_le _
  | m + 1, h => by
    simp only [freeB, Bool.and_eq_true, Bool.not_eq_true'] at h
    have := runB_ge h.1
    rw [show p + (m + 1) = (p + m) + 1 by omega]
    simp only [runB, h.2, Bool.false_eq_true, if_false]
    omega
/-- Up to the place k no run was of length m: none of m is free ahead of it. -/
theorem runB_no {B : Nat → Bool} {m k : Nat} (hm : 1 ≤ m) (h : ∀ q, q < k → runB B (q + 1) ≠ m) (p : Nat) (hp : p + m ≤ k) : freeB B p m = false := by
  cases hf : freeB B p m with
  | false => rfl
  | true =>
    have h1 := runB_ge hf
    have h2 := runB_le B (p + m)
    have h3 := runB_back (B := B) (d := runB B (p + m) - m) (k := p + m) (by omega)
    have h4 := runB_le B (p + m - (runB B (p + m) - m))
    refine absurd ?_ (h (p + m - (runB B (p + m) - m) - 1) (by omega))
    rw [show p + m - (runB B (p + m) - m) - 1 + 1 = p + m - (runB B (p + m) - m) by omega, h3]
    omega
theorem runB_at {B : Nat → Bool} {m k : Nat} (h : runB B (k + 1) = m) : freeB B (k + 1 - m) m = true := freeB_iff.2 fun j hj => by
  have h1 := runB_le B (k + 1)
  have := runB_free (B := B) (k := k + 1) (j := m - 1 - j) (by omega)
  rwa [show k + 1 - 1 - (m - 1 - j) = k + 1 - m + j by omega] at this

/-! Who meets whom. -/
def MeetP (a b : CallT) : Prop := 0 ≤ cAt a ∧ 0 ≤ cAt b ∧ cFr a < cTo b ∧ cFr b < cTo a ∧ cAt a < cAt b + cLg b ∧ cAt b < cAt a + cLg a
instance (a b : CallT) : Decidable (MeetP a b) := by unfold MeetP; infer_instance
theorem MeetP.symm {a b : CallT} (h : MeetP a b) : MeetP b a := ⟨h.2.1, h.1, h.2.2.2.1, h.2.2.1, h.2.2.2.2.2, h.2.2.2.2.1⟩
def NoMeet (L : List CallT) : Prop := ∀ i, i < L.length → ∀ k, k < i → ¬ MeetP (ca L i) (ca L k)
instance (L : List CallT) : Decidable (NoMeet L) := by unfold NoMeet; infer_instance
theorem NoMeet.ne {L : List CallT} (h : NoMeet L) {i k : Nat} (hi : i < L.length) (hk : k < L.length) (hne : i ≠ k) : ¬ MeetP (ca L i) (ca L k) := by
  by_cases c : k < i
  · exact h i hi k c
  · exact fun h' => h k hk i (by omega) h'.symm
def clB (long : Int) (L : List CallT) : Bool := decide (CaP long L ∧ NoMeet L)
theorem clB_iff {long : Int} {L : List CallT} : clB long L = true ↔ CaP long L ∧ NoMeet L := by simp [clB]
theorem clB_ca {long : Int} {L : List CallT} (h : caB long L = false) : clB long L = false := by
  cases hc : clB long L with
  | false => rfl
  | true => exact absurd (clB_iff.1 hc).1 (caB_no h)
theorem clB_meet {long : Int} {L : List CallT} {i k : Nat} (hi : i < L.length) (hk : k < L.length) (hne : i ≠ k) (h : CaP long L → MeetP (ca L i) (ca L k)) : clB long L = false := by
  cases hc : clB long L with
  | false => rfl
  | true => exact absurd (h (clB_iff.1 hc).1) ((clB_iff.1 hc).2.ne hi hk hne)
/-- Ids ascend. -/
theorem ids_lt {long : Int} {L : List CallT} (h : CaP long L) : ∀ {d i : Nat}, i + d + 1 < L.length → cId (ca L i) < cId (ca L (i + d + 1))
  | 0, i, hi => by have := (h.2.2 (i + 1) (by omega)).2.2 (by omega); simpa using this
  | d + 1, i, hi => by
    have h1 := ids_lt h (d := d) (i := i) (by omega)
    have h2 := (h.2.2 (i + d + 1 + 1) (by omega)).2.2 (by omega)
    simp only [Nat.add_sub_cancel] at h2
    have e : i + (d + 1) + 1 = i + d + 1 + 1 := by omega
    rw [e]
    exact Int.lt_trans h1 h2
theorem ids_ne {long : Int} {L : List CallT} (h : CaP long L) {i k : Nat} (hi : i < L.length) (hk : k < L.length) (hne : i ≠ k) : cId (ca L i) ≠ cId (ca L k) := by
  intro e
  by_cases c : i < k
  · have := ids_lt h (d := k - i - 1) (i := i) (by omega)
    rw [show i + (k - i - 1) + 1 = k by omega] at this
    omega
  · have := ids_lt h (d := i - k - 1) (i := k) (by omega)
    rw [show k + (i - k - 1) + 1 = i by omega] at this
    omega

/-- The call c covers the place j. -/
def cvC (c : CallT) (j : Nat) : Bool := decide (cAt c ≤ (j : Int)) && decide ((j : Int) < cAt c + cLg c)
theorem cvC_iff {c : CallT} {j : Nat} : cvC c j = true ↔ cAt c ≤ (j : Int) ∧ (j : Int) < cAt c + cLg c := by simp [cvC]
/-- The places that the calls Y cover. -/
def cvL (Y : List CallT) : Nat → Bool := fun j => Y.any fun c => cvC c j
theorem cvL_iff {Y : List CallT} {j : Nat} : cvL Y j = true ↔ ∃ c ∈ Y, cvC c j = true := by simp [cvL]
theorem covB_cv {B : Nat → Bool} {p m : Nat} {c : CallT} (hp : cAt c = (p : Int)) (hm : cLg c = (m : Int)) : covB B p m = fun j => B j || cvC c j := by
  funext j
  unfold covB cvC
  congr 1
  rw [hp, hm, Bool.eq_iff_iff]
  simp only [Bool.and_eq_true, decide_eq_true_eq]
  omega
theorem uncB_cv {B : Nat → Bool} {p m : Nat} {c : CallT} (hp : cAt c = (p : Int)) (hm : cLg c = (m : Int)) : uncB B p m = fun j => B j && !(cvC c j) := by
  funext j
  unfold uncB cvC
  congr 2
  rw [hp, hm, Bool.eq_iff_iff]
  simp only [Bool.and_eq_true, decide_eq_true_eq]
  omega
/-- Two calls have no place in common. -/
def AptC (a b : CallT) : Prop := ∀ j, ¬ (cvC a j = true ∧ cvC b j = true)
theorem AptC.symm {a b : CallT} (h : AptC a b) : AptC b a := fun j hj => h j ⟨hj.2, hj.1⟩
theorem apt_or {a b : CallT} (ha : 0 ≤ cAt a) (hb : 0 ≤ cAt b) (la : 1 ≤ cLg a) (lb : 1 ≤ cLg b) (h : AptC a b) : cAt a + cLg a ≤ cAt b ∨ cAt b + cLg b ≤ cAt a := by
  refine Classical.byContradiction fun hn => ?_
  have h1 := h (max (cAt a) (cAt b)).toNat
  rw [cvC_iff, cvC_iff] at h1
  omega
theorem apt_of {a b : CallT} (h : cAt a + cLg a ≤ cAt b ∨ cAt b + cLg b ≤ cAt a) : AptC a b := fun j hj => by
  have h1 := cvC_iff.1 hj.1
  have h2 := cvC_iff.1 hj.2
  omega

/-! The places that are taken while a call is there. -/
def shP (a b : CallT) : Prop := cFr a < cTo b ∧ cFr b < cTo a
instance (a b : CallT) : Decidable (shP a b) := by unfold shP; infer_instance
def otP (o c : CallT) : Prop := cId o ≠ cId c ∧ cAt o ≠ -1 ∧ shP o c
instance (a b : CallT) : Decidable (otP a b) := by unfold otP; infer_instance
def tkB (L : List CallT) (c : CallT) : Nat → Nat → Bool
  | 0 => fun _ => false
  | k + 1 => if otP (ca L k) c then covB (tkB L c k) (cAt (ca L k)).toNat (cLg (ca L k)).toNat else tkB L c k
theorem tkB_iff {long : Int} {L : List CallT} (h : CaP long L) (c : CallT) (j : Nat) : ∀ {k : Nat}, k ≤ L.length → (tkB L c k j = true ↔ ∃ t, t < k ∧ otP (ca L t) c ∧ cvC (ca L t) j = true) := by
  intro k
  induction k with
  | zero => intro _; constructor
            · intro h'; simp [tkB] at h'
            · rintro ⟨t, ht, _⟩; omega
  | succ k ih =>
    intro hk
    have ih := ih (by omega)
    have hc := (h.2.2 k (by omega)).2.1
    by_cases ho : otP (ca L k) c
    · have h0 : 0 ≤ cAt (ca L k) := by have := hc.2.2; have := ho.2.1; omega
      have hl := hc.1
      simp only [tkB, if_pos ho]
      rw [covB_cv (c := ca L k) (by omega) (by omega)]
      simp only [Bool.or_eq_true]
      rw [ih]
      constructor
      · rintro (⟨t, h1, h2⟩ | h1)
        · exact ⟨t, by omega, h2⟩
        · exact ⟨k, by omega, ho, h1⟩
      · rintro ⟨t, h1, h2, h3⟩
        by_cases e : t = k
        · subst e; exact Or.inr h3
        · exact Or.inl ⟨t, by omega, h2, h3⟩
    · simp only [tkB, if_neg ho]
      rw [ih]
      constructor
      · rintro ⟨t, h1, h2⟩
        exact ⟨t, by omega, h2⟩
      · rintro ⟨t, h1, h2, h3⟩
        by_cases e : t = k
        · subst e; exact absurd h2 ho
        · exact ⟨t, by omega, h2, h3⟩
def setAt (c : CallT) (v : Int) : CallT := (c.1, c.2.1, c.2.2.1, c.2.2.2.1, v)
theorem setAt_at (c : CallT) : setAt c (cAt c) = c := rfl
/-- The least berth for c. -/
def lbV (long : Int) (L : List CallT) (c : CallT) : Int := leastV (tkB L c L.length) (cLg c).toNat long.toNat
theorem free_meet {long : Int} {L : List CallT} (h : CaP long L) {i p : Nat} (hi : i < L.length) : freeB (tkB L (ca L i) L.length) p (cLg (ca L i)).toNat = true ↔ ∀ k, k < L.length → k ≠ i → ¬ MeetP (setAt (ca L i) p) (ca L k) := by
  have hci := (h.2.2 i hi).2.1
  constructor
  · intro hf k hk hne hm
    have hck := (h.2.2 k hk).2.1
    obtain ⟨m1, m2, m3, m4, m5, m6⟩ := hm
    have m2 : 0 ≤ cAt (ca L k) := m2
    have m3 : cFr (ca L i) < cTo (ca L k) := m3
    have m4 : cFr (ca L k) < cTo (ca L i) := m4
    have m5 : (p : Int) < cAt (ca L k) + cLg (ca L k) := m5
    have m6 : cAt (ca L k) < (p : Int) + cLg (ca L i) := m6
    have h1 := hci.1
    have h2 := hck.1
    have h3 := freeB_iff.1 hf ((max (p : Int) (cAt (ca L k))).toNat - p) (by omega)
    have h4 : tkB L (ca L i) L.length (p + ((max (p : Int) (cAt (ca L k))).toNat - p)) = true :=
      (tkB_iff h (ca L i) _ (Nat.le_refl _)).2 ⟨k, hk, ⟨ids_ne h hk hi hne, by omega, m4, m3⟩, cvC_iff.2 (by omega)⟩
    rw [h4] at h3
    cases h3
  · intro hn
    refine freeB_iff.2 fun j hj => ?_
    cases hb : tkB L (ca L i) L.length (p + j) with
    | false => rfl
    | true =>
      obtain ⟨t, t1, ⟨t2, t3, t4, t5⟩, t6⟩ := (tkB_iff h (ca L i) _ (Nat.le_refl _)).1 hb
      have hct := (h.2.2 t t1).2.1
      have h1 := hct.2.2
      have h6 := cvC_iff.1 t6
      have hl := hci.1
      refine absurd ?_ (hn t t1 (fun e => by subst e; exact t2 rfl))
      refine ⟨?_, ?_, ?_, ?_, ?_, ?_⟩
      · show (0 : Int) ≤ (p : Int); omega
      · show 0 ≤ cAt (ca L t); omega
      · exact t5
      · exact t4
      · show (p : Int) < cAt (ca L t) + cLg (ca L t); omega
      · show cAt (ca L t) < (p : Int) + cLg (ca L i); omega
theorem lbV_cases {long : Int} {L : List CallT} (h : CaP long L) {i : Nat} (hi : i < L.length) : lbV long L (ca L i) = -1 ∨ ∃ p : Nat, lbV long L (ca L i) = (p : Int) ∧ (p : Int) + cLg (ca L i) ≤ long ∧ ∀ k, k < L.length → k ≠ i → ¬ MeetP (setAt (ca L i) p) (ca L k) := by
  have hci := (h.2.2 i hi).2.1.1
  have hlo := h.1
  rcases leastV_cases (tkB L (ca L i) L.length) (cLg (ca L i)).toNat long.toNat (by omega) with e | ⟨p, e1, e2, e3⟩
  · exact Or.inl e
  · exact Or.inr ⟨p, e1, by omega, (free_meet h hi).1 e3⟩
/-- What Berth tells. -/
def berV (long : Int) (L : List CallT) (id : Int) : Int × Bool := if clB long L then (match (List.range L.length).find? (fun i => decide (cId (ca L i) = id)) with
  | some i => (lbV long L (ca L i), decide (lbV long L (ca L i) ≠ -1))
  | none => (-1, false)) else (-1, false)
theorem berV_not {long : Int} {L : List CallT} {id : Int} (h : clB long L = false) : berV long L id = (-1, false) := by unfold berV; rw [h]; rfl
theorem berV_at {long : Int} {L : List CallT} {id : Int} {i : Nat} (h : clB long L = true) (hi : i < L.length) (he : cId (ca L i) = id) : berV long L id = (lbV long L (ca L i), decide (lbV long L (ca L i) ≠ -1)) := by
  unfold berV
  have : (List.range L.length).find? (fun i => decide (cId (ca L i) = id)) = some i := by
    rw [List.find?_range_eq_some]
    refine ⟨by simpa using he, List.mem_range.2 hi, fun q hq => ?_⟩
    have := ids_ne (clB_iff.1 h).1 (i := q) (k := i) (by omega) hi (by omega)
    rw [he] at this
    simpa using this
  rw [h, this]
  rfl
theorem berV_none {long : Int} {L : List CallT} {id : Int} (h : ∀ i, i < L.length → cId (ca L i) ≠ id) : berV long L id = (-1, false) := by
  unfold berV
  have : (List.range L.length).find? (fun i => decide (cId (ca L i) = id)) = none := by
    rw [List.find?_eq_none]
    intro p hp
    simpa using h p (List.mem_range.1 hp)
  rw [this]
  split <;> rfl

end Go.Proofs.Ytogoknldhimgfaa

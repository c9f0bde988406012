/- What is drawn for FnHoists, in numbers: a hoist out of bytes; draws that go round end at every code; what FnHoists asks of each signal. No statement about the program stands here. -/
import Derived.Test.YtgmhijbepkobkaaLcB
import Derived.Test.YtgmhijbepkobkaaHoM
namespace Go.Proofs.Ytgmhijbepkobkaa
open Go.RowKit

def pkI (xs : List Int) (y : Int) : Int := xs.getD (y % xs.length).toNat 0
/-- A hoist out of the bytes of a draw. -/
def hoF (low q ld hx lm rs gx k y : Int) : Ho :=
  if k = 0 then ⟨pkI [-1, 4] y, ld, low + hx, low, low + hx + gx, 10 + lm, rs⟩
  else if k = 1 then ⟨q, ld, low + hx + gx + 1, low, low + hx + gx, 10 + lm, rs⟩
  else if k = 2 then ⟨q, pkI [-1, 1000000, 1000001] y, low + hx, low, low + hx + gx, 10 + lm, rs⟩
  else if k = 3 then ⟨q, ld, low + hx, low, low + hx + gx, 10 + lm, 2⟩
  else if k = 4 then ⟨q, ld, low + hx, low, pkI [10000, 10001] y, 10 + lm, rs⟩
  else ⟨q, ld, low + hx, low, low + hx + gx, 10 + lm, rs⟩
def bD (h : Int) (k : Nat) (m : Int) : Int := lbV (lcgN k h) % m
def hoD (h : Int) : Ho := hoF (bD h 1 5) (bD h 2 4) (bD h 3 30) (bD h 4 5) (bD h 5 15) (bD h 6 2) (bD h 7 4) (bD h 8 30) (lbV (lcgN 9 h))
/-- A hoist that is right, not loaded beyond its limit where it goes up. -/
def goodH (h : Ho) : Bool := hoB h && !(decide (h.q = 1) && decide (h.lm < h.ld))
def DrH (n i : Nat) (h : Int) (H : Ho) (i' : Nat) (h' : Int) : Prop :=
  i ≤ i' ∧ i' ≤ n ∧ (i < n → i < i') ∧ (h' = lcgN 8 h ∨ h' = lcgN 9 h) ∧ (i = n → H = hoD h)
abbrev hoT : Int := 2021368500568277588
theorem ho_win : ∀ j, j < 10 → 1 ≤ j → goodH (hoD (lcgN j hoT)) = true := by decide +kernel
theorem ho_dr (n : Nat) : DrOk n 9 (DrH n) (fun H => goodH H = true) hoT where
  int := by decide
  mid := fun i h a i' h' hi hd => ⟨hd.2.2.1 hi, hd.2.1⟩
  last := fun h a i' h' hd => by
    refine ⟨?_, ?_⟩
    · have := hd.1; have := hd.2.1; omega
    · rcases hd.2.2.2.1 with e | e
      · exact ⟨8, by omega, by omega, e⟩
      · exact ⟨9, by omega, by omega, e⟩
  win := fun j a i' h' h1 h2 hd => by rw [hd.2.2.2.2 rfl]; exact ho_win j (by omega) h1

/-- Eight bytes drawn one behind the other. -/
theorem ch8 {n i i1 i2 i3 i4 i5 i6 i7 i8 : Nat} {h x1 x2 x3 x4 x5 x6 x7 x8 : Int}
    (s1 : StX n i h 5 x1 i1) (s2 : StX n i1 (lcg h) 4 x2 i2) (s3 : StX n i2 (lcg (lcg h)) 30 x3 i3) (s4 : StX n i3 (lcg (lcg (lcg h))) 5 x4 i4)
    (s5 : StX n i4 (lcg (lcg (lcg (lcg h)))) 15 x5 i5) (s6 : StX n i5 (lcg (lcg (lcg (lcg (lcg h))))) 2 x6 i6) (s7 : StX n i6 (lcg (lcg (lcg (lcg (lcg (lcg h)))))) 4 x7 i7) (s8 : StX n i7 (lcg (lcg (lcg (lcg (lcg (lcg (lcg h))))))) 30 x8 i8) :
    i ≤ i8 ∧ i8 ≤ n ∧ (i < n → i < i8) ∧ (i = n → i8 = n ∧ x1 = bD h 1 5 ∧ x2 = bD h 2 4 ∧ x3 = bD h 3 30 ∧ x4 = bD h 4 5 ∧ x5 = bD h 5 15 ∧ x6 = bD h 6 2 ∧ x7 = bD h 7 4 ∧ x8 = bD h 8 30) := by
  obtain ⟨a1, b1, c1, d1⟩ := s1
  obtain ⟨a2, b2, c2, d2⟩ := s2
  obtain ⟨a3, b3, c3, d3⟩ := s3
  obtain ⟨a4, b4, c4, d4⟩ := s4
  obtain ⟨a5, b5, c5, d5⟩ := s5
  obtain ⟨a6, b6, c6, d6⟩ := s6
  obtain ⟨a7, b7, c7, d7⟩ := s7
  obtain ⟨a8, b8, c8, d8⟩ := s8
  refine ⟨by omega, b8, fun hi => ?_, fun hi => ⟨by omega, d1 (by omega), d2 (by omega), d3 (by omega), d4 (by omega), d5 (by omega), d6 (by omega), d7 (by omega), d8 (by omega)⟩⟩
  have := c1 hi
  omega
section
variable {n i i1 i2 i3 i4 i5 i6 i7 i8 i9 : Nat} {h x1 x2 x3 x4 x5 x6 x7 x8 : Int} {H : Ho}
theorem drH_a (s1 : StX n i h 5 x1 i1) (s2 : StX n i1 (lcg h) 4 x2 i2) (s3 : StX n i2 (lcg (lcg h)) 30 x3 i3) (s4 : StX n i3 (lcg (lcg (lcg h))) 5 x4 i4)
    (s5 : StX n i4 (lcg (lcg (lcg (lcg h)))) 15 x5 i5) (s6 : StX n i5 (lcg (lcg (lcg (lcg (lcg h))))) 2 x6 i6) (s7 : StX n i6 (lcg (lcg (lcg (lcg (lcg (lcg h)))))) 4 x7 i7) (s8 : StX n i7 (lcg (lcg (lcg (lcg (lcg (lcg (lcg h))))))) 30 x8 i8)
    (e : ∀ y, H = hoF x1 x2 x3 x4 x5 x6 x7 x8 y) : DrH n i h H i8 (lcg (lcg (lcg (lcg (lcg (lcg (lcg (lcg h)))))))) := by
  obtain ⟨c1, c2, c3, c4⟩ := ch8 s1 s2 s3 s4 s5 s6 s7 s8
  refine ⟨c1, c2, c3, Or.inl rfl, fun hi => ?_⟩
  obtain ⟨-, f1, f2, f3, f4, f5, f6, f7, f8⟩ := c4 hi
  rw [e (lbV (lcgN 9 h)), f1, f2, f3, f4, f5, f6, f7, f8]
  rfl
theorem drH_b {m : Int} {j : Nat} (s1 : StX n i h 5 x1 i1) (s2 : StX n i1 (lcg h) 4 x2 i2) (s3 : StX n i2 (lcg (lcg h)) 30 x3 i3) (s4 : StX n i3 (lcg (lcg (lcg h))) 5 x4 i4)
    (s5 : StX n i4 (lcg (lcg (lcg (lcg h)))) 15 x5 i5) (s6 : StX n i5 (lcg (lcg (lcg (lcg (lcg h))))) 2 x6 i6) (s7 : StX n i6 (lcg (lcg (lcg (lcg (lcg (lcg h)))))) 4 x7 i7) (s8 : StX n i7 (lcg (lcg (lcg (lcg (lcg (lcg (lcg h))))))) 30 x8 i8)
    (s9 : StX n i8 (lcg (lcg (lcg (lcg (lcg (lcg (lcg (lcg h)))))))) m (j : Int) i9)
    (e : ∀ y, y % m = (j : Int) → H = hoF x1 x2 x3 x4 x5 x6 x7 x8 y) : DrH n i h H i9 (lcg (lcg (lcg (lcg (lcg (lcg (lcg (lcg (lcg h))))))))) := by
  obtain ⟨c1, c2, c3, c4⟩ := ch8 s1 s2 s3 s4 s5 s6 s7 s8
  obtain ⟨a9, b9, c9, d9⟩ := s9
  refine ⟨by omega, b9, fun hi => by have := c3 hi; omega, Or.inr rfl, fun hi => ?_⟩
  obtain ⟨g, f1, f2, f3, f4, f5, f6, f7, f8⟩ := c4 hi
  have e9 := e (lbV (lcgN 9 h)) (d9 g).symm
  rw [e9, f1, f2, f3, f4, f5, f6, f7, f8]
  rfl
end
theorem pkI_at {xs : List Int} {y : Int} {j : Nat} {m : Int} (hm : m = xs.length) (e : y % m = (j : Int)) : pkI xs y = xs.getD j 0 := by
  unfold pkI
  rw [← hm, e, Int.toNat_natCast]

set_option maxHeartbeats 4000000 in
/-- What FnHoists asks of one signal. -/
theorem sig_asks (h : Ho) (k m : Int) (hg : goodH h = true) :
    goodH (sigH h k m).1 = true ∧ ((sigH h k m).2 = false → (sigH h k m).1 = h) ∧ ((sigH h k m).1.he ≠ h.he → k = 7 ∧ (h.q = 1 ∨ h.q = 2)) ∧ (h.q = 3 → (sigH h k m).1.q ≠ 3 → k = 3 ∧ h.rs = 1) ∧ (k = 4 → (sigH h k m).1.q = 3) := by
  have ho : hoB h = true := by unfold goodH at hg; simp only [Bool.and_eq_true] at hg; exact hg.1
  have hu : ¬ (h.q = 1 ∧ h.lm < h.ld) := by
    unfold goodH at hg
    rw [ho, Bool.true_and] at hg
    intro e
    rw [decide_eq_true e.1, decide_eq_true e.2] at hg
    cases hg
  have hok := sig_ok k m ho
  have hb := hoB_bd ho
  have g : ∀ N : Ho, hoB N = true → ¬ (N.q = 1 ∧ N.lm < N.ld) → goodH N = true := fun N h1 h2 => by
    unfold goodH
    rw [h1, Bool.true_and]
    by_cases e1 : N.q = 1
    · by_cases e2 : N.lm < N.ld
      · exact absurd ⟨e1, e2⟩ h2
      · simp [e2]
    · simp [e1]
  have key : ¬ ((sigH h k m).1.q = 1 ∧ (sigH h k m).1.lm < (sigH h k m).1.ld) ∧ ((sigH h k m).2 = false → (sigH h k m).1 = h) ∧ ((sigH h k m).1.he ≠ h.he → k = 7 ∧ (h.q = 1 ∨ h.q = 2)) ∧ (h.q = 3 → (sigH h k m).1.q ≠ 3 → k = 3 ∧ h.rs = 1) ∧ (k = 4 → (sigH h k m).1.q = 3) := by
    clear g hok
    unfold sigH
    rw [ho, Bool.true_and]
    cases h17 : inB k 1 7 with
    | false =>
      have hk : ¬ (1 ≤ k ∧ k ≤ 7) := fun e => by rw [inB_mk e.1 e.2] at h17; cases h17
      rw [cond_false]
      exact ⟨hu, fun _ => rfl, fun e => absurd rfl e, fun e1 e2 => absurd e1 e2, fun e => by omega⟩
    | true =>
      rw [cond_true]
      obtain ⟨q, ld, he, lw, hg', lm, rs⟩ := h
      dsimp only at hu hb ⊢
      clear h17 hg ho
      unfold sigR tkQ tkHe
      dsimp only
      repeat' split
      all_goals
        refine ⟨?_, ?_, ?_, ?_, ?_⟩
        · dsimp only; omega
        · first
          | exact fun _ => rfl
          | exact fun e => by cases e
        · dsimp only; omega
        · dsimp only; omega
        · dsimp only; omega
  exact ⟨g _ hok key.1, key.2⟩

end Go.Proofs.Ytgmhijbepkobkaa

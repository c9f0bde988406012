/- Hoists and signals in numbers: what a signal does, told as the document tells it and as a machine with a label for each State goes; the two are one. No statement about the program stands here. -/
import Derived.Test.YtkfdcpnbpmipkaaWalkD
import Derived.Test.YtkfdcpnbpmipkaaRHoist
import Derived.Test.YtkfdcpnbpmipkaaRSignal
import Derived.Test.YtkfdcpnbpmipkaaRSway
namespace Go.Proofs.Ytkfdcpnbpmipkaa
open Go.RowKit

/-- A right sway; one beat of it. -/
def swB (a o s : Int) : Bool := inB a (-1000000) 1000000 && inB o (-1000000) 1000000 && inB s (-1000000) 1000000
def swgB (a o s p : Int) : Bool := swB a o s && inB p (-1000) 1000 && swB (a + p) s (p - o)
def swgV (a o s p : Int) : Value := bif swgB a o s p then vSway (a + p) s (p - o) else vSway 0 0 0
theorem swB_bd {a o s : Int} (h : swB a o s = true) : -1000000 ≤ a ∧ a ≤ 1000000 ∧ -1000000 ≤ o ∧ o ≤ 1000000 ∧ -1000000 ≤ s ∧ s ≤ 1000000 := by
  unfold swB at h
  simp only [Bool.and_eq_true] at h
  have h1 := inB_true h.1.1
  have h2 := inB_true h.1.2
  have h3 := inB_true h.2
  exact ⟨h1.1, h1.2, h2.1, h2.2, h3.1, h3.2⟩

/-- A hoist. -/
structure Ho where
  q : Int
  ld : Int
  he : Int
  lw : Int
  hg : Int
  lm : Int
  rs : Int
def Ho.v (h : Ho) : Value := vHoist h.q h.ld h.he h.lw h.hg h.lm h.rs
def Ho.cs (h : Ho) : List Value := [.int .i64 h.q, .int .i64 h.ld, .int .i64 h.he, .int .i64 h.lw, .int .i64 h.hg, .int .i64 h.lm, .int .i64 h.rs]
def hoB (h : Ho) : Bool := inB h.q 0 3 && inB h.lw 0 h.he && inB h.hg h.he 10000 && inB h.ld 0 1000000 && inB h.lm 0 1000000 && inB h.rs 0 1
theorem hoB_bd {h : Ho} (e : hoB h = true) : 0 ≤ h.q ∧ h.q ≤ 3 ∧ 0 ≤ h.lw ∧ h.lw ≤ h.he ∧ h.he ≤ h.hg ∧ h.hg ≤ 10000 ∧ 0 ≤ h.ld ∧ h.ld ≤ 1000000 ∧ 0 ≤ h.lm ∧ h.lm ≤ 1000000 ∧ 0 ≤ h.rs ∧ h.rs ≤ 1 := by
  unfold hoB at e
  simp only [Bool.and_eq_true] at e
  obtain ⟨⟨⟨⟨⟨h1, h2⟩, h3⟩, h4⟩, h5⟩, h6⟩ := e
  have := inB_true h1
  have := inB_true h2
  have := inB_true h3
  have := inB_true h4
  have := inB_true h5
  have := inB_true h6
  omega
theorem hoB_mk {h : Ho} (e : 0 ≤ h.q ∧ h.q ≤ 3 ∧ 0 ≤ h.lw ∧ h.lw ≤ h.he ∧ h.he ≤ h.hg ∧ h.hg ≤ 10000 ∧ 0 ≤ h.ld ∧ h.ld ≤ 1000000 ∧ 0 ≤ h.lm ∧ h.lm ≤ 1000000 ∧ 0 ≤ h.rs ∧ h.rs ≤ 1) : hoB h = true := by
  obtain ⟨a1, a2, a3, a4, a5, a6, a7, a8, a9, b1, b2, b3⟩ := e
  unfold hoB
  rw [inB_mk a1 a2, inB_mk a3 a4, inB_mk a5 a6, inB_mk a7 a8, inB_mk a9 b1, inB_mk b2 b3]
  rfl

/-- One tick: the height, and the State behind it. -/
def tkHe (h : Ho) : Int := if h.q = 1 then min (h.he + 1) h.hg else if h.q = 2 then max (h.he - 1) h.lw else h.he
def tkQ (h : Ho) : Int := if h.q = 1 ∧ tkHe h = h.hg ∨ h.q = 2 ∧ tkHe h = h.lw then 0 else h.q
/-- What a signal of Kind k does to a right hoist, as the document tells it. -/
def sigR (h : Ho) (k m : Int) : Ho × Bool :=
  if k = 6 then (if 0 ≤ m ∧ m ≤ 1000000 then ({ h with ld := m, q := if h.lm < m ∧ h.q = 1 then 0 else h.q }, true) else (h, false))
  else if k = 4 then ({ h with q := 3, rs := 0 }, true)
  else if h.q = 3 then (if k = 5 ∧ h.rs = 0 then ({ h with rs := 1 }, true) else if k = 3 ∧ h.rs = 1 then ({ h with q := 0, rs := 0 }, true) else (h, false))
  else if k = 3 then ({ h with q := 0 }, true)
  else if k = 1 then (if h.ld ≤ h.lm ∧ h.he < h.hg ∧ h.q ≠ 2 then ({ h with q := 1 }, true) else (h, false))
  else if k = 2 then (if h.lw < h.he ∧ h.q ≠ 1 then ({ h with q := 2 }, true) else (h, false))
  else if k = 7 then ({ h with he := tkHe h, q := tkQ h }, true)
  else (h, false)
def sigH (h : Ho) (k m : Int) : Ho × Bool := bif hoB h && inB k 1 7 then sigR h k m else (h, false)

/-- The program's set of signals that may be given, a bit for each Kind. -/
def opN (h : Ho) : Int :=
  if h.q = 3 ∧ h.rs = 1 then 88 else if h.q = 3 then 112
  else if h.ld ≤ h.lm ∧ h.he < h.hg ∧ h.q ≠ 2 then (if h.lw < h.he ∧ h.q ≠ 1 then 222 else 218) else (if h.lw < h.he ∧ h.q ≠ 1 then 220 else 216)
def bitN (n k : Int) : Bool := n / 2 ^ k.toNat % 2 == 1
def sgB (k m : Int) : Bool := bif k == 6 then inB m 0 1000000 else inB k 1 7
def mayB (h : Ho) (k m : Int) : Bool := sgB k m && bitN (opN h) k
/-- The hoist behind a signal that may be given, but for its State. -/
def behH (h : Ho) (k m : Int) : Ho :=
  if k = 4 then { h with rs := 0 } else if k = 5 then { h with rs := 1 } else if k = 3 then (if h.q = 3 then { h with rs := 0 } else h)
  else if k = 6 then { h with ld := m } else if k = 7 then { h with he := tkHe h } else h
/-- The label behind it. -/
def nxQ (q : Int) (h : Ho) (k : Int) : Int :=
  if q = 0 then (if k = 1 then 1 else if k = 2 then 2 else if k = 4 then 3 else 0)
  else if q = 1 then (if k = 3 ∨ (k = 6 ∧ h.lm < h.ld) ∨ (k = 7 ∧ h.he = h.hg) then 0 else if k = 4 then 3 else 1)
  else if q = 2 then (if k = 3 ∨ (k = 7 ∧ h.he = h.lw) then 0 else if k = 4 then 3 else 2)
  else (if k = 3 then 0 else 3)
def Ho.at (h : Ho) (q : Int) : Ho := { h with q := q }

theorem op_cases (h : Ho) : opN h = 88 ∨ opN h = 112 ∨ opN h = 216 ∨ opN h = 218 ∨ opN h = 220 ∨ opN h = 222 := by
  unfold opN
  split
  · simp
  split
  · simp
  split <;> split <;> simp

/-- The machine goes as the document tells it. -/
theorem sig_step (h : Ho) (k m : Int) (ho : hoB h = true) : sigH h k m = if mayB h k m = true then ((behH h k m).at (nxQ h.q (behH h k m) k), true) else (h, false) := by
  have hb := hoB_bd ho
  unfold sigH
  rw [ho, Bool.true_and]
  obtain ⟨q, ld, he, lw, hg, lm, rs⟩ := h
  dsimp only at hb
  clear ho
  by_cases hk : 1 ≤ k ∧ k ≤ 7
  · rw [inB_mk hk.1 hk.2, cond_true]
    have hc : k = 1 ∨ k = 2 ∨ k = 3 ∨ k = 4 ∨ k = 5 ∨ k = 6 ∨ k = 7 := by omega
    have hq : q = 0 ∨ q = 1 ∨ q = 2 ∨ q = 3 := by omega
    have hr : rs = 0 ∨ rs = 1 := by omega
    clear hb hk
    have i5 : ∀ j : Int, 1 ≤ j → j ≤ 7 → inB j 1 7 = true := fun j a b => inB_mk a b
    rcases hc with rfl | rfl | rfl | rfl | rfl | rfl | rfl
    · by_cases c1 : ld ≤ lm <;> by_cases c2 : he < hg <;> by_cases c3 : lw < he <;> rcases hq with rfl | rfl | rfl | rfl <;> rcases hr with rfl | rfl <;> simp [mayB, sgB, i5, sigR, behH, nxQ, Ho.at, opN, bitN, c1, c2, c3]
    · by_cases c1 : ld ≤ lm <;> by_cases c2 : he < hg <;> by_cases c3 : lw < he <;> rcases hq with rfl | rfl | rfl | rfl <;> rcases hr with rfl | rfl <;> simp [mayB, sgB, i5, sigR, behH, nxQ, Ho.at, opN, bitN, c1, c2, c3]
    · by_cases c1 : ld ≤ lm <;> by_cases c2 : he < hg <;> by_cases c3 : lw < he <;> rcases hq with rfl | rfl | rfl | rfl <;> rcases hr with rfl | rfl <;> simp [mayB, sgB, i5, sigR, behH, nxQ, Ho.at, opN, bitN, c1, c2, c3]
    · by_cases c1 : ld ≤ lm <;> by_cases c2 : he < hg <;> by_cases c3 : lw < he <;> rcases hq with rfl | rfl | rfl | rfl <;> rcases hr with rfl | rfl <;> simp [mayB, sgB, i5, sigR, behH, nxQ, Ho.at, opN, bitN, c1, c2, c3]
    · by_cases c1 : ld ≤ lm <;> by_cases c2 : he < hg <;> by_cases c3 : lw < he <;> rcases hq with rfl | rfl | rfl | rfl <;> rcases hr with rfl | rfl <;> simp [mayB, sgB, i5, sigR, behH, nxQ, Ho.at, opN, bitN, c1, c2, c3]
    · by_cases c4 : 0 ≤ m ∧ m ≤ 1000000
      · have i6 := inB_mk c4.1 c4.2
        by_cases c5 : lm < m <;> by_cases c1 : ld ≤ lm <;> by_cases c2 : he < hg <;> by_cases c3 : lw < he <;> rcases hq with rfl | rfl | rfl | rfl <;> rcases hr with rfl | rfl <;> simp [mayB, sgB, i6, c4, c5, sigR, behH, nxQ, Ho.at, opN, bitN, c1, c2, c3]
      · have i6 : inB m 0 1000000 = false := inB_not (by omega)
        simp [mayB, sgB, i6, c4, sigR]
    · by_cases c1 : ld ≤ lm <;> by_cases c2 : he < hg <;> by_cases c3 : lw < he <;> rcases hq with rfl | rfl | rfl | rfl <;> rcases hr with rfl | rfl <;> simp [mayB, sgB, i5, sigR, behH, nxQ, Ho.at, opN, bitN, tkQ, tkHe, c1, c2, c3]
  · rw [inB_not (by omega), cond_false]
    have e1 : (k == 6) = false := by simp; omega
    have e2 : inB k 1 7 = false := inB_not (by omega)
    unfold mayB sgB
    rw [e1, cond_false, e2, Bool.false_and]
    simp
theorem tk_bd {h : Ho} (ho : hoB h = true) : h.lw ≤ tkHe h ∧ tkHe h ≤ h.hg := by
  have hb := hoB_bd ho
  unfold tkHe
  split
  · omega
  split <;> omega
theorem sig_ok {h : Ho} (k m : Int) (ho : hoB h = true) : hoB (sigH h k m).1 = true := by
  have hb := hoB_bd ho
  have ht := tk_bd ho
  have hq : 0 ≤ tkQ h ∧ tkQ h ≤ 3 := by unfold tkQ; split <;> omega
  unfold sigH
  cases hoB h && inB k 1 7 with
  | false => exact ho
  | true =>
    rw [cond_true]
    unfold sigR
    repeat' split
    all_goals first | exact ho | exact hoB_mk (by dsimp only; omega) | (refine hoB_mk ?_; dsimp only; split <;> omega)
theorem may_nz {h : Ho} {k m : Int} (e : mayB h k m = true) : 1 ≤ k ∧ k ≤ 7 := by
  unfold mayB sgB at e
  rw [Bool.and_eq_true] at e
  by_cases h6 : k = 6
  · omega
  · have e1 : (k == 6) = false := by simp [h6]
    rw [e1, cond_false] at e
    exact inB_true e.1
end Go.Proofs.Ytkfdcpnbpmipkaa

/- Liquid cargo in numbers: tanks, ops, what an op leaves, its code; twelve tanks. No statement about the program stands here. -/
import Derived.Test.YtfokocpdngokfaaMuTank
import Derived.Test.YtfokocpdngokfaaWalkD
namespace Go.Proofs.Ytfokocpdngokfaa
open Go.RowKit

/-- A tank that is so. -/
def tkGood (x : CargoTankT) : Prop := 0 ≤ x.1 ∧ x.1 ≤ x.2.1 ∧ x.2.1 ≤ 100000 ∧ -50 ≤ x.2.2.1 ∧ x.2.2.1 ≤ 50 ∧ 0 ≤ x.2.2.2.1 ∧ x.2.2.2.1 ≤ 1000 ∧ 0 ≤ x.2.2.2.2 ∧ x.2.2.2.2 ≤ 1000 ∧ x.2.2.2.1 + x.2.2.2.2 ≤ 1000
instance (x : CargoTankT) : Decidable (tkGood x) := by unfold tkGood; infer_instance
abbrev tkA (L : List CargoTankT) (i : Nat) : CargoTankT := L.getD i default
def Tks (L : List CargoTankT) : Prop := 1 ≤ L.length ∧ L.length ≤ 12 ∧ ∀ i, i < L.length → tkGood (tkA L i)
instance (L : List CargoTankT) : Decidable (Tks L) := by unfold Tks; infer_instance
def tksB (L : List CargoTankT) : Bool := decide (Tks L)
theorem tksB_false {L : List CargoTankT} {k : Nat} (hk : k < L.length) (h : ¬ tkGood (tkA L k)) : tksB L = false := by
  simp only [tksB, decide_eq_false_iff_not]
  exact fun hS => h (hS.2.2 k hk)
theorem tksB_all {L : List CargoTankT} (h : ∀ r, r < L.length → tkGood (tkA L r)) : tksB L = inB (L.length : Int) 1 12 := by
  rw [tksB, Bool.eq_iff_iff]
  simp only [decide_eq_true_eq, inB, Bool.and_eq_true]
  exact ⟨fun hS => by have := hS.1; have := hS.2.1; omega, fun h1 => ⟨by omega, by omega, h⟩⟩
theorem tksB_len {L : List CargoTankT} (h : inB (L.length : Int) 1 12 = false) : tksB L = false := by
  simp only [tksB, decide_eq_false_iff_not]
  intro hS
  have h1 := hS.1
  have h2 := hS.2.1
  simp [inB] at h
  omega
theorem tksB_iff {L : List CargoTankT} : tksB L = true ↔ Tks L := by simp [tksB]

/-- An op that is as told. -/
def cgOp (n k a b m : Int) : Bool := inB k 1 5 && inB a 0 (n - 1) && (if 4 ≤ k then inB m 1 100 else inB m 1 100000 && (k != 3 || (inB b 0 (n - 1) && b != a)))
def inT (x : CargoTankT) (m : Int) : CargoTankT := (x.1 + m, x.2)
def thT (x : CargoTankT) (p q : Int) : CargoTankT := (x.1, x.2.1, x.2.2.1, x.2.2.2.1 * p / q, x.2.2.2.2 * p / q)
def outT (x : CargoTankT) (m : Int) : CargoTankT := thT (x.1 - m, x.2) (x.2.1 - (x.1 - m) - m) (x.2.1 - (x.1 - m))
def inrT (x : CargoTankT) (m : Int) : CargoTankT := thT x (100 - m) 100
def venT (x : CargoTankT) (m : Int) : CargoTankT := (x.1, x.2.1, x.2.2.1, x.2.2.2.1 * (100 - m) / 100, x.2.2.2.2 * (100 - m) / 100 + 10 * m)
/-- The list behind an op. -/
def cgN (L : List CargoTankT) (k : Int) (a b : Nat) (m : Int) : List CargoTankT :=
  if k = 1 then L.set a (inT (tkA L a) m) else if k = 2 then L.set a (outT (tkA L a) m) else if k = 3 then (L.set a (outT (tkA L a) m)).set b (inT (tkA L b) m) else if k = 4 then L.set a (inrT (tkA L a) m) else L.set a (venT (tkA L a) m)
theorem cgN_len (L : List CargoTankT) (k : Int) (a b : Nat) (m : Int) : (cgN L k a b m).length = L.length := by
  unfold cgN
  repeat' split
  all_goals simp
def dryB (L : List CargoTankT) : Bool := L.any fun x => decide (x.1 < 0)
def ovrB (L : List CargoTankT) : Bool := L.any fun x => decide (x.2.1 < x.1)
def burB (x : CargoTankT) : Bool := decide (110 < x.2.2.2.2) && inB x.2.2.2.1 20 600
def lnS (L : List CargoTankT) : Int := (L.map fun x => x.1 * x.2.2.1).sum
def lnV (L : List CargoTankT) : Int := ((lnS L).natAbs : Int)
def cgOk (L : List CargoTankT) (k a b m lean : Int) : Bool := tksB L && cgOp L.length k a b m && inB lean 0 100000000
def cgR (L N : List CargoTankT) (k : Int) (a b : Nat) (lean : Int) : Int :=
  if dryB N = true then 2 else if ovrB N = true then 3 else if (burB (tkA N a) || (decide (k = 3) && burB (tkA N b))) = true then 4 else if lean < lnV N ∧ lnV L < lnV N then 5 else 0
def cgC (L : List CargoTankT) (k a b m lean : Int) : Int := if cgOk L k a b m lean = false then 1 else cgR L (cgN L k a.toNat b.toNat m) k a.toNat b.toNat lean
def cgL (L : List CargoTankT) (k a b m lean : Int) : List CargoTankT := if cgC L k a b m lean = 0 then cgN L k a.toNat b.toNat m else L
theorem cgL_len (L : List CargoTankT) (k a b m lean : Int) : (cgL L k a b m lean).length = L.length := by
  unfold cgL
  split
  · exact cgN_len ..
  · rfl
theorem cgC_bad {L : List CargoTankT} {k a b m lean : Int} (h : cgOk L k a b m lean = false) : cgC L k a b m lean = 1 := if_pos h
theorem cgC_ok {L : List CargoTankT} {k a b m lean : Int} (h : cgOk L k a b m lean = true) : cgC L k a b m lean = cgR L (cgN L k a.toNat b.toNat m) k a.toNat b.toNat lean := if_neg (by rw [h]; simp)
theorem cgL_bad {L : List CargoTankT} {k a b m lean : Int} (h : cgC L k a b m lean ≠ 0) : cgL L k a b m lean = L := if_neg h
theorem cgL_ok {L : List CargoTankT} {k a b m lean : Int} (h : cgC L k a b m lean = 0) : cgL L k a b m lean = cgN L k a.toNat b.toNat m := if_pos h

/-- Twelve tanks: those of the list, then empty ones. -/
def pad (L : List CargoTankT) : List CargoTankT := L ++ List.replicate (12 - L.length) default
theorem pad_len {L : List CargoTankT} (h : L.length ≤ 12) : (pad L).length = 12 := by simp [pad]; omega
theorem pad_at (L : List CargoTankT) (i : Nat) : tkA (pad L) i = tkA L i := by
  unfold tkA pad
  simp only [List.getD_eq_getElem?_getD]
  by_cases h : i < L.length
  · rw [List.getElem?_append_left h]
  · rw [List.getElem?_append_right (by omega), List.getElem?_eq_none (l := L) (by omega), List.getElem?_replicate]
    split <;> rfl
theorem pad_set (L : List CargoTankT) {i : Nat} (h : i < L.length) (x : CargoTankT) : (pad L).set i x = pad (L.set i x) := by
  unfold pad
  rw [List.set_append_left _ _ h]
  simp
theorem pad_N (L : List CargoTankT) (k : Int) {a b : Nat} (m : Int) (ha : a < L.length) (hb : k = 3 → b < L.length) : cgN (pad L) k a b m = pad (cgN L k a b m) := by
  unfold cgN
  simp only [pad_at]
  by_cases h3 : k = 3
  · subst h3
    simp only [show ¬ (3 : Int) = 1 by omega, show ¬ (3 : Int) = 2 by omega, if_false, if_true]
    rw [pad_set L ha, pad_set _ (by simp; exact hb rfl)]
  · simp only [h3, if_false, pad_set L ha]
    repeat' split
    all_goals rfl
theorem pad_dry (L : List CargoTankT) : dryB (pad L) = dryB L := by
  unfold dryB pad
  rw [List.any_append, List.any_replicate]
  simp [show ¬ ((default : CargoTankT).1 < 0) from by decide]
theorem pad_ovr (L : List CargoTankT) : ovrB (pad L) = ovrB L := by
  unfold ovrB pad
  rw [List.any_append, List.any_replicate]
  simp [show ¬ ((default : CargoTankT).2.1 < (default : CargoTankT).1) from by decide]
theorem sum_zeros : ∀ n, (List.replicate n (0 : Int)).sum = 0
  | 0 => rfl
  | n + 1 => by rw [List.replicate_succ, List.sum_cons, sum_zeros n]; rfl
theorem pad_lnS (L : List CargoTankT) : lnS (pad L) = lnS L := by
  unfold lnS pad
  rw [List.map_append, List.sum_append, List.map_replicate, show (default : CargoTankT).1 * (default : CargoTankT).2.2.1 = 0 from by decide, sum_zeros]
  omega
theorem pad_lnV (L : List CargoTankT) : lnV (pad L) = lnV L := by unfold lnV; rw [pad_lnS]
theorem pad_R (L N : List CargoTankT) (k : Int) (a b : Nat) (lean : Int) : cgR (pad L) (pad N) k a b lean = cgR L N k a b lean := by
  unfold cgR
  rw [pad_dry, pad_ovr, pad_at, pad_at, pad_lnV, pad_lnV]

/-- What a tank may have within an op: every number small. -/
def tkMid (x : CargoTankT) : Prop := -100000 ≤ x.1 ∧ x.1 ≤ 200000 ∧ -100000 ≤ x.2.1 ∧ x.2.1 ≤ 100000 ∧ -50 ≤ x.2.2.1 ∧ x.2.2.1 ≤ 50 ∧ 0 ≤ x.2.2.2.1 ∧ x.2.2.2.1 ≤ 1000 ∧ 0 ≤ x.2.2.2.2 ∧ x.2.2.2.2 ≤ 2000
theorem tkGood.mid {x : CargoTankT} (h : tkGood x) : tkMid x := by unfold tkGood at h; unfold tkMid; omega
theorem good_default : tkGood default := by decide
theorem part_bd {g p q : Int} (hg : 0 ≤ g) (hp0 : 0 ≤ p) (hpq : p ≤ q) (hq : 0 < q) : 0 ≤ g * p / q ∧ g * p / q ≤ g := by
  constructor
  · exact Int.ediv_nonneg (Int.mul_nonneg hg hp0) (by omega)
  · apply Int.ediv_le_of_le_mul hq
    exact Int.mul_le_mul_of_nonneg_left hpq hg
theorem inT_mid {x : CargoTankT} {m : Int} (h : tkGood x) (h1 : 1 ≤ m) (h2 : m ≤ 100000) : tkMid (inT x m) := by
  unfold tkGood at h; unfold tkMid inT; dsimp only; omega
theorem outT_mid {x : CargoTankT} {m : Int} (h : tkGood x) (h1 : 1 ≤ m) (h2 : m ≤ 100000) : tkMid (outT x m) := by
  unfold tkGood at h
  have hg := part_bd (g := x.2.2.2.1) (p := x.2.1 - (x.1 - m) - m) (q := x.2.1 - (x.1 - m)) (by omega) (by omega) (by omega) (by omega)
  have ha := part_bd (g := x.2.2.2.2) (p := x.2.1 - (x.1 - m) - m) (q := x.2.1 - (x.1 - m)) (by omega) (by omega) (by omega) (by omega)
  unfold tkMid outT thT; dsimp only
  generalize x.2.2.2.1 * (x.2.1 - (x.1 - m) - m) / (x.2.1 - (x.1 - m)) = u at *
  generalize x.2.2.2.2 * (x.2.1 - (x.1 - m) - m) / (x.2.1 - (x.1 - m)) = v at *
  omega
theorem inrT_mid {x : CargoTankT} {m : Int} (h : tkGood x) (h1 : 1 ≤ m) (h2 : m ≤ 100) : tkMid (inrT x m) := by
  unfold tkGood at h
  have hg := part_bd (g := x.2.2.2.1) (p := 100 - m) (q := 100) (by omega) (by omega) (by omega) (by omega)
  have ha := part_bd (g := x.2.2.2.2) (p := 100 - m) (q := 100) (by omega) (by omega) (by omega) (by omega)
  unfold tkMid inrT thT; dsimp only
  generalize x.2.2.2.1 * (100 - m) / 100 = u at *
  generalize x.2.2.2.2 * (100 - m) / 100 = v at *
  omega
theorem venT_mid {x : CargoTankT} {m : Int} (h : tkGood x) (h1 : 1 ≤ m) (h2 : m ≤ 100) : tkMid (venT x m) := by
  unfold tkGood at h
  have hg := part_bd (g := x.2.2.2.1) (p := 100 - m) (q := 100) (by omega) (by omega) (by omega) (by omega)
  have ha := part_bd (g := x.2.2.2.2) (p := 100 - m) (q := 100) (by omega) (by omega) (by omega) (by omega)
  unfold tkMid venT; dsimp only
  generalize x.2.2.2.1 * (100 - m) / 100 = u at *
  generalize x.2.2.2.2 * (100 - m) / 100 = v at *
  omega
def Mids (L : List CargoTankT) : Prop := ∀ i, i < L.length → tkMid (tkA L i)
theorem tk_set {L : List CargoTankT} {a i : Nat} (x : CargoTankT) (h : i < L.length) : tkA (L.set a x) i = if i = a then x else tkA L i := by
  unfold tkA
  simp only [List.getD_eq_getElem?_getD]
  by_cases e : i = a
  · subst e; simp [h]
  · rw [List.getElem?_set_ne (fun h => e h.symm), if_neg e]
theorem Mids.set {L : List CargoTankT} (h : Mids L) (a : Nat) {x : CargoTankT} (hx : tkMid x) : Mids (L.set a x) := fun i hi => by
  rw [List.length_set] at hi
  rw [tk_set x hi]
  split
  · exact hx
  · exact h i hi
theorem Tks.mids {L : List CargoTankT} (h : Tks L) : Mids L := fun i hi => (h.2.2 i hi).mid
theorem Mids.pad {L : List CargoTankT} (h : Mids L) : Mids (pad L) := fun i _ => by
  rw [pad_at]
  by_cases hl : i < L.length
  · exact h i hl
  · unfold tkA
    rw [List.getD_eq_getElem?_getD, List.getElem?_eq_none (by omega)]
    exact good_default.mid

/-- An op that is as told, laid out. -/
structure CgOp (n k a b m : Int) : Prop where
  k1 : 1 ≤ k
  k5 : k ≤ 5
  a0 : 0 ≤ a
  an : a ≤ n - 1
  m1 : 1 ≤ m
  mm : m ≤ 100000
  mb : 4 ≤ k → m ≤ 100
  b0 : k = 3 → 0 ≤ b
  bn : k = 3 → b ≤ n - 1
  ba : k = 3 → b ≠ a
theorem cgOp_parts {n k a b m : Int} (h : cgOp n k a b m = true) : CgOp n k a b m := by
  unfold cgOp at h
  rw [Bool.and_eq_true, Bool.and_eq_true] at h
  obtain ⟨⟨h1, h2⟩, h3⟩ := h
  simp only [inB, Bool.and_eq_true, decide_eq_true_eq] at h1 h2
  by_cases h4 : 4 ≤ k
  · rw [if_pos h4] at h3
    simp only [inB, Bool.and_eq_true, decide_eq_true_eq] at h3
    exact ⟨by omega, by omega, by omega, by omega, by omega, by omega, fun _ => by omega, fun _ => by omega, fun _ => by omega, fun _ => by omega⟩
  · rw [if_neg h4, Bool.and_eq_true] at h3
    obtain ⟨h3, h5⟩ := h3
    simp only [inB, Bool.and_eq_true, decide_eq_true_eq] at h3
    have h6 : k = 3 → 0 ≤ b ∧ b ≤ n - 1 ∧ b ≠ a := fun e => by
      subst e
      simpa [inB, and_assoc] using h5
    exact ⟨by omega, by omega, by omega, by omega, by omega, by omega, fun _ => by omega, fun e => (h6 e).1, fun e => (h6 e).2.1, fun e => (h6 e).2.2⟩
theorem cgN_mids {L : List CargoTankT} {k m : Int} {a b : Nat} (hL : Tks L) (ho : CgOp L.length k a b m) : Mids (cgN L k a b m) := by
  have hM := hL.mids
  have ha : a < L.length := by have := ho.an; have := ho.a0; omega
  have hga := hL.2.2 a ha
  unfold cgN
  by_cases h1 : k = 1
  · rw [if_pos h1]; exact hM.set a (inT_mid hga ho.m1 ho.mm)
  rw [if_neg h1]
  by_cases h2 : k = 2
  · rw [if_pos h2]; exact hM.set a (outT_mid hga ho.m1 ho.mm)
  rw [if_neg h2]
  by_cases h3 : k = 3
  · rw [if_pos h3]
    have hb : b < L.length := by have := ho.bn h3; have := ho.b0 h3; omega
    exact (hM.set a (outT_mid hga ho.m1 ho.mm)).set b (inT_mid (hL.2.2 b hb) ho.m1 ho.mm)
  rw [if_neg h3]
  by_cases h4 : k = 4
  · rw [if_pos h4]; exact hM.set a (inrT_mid hga ho.m1 (ho.mb (by omega)))
  rw [if_neg h4]
  exact hM.set a (venT_mid hga ho.m1 (ho.mb (by have := ho.k1; omega)))

theorem mul_bd5 {x y : Int} (h1 : -200000 ≤ x) (h2 : x ≤ 200000) (h3 : -50 ≤ y) (h4 : y ≤ 50) : -10000000 ≤ x * y ∧ x * y ≤ 10000000 := by
  have a0 : (x * y).natAbs ≤ 200000 * 50 := by rw [Int.natAbs_mul]; exact Nat.mul_le_mul (by omega) (by omega)
  omega
/-- Sums along a list, from its head. -/
theorem lnS_take_succ (L : List CargoTankT) {i : Nat} (h : i < L.length) : lnS (L.take (i + 1)) = lnS (L.take i) + (tkA L i).1 * (tkA L i).2.2.1 := by
  unfold lnS
  rw [List.take_add_one, List.getElem?_eq_getElem h, Option.toList_some, List.map_append, List.sum_append]
  simp only [List.map_cons, List.map_nil, List.sum_cons, List.sum_nil, tkA, List.getD_eq_getElem?_getD, List.getElem?_eq_getElem h, Option.getD_some]
  omega
theorem lnS_bd {L : List CargoTankT} (h : Mids L) : ∀ {i : Nat}, i ≤ L.length → -10000000 * (i : Int) ≤ lnS (L.take i) ∧ lnS (L.take i) ≤ 10000000 * (i : Int)
  | 0, _ => by simp [lnS]
  | i + 1, hi => by
    have h1 := lnS_bd h (i := i) (by omega)
    have hm := h i (by omega)
    unfold tkMid at hm
    rw [lnS_take_succ L (by omega)]
    have hp := mul_bd5 (x := (tkA L i).1) (y := (tkA L i).2.2.1) (by omega) (by omega) (by omega) (by omega)
    push_cast
    omega
theorem lnS_all {L : List CargoTankT} : lnS (L.take L.length) = lnS L := by rw [List.take_length]

/-- Whether a tank is dry, by what came so far. -/
theorem any_at {p : CargoTankT → Bool} {L : List CargoTankT} {i : Nat} (h : i < L.length) (hp : p (tkA L i) = true) : L.any p = true := by
  rw [List.any_eq_true]
  refine ⟨tkA L i, ?_, hp⟩
  unfold tkA
  rw [List.getD_eq_getElem?_getD, List.getElem?_eq_getElem h]
  exact List.getElem_mem h
theorem any_no {p : CargoTankT → Bool} {L : List CargoTankT} (h : ∀ i, i < L.length → p (tkA L i) = false) : L.any p = false := by
  rw [List.any_eq_false]
  intro x hx
  obtain ⟨i, hi, rfl⟩ := List.mem_iff_getElem.1 hx
  have := h i hi
  unfold tkA at this
  rw [List.getD_eq_getElem?_getD, List.getElem?_eq_getElem hi] at this
  rw [show (some L[i]).getD default = L[i] from rfl] at this
  rw [this]
  simp
/-- What is set, and what was good. -/
theorem any_set {p : CargoTankT → Bool} {L : List CargoTankT} (h : ∀ i, i < L.length → p (tkA L i) = false) {a : Nat} (ha : a < L.length) (x : CargoTankT) : (L.set a x).any p = p x := by
  cases hx : p x with
  | true =>
    refine any_at (i := a) (by rw [List.length_set]; exact ha) ?_
    rw [tk_set x ha, if_pos rfl, hx]
  | false =>
    refine any_no fun i hi => ?_
    rw [List.length_set] at hi
    rw [tk_set x hi]
    split
    · exact hx
    · exact h i hi
theorem any_set2 {p : CargoTankT → Bool} {L : List CargoTankT} (h : ∀ i, i < L.length → p (tkA L i) = false) {a b : Nat} (ha : a < L.length) (hb : b < L.length) (hab : b ≠ a) (x y : CargoTankT) : ((L.set a x).set b y).any p = (p x || p y) := by
  cases hy : p y with
  | true =>
    rw [Bool.or_true]
    refine any_at (i := b) (by simp; exact hb) ?_
    rw [tk_set y (by simp; exact hb), if_pos rfl, hy]
  | false =>
    rw [Bool.or_false]
    cases hx : p x with
    | true =>
      refine any_at (i := a) (by simp; exact ha) ?_
      rw [tk_set y (by simp; exact ha), if_neg (fun e => hab e.symm), tk_set x ha, if_pos rfl, hx]
    | false =>
      refine any_no fun i hi => ?_
      simp only [List.length_set] at hi
      rw [tk_set y (by simp; exact hi)]
      split
      · exact hy
      · rw [tk_set x hi]
        split
        · exact hx
        · exact h i hi
theorem Tks.noDry {L : List CargoTankT} (h : Tks L) : ∀ i, i < L.length → decide ((tkA L i).1 < 0) = false := fun i hi => by
  have := h.2.2 i hi
  unfold tkGood at this
  rw [decide_eq_false_iff_not]
  omega
theorem Tks.noOvr {L : List CargoTankT} (h : Tks L) : ∀ i, i < L.length → decide ((tkA L i).2.1 < (tkA L i).1) = false := fun i hi => by
  have := h.2.2 i hi
  unfold tkGood at this
  rw [decide_eq_false_iff_not]
  omega

end Go.Proofs.Ytfokocpdngokfaa

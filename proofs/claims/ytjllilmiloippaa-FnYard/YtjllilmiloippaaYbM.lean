/- What blocks, in numbers. No statement about the program stands here. -/
import Derived.Test.YtjllilmiloippaaYaM
namespace Go.Proofs.Ytjllilmiloippaa

/-- When a box goes out: its place in the order, or the order's length. -/
def trn (O : List Int) (x : Int) : Int := ((O.idxOf x : Nat) : Int)

/-- Of turns, the topmost first: how many stand above one that is less. -/
def inW : List Int → Nat
  | [] => 0
  | x :: xs => (if xs.any (fun y => decide (y < x)) = true then 1 else 0) + inW xs

theorem inW_le : ∀ L : List Int, inW L ≤ L.length
  | [] => by simp [inW]
  | x :: xs => by
    have := inW_le xs
    simp only [inW, List.length_cons]
    split <;> omega

/-- .. of all piles. -/
def blkP (P : List (List Int)) : Nat := (P.map inW).sum

/-- A stack as a pile of turns. -/
def turnsOf (O : List Int) (r : List Int) : List Int := (r.map (trn O)).reverse
def pilesOf (O : List Int) (R : List (List Int)) : List (List Int) := R.map (turnsOf O)

theorem turns_len (O r : List Int) : (turnsOf O r).length = r.length := by simp [turnsOf]
theorem piles_len (O : List Int) (R : List (List Int)) : (pilesOf O R).length = R.length := by simp [pilesOf]
theorem piles_get (O : List Int) {R : List (List Int)} {s : Nat} (h : s < R.length) : (pilesOf O R).getD s [] = turnsOf O (R.getD s []) := by
  simp [pilesOf, List.getD, h]

noncomputable def blkV (H : Int) (R : List (List Int)) (O : List Int) : Int × Bool :=
  if YOk H R ∧ O.length ≤ 72 ∧ O.Nodup then (((blkP (pilesOf O R) : Nat) : Int), true) else (0, false)

theorem blkP_take {P : List (List Int)} {k : Nat} (h : k < P.length) : blkP (P.take (k + 1)) = blkP (P.take k) + inW (P.getD k []) := by
  unfold blkP
  rw [List.take_add_one, List.map_append, List.sum_append, getD_lt h, List.getElem?_eq_getElem h]
  simp

/-- Among the first t boxes of a stack. -/
def wb (O r : List Int) (t : Nat) : Nat := inW (turnsOf O (r.take t))
theorem wb_zero (O r : List Int) : wb O r 0 = 0 := by simp [wb, turnsOf, inW]
theorem wb_all (O r : List Int) : wb O r r.length = inW (turnsOf O r) := by simp [wb]
theorem wb_succ (O : List Int) {r : List Int} {t : Nat} (h : t < r.length) : wb O r (t + 1) = (if (∃ k, k < t ∧ trn O (r.getD k 0) < trn O (r.getD t 0)) then 1 else 0) + wb O r t := by
  have e : turnsOf O (r.take (t + 1)) = trn O (r.getD t 0) :: turnsOf O (r.take t) := by
    unfold turnsOf
    rw [List.take_add_one, getD_lt h, List.getElem?_eq_getElem h]
    simp only [Option.toList_some, List.map_append, List.map_cons, List.map_nil, List.reverse_append, List.reverse_cons, List.reverse_nil, List.nil_append, List.singleton_append]
  unfold wb
  rw [e]
  simp only [inW]
  congr 1
  have hiff : ((turnsOf O (r.take t)).any (fun y => decide (y < trn O (r.getD t 0))) = true) ↔ ∃ k, k < t ∧ trn O (r.getD k 0) < trn O (r.getD t 0) := by
    rw [List.any_eq_true]
    constructor
    · rintro ⟨y, hy, hlt⟩
      unfold turnsOf at hy
      rw [List.mem_reverse, List.mem_map] at hy
      obtain ⟨z, hz, rfl⟩ := hy
      obtain ⟨k, hk, rfl⟩ := List.mem_iff_getElem.1 hz
      rw [List.length_take] at hk
      refine ⟨k, by omega, ?_⟩
      rw [List.getElem_take] at hlt
      rw [getD_lt (show k < r.length by omega)]
      exact of_decide_eq_true hlt
    · rintro ⟨k, hk, hlt⟩
      refine ⟨trn O (r.getD k 0), ?_, decide_eq_true hlt⟩
      unfold turnsOf
      rw [List.mem_reverse, List.mem_map]
      refine ⟨r.getD k 0, ?_, rfl⟩
      rw [List.mem_iff_getElem]
      exact ⟨k, by rw [List.length_take]; omega, by rw [List.getElem_take, getD_lt (show k < r.length by omega)]⟩
  by_cases hx : ∃ k, k < t ∧ trn O (r.getD k 0) < trn O (r.getD t 0)
  · rw [if_pos (hiff.2 hx), if_pos hx]
  · rw [if_neg (fun e => hx (hiff.1 e)), if_neg hx]

theorem wb_le (O r : List Int) (t : Nat) : wb O r t ≤ t := by
  unfold wb
  refine Nat.le_trans (inW_le _) ?_
  rw [turns_len, List.length_take]
  omega

theorem idx_self {O : List Int} {i : Nat} (hi : i < O.length) (hn : O.Nodup) : O.idxOf (O.getD i 0) = i :=
  idx_at hi rfl fun u hu e => by
    have hul : u < O.length := by omega
    rw [getD_lt hul, getD_lt hi] at e
    exact (List.pairwise_iff_getElem.1 hn u i hul hi hu) e
theorem nodup_idx {O : List Int} (h : ∀ i, i < O.length → O.idxOf (O.getD i 0) = i) : O.Nodup :=
  List.pairwise_iff_getElem.2 fun i j hi hj hij e => by
    have h1 := h i hi
    have h2 := h j hj
    rw [getD_lt hi] at h1
    rw [getD_lt hj, ← e] at h2
    omega

end Go.Proofs.Ytjllilmiloippaa

/- Turning points as lists; contracts of levelsOk, of moving and of what it hands back. -/
import Derived.Test.YtliodmahbdmcbaaSgBs
import Derived.Test.YtliodmahbdmcbaaRfA
import Derived.Shelf.Abstract
import Derived.Shelf.RegionOpen
import Derived.WalkKit
import Derived.OwnWalkIn
import Derived.TacticsInMore
import Derived.LoopNIn
import Derived.LoopIn
namespace Go.Proofs.Ytliodmahbdmcbaa
open Go.RowKit Go.Shelf

attribute [local go_sem] Oper.semAt_some

def lvOk (L : List Int) : Bool := decide (L.length ≤ 200) && L.all (fun x => inB x (-1000000000) 1000000000)

/-- The first k numbers without those that are the same as the one ahead. -/
def mvTo (L : List Int) : Nat → List Int
  | 0 => []
  | k + 1 => if 0 < k ∧ L.getD k 0 = L.getD (k - 1) 0 then mvTo L k else mvTo L k ++ [L.getD k 0]

/-- How far the turns have come: how many numbers were seen, the last two, and what was told. -/
structure TSt where
  seen : Nat
  ahead : Int
  waits : Int
  out : List Int

def turnB (s : TSt) (n : Int) : Bool := decide (s.seen = 1) || (decide (1 < s.seen) && (decide (s.ahead < s.waits) != decide (s.waits < n)))
def TSt.step (s : TSt) (n : Int) : TSt := ⟨s.seen + 1, s.waits, n, if turnB s n = true then s.out ++ [s.waits] else s.out⟩
def tSt (xs : List Int) : TSt := xs.foldl TSt.step ⟨0, 0, 0, []⟩
theorem tSt_snoc (xs : List Int) (x : Int) : tSt (xs ++ [x]) = (tSt xs).step x := by simp [tSt]
def tOut (s : TSt) : List Int := if s.seen = 0 then [] else s.out ++ [s.waits]
def turnsOf (L : List Int) : List Int := if lvOk L = true then tOut (tSt (mvTo L L.length)) else []

theorem mvTo_len (L : List Int) : ∀ k, (mvTo L k).length ≤ k
  | 0 => by simp [mvTo]
  | k + 1 => by
    have := mvTo_len L k
    unfold mvTo
    split
    · omega
    · simp; omega

theorem tSt_bd (L : List Int) : ∀ k, (tSt (mvTo L k)).seen ≤ k ∧ (tSt (mvTo L k)).out.length ≤ k
  | 0 => by simp [mvTo, tSt]
  | k + 1 => by
    have ih := tSt_bd L k
    unfold mvTo
    split
    · omega
    · rw [tSt_snoc]
      simp only [TSt.step]
      constructor
      · omega
      · split
        · simp; omega
        · omega

theorem tSt_seen_aux (ys : List Int) : ∀ s : TSt, (ys.foldl TSt.step s).seen = s.seen + ys.length ∧ (ys.foldl TSt.step s).out.length ≤ s.out.length + ys.length := by
  induction ys with
  | nil => intro s; simp
  | cons y ys ih =>
    intro s
    have h := ih (s.step y)
    simp only [List.foldl_cons, List.length_cons]
    have e1 : (s.step y).seen = s.seen + 1 := rfl
    have e2 : (s.step y).out.length ≤ s.out.length + 1 := by
      simp only [TSt.step]
      split
      · simp
      · omega
    omega

theorem tSt_seen (xs : List Int) : (tSt xs).seen = xs.length ∧ (tSt xs).out.length ≤ xs.length := by
  have := tSt_seen_aux xs ⟨0, 0, 0, []⟩
  simpa [tSt] using this

theorem mvTo_mem (L : List Int) : ∀ k, k ≤ L.length → ∀ y ∈ mvTo L k, y ∈ L
  | 0, _, y, h => by simp [mvTo] at h
  | k + 1, hk, y, h => by
    have ih := mvTo_mem L k (by omega)
    unfold mvTo at h
    split at h
    · exact ih y h
    · rcases List.mem_append.1 h with h | h
      · exact ih y h
      · simp only [List.mem_singleton] at h
        subst h
        rw [getD_lt (show k < L.length by omega)]; exact List.getElem_mem _

theorem tSt_mem_aux (ys : List Int) : ∀ s : TSt, ∀ M : List Int, (∀ y ∈ s.out, y ∈ M) → (0 < s.seen → s.waits ∈ M) → (∀ y ∈ ys, y ∈ M) → (∀ y ∈ (ys.foldl TSt.step s).out, y ∈ M) ∧ (0 < (ys.foldl TSt.step s).seen → (ys.foldl TSt.step s).waits ∈ M) := by
  induction ys with
  | nil => intro s M h1 h2 _; exact ⟨h1, h2⟩
  | cons y ys ih =>
    intro s M h1 h2 h3
    refine ih (s.step y) M (fun z hz => ?_) (fun _ => h3 y (by simp)) (fun z hz => h3 z (by simp [hz]))
    simp only [TSt.step] at hz
    split at hz
    · rename_i ht
      rcases List.mem_append.1 hz with hz | hz
      · exact h1 z hz
      · simp only [List.mem_singleton] at hz
        subst hz
        apply h2
        simp only [turnB, Bool.or_eq_true, Bool.and_eq_true, decide_eq_true_eq] at ht
        rcases ht with ht | ht <;> omega
    · exact h1 z hz

theorem tSt_mem (xs : List Int) : (∀ y ∈ (tSt xs).out, y ∈ xs) ∧ (0 < (tSt xs).seen → (tSt xs).waits ∈ xs) :=
  tSt_mem_aux xs ⟨0, 0, 0, []⟩ xs (fun y h => by simp at h) (fun h => by simp at h) (fun _ h => h)

theorem turnsOf_len (L : List Int) : (turnsOf L).length ≤ 201 := by
  unfold turnsOf
  split
  · rename_i h
    simp only [lvOk, Bool.and_eq_true, decide_eq_true_eq] at h
    have := tSt_bd L L.length
    unfold tOut
    split
    · simp
    · simp; omega
  · simp

set_option maxHeartbeats 400000 in
theorem levelsOk_any (v : Value) (xs : List Int) (w : World) (h : IntsIn w v xs) :
    Calls Try.prog 70 #[v] w fun e w' => e = .returned (.bool (lvOk xs)) ∧ w = w' := by
  obtain ⟨ao, cap, rfl, hl, hm, hc⟩ := h
  unfold maxLen at hm
  have HC := hide hc
  clear hc
  by_cases hlen : xs.length ≤ 200
  case neg =>
    have HF : Hid (lvOk xs = false) := by show _ = _; simp [lvOk, hlen]
    go_enter Try.func70, Try.ntmps70
    go_wp2
    go_ret
    exact ⟨ret_bool (unhide HF).symm, rfl⟩
  go_enter Try.func70, Try.ntmps70
  go_wp2
  go_loopg [10] xs.length (fun g i wr => w = wr ∧ ∃ k : Nat, k ≤ xs.length ∧ g = xs.length - k ∧ i = .int .i64 k ∧ Hid (∀ r, r < k → inB (xs.getD r 0) (-1000000000) 1000000000 = true))
  case atStart => exact ⟨rfl, 0, Nat.zero_le _, rfl, rfl, fun r hr => by omega⟩
  case round =>
    obtain ⟨rfl, k, hk, rfl, rfl, HD⟩ := hrel
    by_cases hkn : k < xs.length
    · obtain ⟨p, o, rfl, hcell⟩ := unhide HC k hkn
      cases hin : inB (xs.getD k 0) (-1000000000) 1000000000 with
      | true =>
        have HD' : Hid (∀ r, r < k + 1 → inB (xs.getD r 0) (-1000000000) 1000000000 = true) := fun r hr => by
          by_cases e : r = k
          · subst e; exact hin
          · exact HD.out r (by omega)
        clear HD
        generalize xs.getD k 0 = x at *
        go_wp2_with (go_at_call 43; refine (within_any _ _ _ _).mono ?_; rintro e w' ⟨rfl, rfl⟩)
        go_roundg (xs.length - (k + 1))
        case measure => omega
        case rel => exact ⟨rfl, k + 1, by omega, rfl, by go_num, HD'⟩
      | false =>
        have HF : Hid (lvOk xs = false) := by show _ = _; rw [lvOk, all_false hkn (d := 0) hin]; simp
        clear HD
        generalize xs.getD k 0 = x at *
        go_wp2_with (go_at_call 43; refine (within_any _ _ _ _).mono ?_; rintro e w' ⟨rfl, rfl⟩)
        go_ret
        exact ⟨ret_bool (unhide HF).symm, rfl⟩
    · have HF : Hid (lvOk xs = true) := by show _ = _; rw [lvOk, all_true (d := 0) (fun r hr => HD.out r (by omega))]; simp [hlen]
      clear HD
      go_wp2
      go_ret
      exact ⟨ret_bool (unhide HF).symm, rfl⟩

/-- moving boxes the list; what it hands back holds the box. -/
theorem moving_any (ao : Option Addr) (m cap : Nat) (w : World) (F : Fence) (n : Nat) (hF : F.fn 71) (hro : F.round = none) :
    CallsIn F n Try.prog 71 #[.slice ao m cap] w fun e w' => e = .returned (.func (.func 76) #[] #[.pointer (some ⟨w.heap.size, 0, none⟩)]) ∧ w' = w.alloc (.cells #[.slice ao m cap] 24) := by
  refine callsIn_of_wp Try.func71 rfl hF ?_ hro
  simp only [Try.ntmps71, List.size_toArray, List.length_cons, List.length_nil, Nat.reduceAdd, Nat.reduceSub, Array.replicate_succ, Array.replicate_zero, List.push_toArray, List.append_toArray, List.nil_append, List.cons_append]
  gi_wp2
  go_ret
  exact ⟨rfl, rfl⟩

theorem turning_any (ao : Option Addr) (m cap : Nat) (w : World) (F : Fence) (n : Nat) (hF : F.fn 47) (hro : F.round = none) :
    CallsIn F n Try.prog 47 #[.slice ao m cap] w fun e w' => e = .returned (.func (.func 69) #[] #[.pointer (some ⟨w.heap.size, 0, none⟩)]) ∧ w' = w.alloc (.cells #[.slice ao m cap] 24) := by
  refine callsIn_of_wp Try.func47 rfl hF ?_ hro
  simp only [Try.ntmps47, List.size_toArray, List.length_cons, List.length_nil, Nat.reduceAdd, Nat.reduceSub, Array.replicate_succ, Array.replicate_zero, List.push_toArray, List.append_toArray, List.nil_append, List.cons_append]
  gi_wp2
  go_ret
  exact ⟨rfl, rfl⟩

end Go.Proofs.Ytliodmahbdmcbaa

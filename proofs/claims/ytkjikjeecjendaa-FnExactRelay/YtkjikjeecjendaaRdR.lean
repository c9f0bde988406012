/- Calls that go round: in numbers; contracts of math/bits.Mul64, Mul at small numbers and of slices.Repeat at one number. -/
import Derived.Test.YtkjikjeecjendaaRdK
import Derived.Test.YtkjikjeecjendaaCpK
import Derived.Laws.BitsAllLaws
import Derived.Deep.RegionHeld3
namespace Go.Proofs.Ytkjikjeecjendaa
open Go.RowKit

/-- One hears the other. -/
def Edge (L : List Rad) (u v : Nat) : Prop := u < L.length ∧ v < L.length ∧ ∃ k, k < (rHe L u).length ∧ (rHe L u).getD k 0 = (v : Int)
/-- How many times a call is passed on till it comes to each. -/
structure Wave9 (L : List Rad) (f : Nat) (P : List Int) : Prop where
  len : P.length = L.length
  low : ∀ v, v < L.length → -1 ≤ P.getD v 0
  zero : ∀ v, v < L.length → (P.getD v 0 = 0 ↔ v = f)
  pred : ∀ v, v < L.length → 0 < P.getD v 0 → ∃ u, Edge L u v ∧ P.getD u 0 = P.getD v 0 - 1
  relax : ∀ u v, Edge L u v → 0 ≤ P.getD u 0 → 0 ≤ P.getD v 0 ∧ P.getD v 0 ≤ P.getD u 0 + 1
theorem Wave9.le {L : List Rad} {f : Nat} {P Q : List Int} (hP : Wave9 L f P) (hQ : Wave9 L f Q) : ∀ (k : Nat) (v : Nat), v < L.length → P.getD v 0 = (k : Int) → 0 ≤ Q.getD v 0 ∧ Q.getD v 0 ≤ (k : Int) := by
  intro k
  induction k with
  | zero =>
    intro v hv h
    have e := (hP.zero v hv).1 (by simpa using h)
    have := (hQ.zero v hv).2 e
    omega
  | succ k ih =>
    intro v hv h
    obtain ⟨u, hE, hu⟩ := hP.pred v hv (by omega)
    obtain ⟨h1, h2⟩ := ih u hE.1 (by omega)
    have := hQ.relax u v hE h1
    omega
theorem Wave9.one {L : List Rad} {f : Nat} {P Q : List Int} (hP : Wave9 L f P) (hQ : Wave9 L f Q) : P = Q := by
  apply List.ext_getElem
  · rw [hP.len, hQ.len]
  · intro v h1 h2
    have hv : v < L.length := by rw [← hP.len]; exact h1
    have a : P.getD v 0 = P[v] := getD_lt h1
    have b : Q.getD v 0 = Q[v] := getD_lt h2
    have lp := hP.low v hv
    have lq := hQ.low v hv
    rw [← a, ← b]
    by_cases c : 0 ≤ P.getD v 0
    · obtain ⟨k, hk⟩ : ∃ k : Nat, P.getD v 0 = (k : Int) := ⟨(P.getD v 0).toNat, by omega⟩
      obtain ⟨h3, h4⟩ := hP.le hQ k v hv hk
      obtain ⟨k', hk'⟩ : ∃ k : Nat, Q.getD v 0 = (k : Int) := ⟨(Q.getD v 0).toNat, by omega⟩
      obtain ⟨h5, h6⟩ := hQ.le hP k' v hv hk'
      omega
    · by_cases d : 0 ≤ Q.getD v 0
      · obtain ⟨k', hk'⟩ : ∃ k : Nat, Q.getD v 0 = (k : Int) := ⟨(Q.getD v 0).toNat, by omega⟩
        obtain ⟨h5, h6⟩ := hQ.le hP k' v hv hk'
        omega
      · omega

set_option maxRecDepth 10000 in
set_option maxHeartbeats 1600000 in
theorem mul64_any (n : Nat) (w : World) (hn : n < 4294967296) :
    Calls Try.prog 94 #[.int .u64 1, .int .u64 n] w fun e w' => e = .returned (.tuple #[.int .u64 0, .int .u64 n]) ∧ w' = w := by
  have a1 : bits .and .u64 1 4294967295 = 1 := by decide
  have a2 : bits .and .u64 (n : Int) 4294967295 = (n : Int) := by
    rw [show ((4294967295 : Int)) = ((4294967295 : Nat) : Int) from rfl, u64_and_nat n 4294967295 (by omega) (by omega), nat_mask32]
    congr 1
    exact Nat.mod_eq_of_lt hn
  have a3 : bits .and .u64 0 4294967295 = 0 := by decide
  have d1 : (n : Int) / 4294967296 = 0 := by omega
  have w1 : IntKind.u64.wrap (n : Int) = (n : Int) := by rw [IntKind.wrap_u64]; omega
  go_enter Try.func94, Try.ntmps94
  go_wp2
  refine bodyPost_ret (v := .tuple #[.int .u64 0, .int .u64 n]) (by simp [results, Try.results94, go_sem, *]) rfl ⟨rfl, rfl⟩

set_option maxRecDepth 10000 in
set_option maxHeartbeats 1600000 in
theorem mul_any (n : Nat) (w : World) (hn : n < 4294967296) :
    Calls Try.prog 87 #[.int .u64 1, .int .u64 n] w fun e w' => e = .returned (.tuple #[.int .u64 0, .int .u64 n]) ∧ w' = w := by
  have HM := hide (mul64_any n w hn)
  go_enter Try.func87, Try.ntmps87
  go_wp2_with fail
  refine (unhide HM).mono ?_
  rintro e w' ⟨rfl, h9⟩
  have h8 := h9.symm
  subst h8
  clear h9
  go_wp2
  refine bodyPost_ret (v := .tuple #[.int .u64 0, .int .u64 n]) (by simp [results, Try.results87, go_sem]) rfl ⟨rfl, rfl⟩

end Go.Proofs.Ytkjikjeecjendaa

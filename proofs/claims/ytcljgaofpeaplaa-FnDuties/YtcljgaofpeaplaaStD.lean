/- Fractions in lowest terms: contracts of the program's lowest and of the specification's l2Gcd, l2Frac. -/
import Derived.Test.YtcljgaofpeaplaaStC
import Derived.Test.YtcljgaofpeaplaaExactKit
import Derived.Deep.RegionHeld3
import Derived.Laws.Closers25
namespace Go.Proofs.Ytcljgaofpeaplaa
open Go.RowKit

theorem gcd_tmod (a b : Int) : Int.gcd b (Int.tmod a b) = Int.gcd a b := by
  rw [Int.gcd_comm a b]
  have h := Int.tmod_add_mul_tdiv a b
  conv => rhs; rw [← h]
  simp

theorem tmod_lt {a b : Int} (h : b ≠ 0) : (Int.tmod a b).natAbs < b.natAbs := by
  rw [Int.natAbs_tmod]
  exact Nat.mod_lt _ (by omega)

/-- num by den in lowest terms (den above 0). -/
def lowV (num den : Int) : I2 := (num.tdiv (Int.gcd num den), den / (Int.gcd num den))

theorem gcd_range {num den : Int} (h3 : 0 < den) : 0 < (Int.gcd num den : Int) ∧ (Int.gcd num den : Int) ≤ den := by
  constructor
  · have := Int.gcd_pos_of_ne_zero_right num (show den ≠ 0 by omega)
    omega
  · exact Int.le_of_dvd h3 (Int.gcd_dvd_right ..)

/-- A world in which nothing of w has turned, the next block the answer's, two numbers. -/
theorem tdiv_wrap {a g : Int} (h1 : -9223372036854775808 ≤ a) (h2 : a ≤ 9223372036854775807) (hg : 0 < g) : IntKind.i64.wrap (a.tdiv g) = a.tdiv g := wrap_i64_tdiv a g h1 h2 (by omega)

structure Ans2 (w wr : World) : Prop where
  below : Below w.heap.size w wr
  ans : OwnV wr w.heap.size [.int .i64 0, .int .i64 0]

theorem Ans2.start (w : World) (t : TypeId) : Ans2 w (w.alloc (.cells #[.int .i64 0, .int .i64 0] t)) := ⟨Below.alloc1 _ _, ownV_alloc w #[.int .i64 0, .int .i64 0] t⟩
theorem Ans2.drewN {w wr : World} (h : Ans2 w wr) (n : Nat) : Ans2 w (wr.drewN n) := ⟨below_drewN h.below n, h.ans⟩

set_option maxHeartbeats 400000 in
theorem lowest_any (num den : Int) (w : World) (h1 : -9223372036854775808 ≤ num) (h2 : num ≤ 9223372036854775807) (h3 : 0 < den) (h4 : den ≤ 4611686018427387904) :
    Calls Try.prog 31 #[.int .i64 num, .int .i64 den] w fun e w' => e = .returned (v2 (lowV num den)) ∧ Below w.heap.size w w' := by
  go_enter Try.func31, Try.ntmps31
  go_wp2
  go_loopg [5, 6] num.natAbs (fun g sv rv wr => Ans2 w wr ∧ ∃ s r : Int, sv = .int .i64 s ∧ rv = .int .i64 r ∧ g = r.natAbs ∧ Hid (Int.gcd s r = Int.gcd num den) ∧ -9223372036854775808 ≤ s ∧ s ≤ 9223372036854775807 ∧ -9223372036854775808 ≤ r ∧ r ≤ 9223372036854775807)
  case atStart => exact ⟨Ans2.start _ _, den, num, rfl, rfl, rfl, Int.gcd_comm _ _, by omega, by omega, h1, h2⟩
  case round =>
    obtain ⟨hA, s, r, rfl, rfl, rfl, HG, a1, a2, a3, a4⟩ := hrel
    have HA := hide hA
    clear hA
    by_cases hr : r = 0
    · subst hr
      have hg := unhide HG
      rw [Int.gcd_zero_right] at hg
      have hgr := gcd_range (num := num) h3
      obtain ⟨g, eg⟩ : ∃ g : Int, g = (Int.gcd num den : Int) := ⟨_, rfl⟩
      have HL : Hid (lowV num den = (num.tdiv g, den / g)) := by show _ = _; rw [eg]; rfl
      rw [← eg] at hgr
      have hsg : s = g ∨ s = -g := by omega
      clear hg eg HG
      have c0 := OwnV.cell (unhide HA).ans (i := 0) rfl
      have c1 := OwnV.cell (unhide HA).ans (i := 1) rfl
      have f0 := (unhide HA).ans.frozen
      obtain ⟨g1, g2⟩ := hgr
      have d2 : decide (den < 0) = false := by simp; omega
      have hw1 := tdiv_wrap h1 h2 g1
      have hw2 : IntKind.i64.wrap (den.tdiv g) = den / g := by rw [tdiv_wrap (by omega) (by omega) g1, Int.tdiv_eq_ediv_of_nonneg (by omega)]
      have hne : ¬ g = 0 := by omega
      rcases hsg with rfl | rfl
      · have d1 : decide (s < 0) = false := by simp; omega
        go_wp2
        go_region_held3 (fun _ => True) (go_keep) (fail)
        go_wp2
        refine bodyPost_ret (v := v2 (num.tdiv s, den / s)) (by simp [results, Try.results31, go_sem, c0, c1]) rfl ⟨by rw [unhide HL], ?_⟩
        exact (((unhide HA).below.setCell (Nat.le_refl _) _).setCell (Nat.le_refl _) _).drew
      · have d1 : decide (-g < 0) = true := by simp; omega
        go_wp2
        go_region_held3 (fun _ => True) (go_keep) (fail)
        go_wp2
        refine bodyPost_ret (v := v2 (num.tdiv g, den / g)) (by simp [results, Try.results31, go_sem, c0, c1]) rfl ⟨by rw [unhide HL], ?_⟩
        exact (((unhide HA).below.setCell (Nat.le_refl _) _).setCell (Nat.le_refl _) _).drew
    · have ht := tmod_lt (a := s) hr
      have HG' : Hid (Int.gcd r (s.tmod r) = Int.gcd num den) := (gcd_tmod s r).trans (unhide HG)
      clear HG
      go_wp2
      go_quiet (fail)
      go_wp2
      go_roundg (s.tmod r).natAbs
      case measure => exact ht
      case rel => exact ⟨(unhide HA).drewN _, r, s.tmod r, rfl, rfl, rfl, HG', a3, a4, by omega, by omega⟩

end Go.Proofs.Ytcljgaofpeaplaa

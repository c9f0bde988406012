/- Places and neighbours in numbers; contracts of the specification's l7Place, l7Next, l7Shut. -/
import Derived.Test.YtdpcacfgbjllhaaSeB
namespace Go.Proofs.Ytdpcacfgbjllhaa
open Go.RowKit

def onB (s : Se) (p : Int) : Bool := inB p 0 ((s.D.length : Int) - 1)
def nextB (wd a b : Int) : Bool := decide ((a % wd - b % wd) * (a % wd - b % wd) + (a / wd - b / wd) * (a / wd - b / wd) = 1)
def shut1 (x y step : Int) (c : ClosedT) : Bool := inB x c.1 c.2.2.1 && inB y c.2.1 c.2.2.2.1 && inB step c.2.2.2.2.1 c.2.2.2.2.2
def shutB (s : Se) (p step : Int) : Bool := s.F.any (shut1 (p % s.wd) (p / s.wd) step)

set_option maxHeartbeats 800000 in
theorem l7Place_any (s : Se) (p : Int) (dv fv : Value) (w : World) (hn : SeaN s) :
    Calls Try.prog 49 #[vSea s.wd s.hg dv fv, .int .i64 p] w fun e w' => e = .returned (.bool (onB s p)) ∧ Below w.heap.size w w' := by
  have HB := hide (Below.alloc1 w (.cells #[.int .i64 s.wd, .int .i64 s.hg, dv, fv] 27))
  have q1 : IntKind.i64.wrap (s.wd * s.hg) = s.D.length := by have := hn.le; rw [← hn.len, IntKind.wrap_i64]; omega
  have q2 : IntKind.i64.wrap ((s.D.length : Int) - 1) = (s.D.length : Int) - 1 := by have := hn.le; rw [IntKind.wrap_i64]; omega
  unfold vSea onB
  clear hn
  go_enter Try.func49, Try.ntmps49
  go_wp2_with (go_at_call 62; refine (l1In_any _ _ _ _).mono ?_; rintro e w' ⟨rfl, h9⟩; have h8 := h9.symm; subst h8; clear h9)
  go_ret
  exact ⟨rfl, unhide HB⟩

theorem mod_bd {a wd : Int} (ha : 0 ≤ a) (hw : 1 ≤ wd) : 0 ≤ a % wd ∧ a % wd < wd ∧ 0 ≤ a / wd ∧ a / wd ≤ a := by
  have h1 := Int.emod_nonneg a (show wd ≠ 0 by omega)
  have h2 := Int.emod_lt_of_pos a (show 0 < wd by omega)
  have h3 := Int.ediv_nonneg ha (show 0 ≤ wd by omega)
  have h4 := Int.ediv_le_self wd ha
  exact ⟨h1, h2, h3, h4⟩
theorem sq_bd {x : Int} {b : Nat} (h0 : -(b : Int) ≤ x) (h1 : x ≤ b) : 0 ≤ x * x ∧ x * x ≤ (b : Int) * b := by
  constructor
  · rcases Int.le_total 0 x with h | h
    · exact Int.mul_nonneg h h
    · exact Int.mul_nonneg_of_nonpos_of_nonpos h h
  · rcases Int.le_total 0 x with h | h
    · exact Int.mul_le_mul h1 h1 h (by omega)
    · have := Int.mul_le_mul (show -x ≤ b by omega) (show -x ≤ b by omega) (by omega) (by omega)
      rwa [Int.neg_mul_neg] at this

set_option maxHeartbeats 1600000 in
theorem l7Next_any (s : Se) (a b : Int) (dv fv : Value) (w : World) (hn : SeaN s) (ha0 : 0 ≤ a) (ha1 : a < s.D.length) (hb0 : 0 ≤ b) (hb1 : b < s.D.length) :
    Calls Try.prog 50 #[vSea s.wd s.hg dv fv, .int .i64 a, .int .i64 b] w fun e w' => e = .returned (.bool (nextB s.wd a b)) ∧ Below w.heap.size w w' := by
  have HB := hide (Below.alloc1 w (.cells #[.int .i64 s.wd, .int .i64 s.hg, dv, fv] 27))
  have hle := hn.le
  have hw0 := hn.w0
  have hw1 := hn.w1
  obtain ⟨a1, a2, a3, a4⟩ := mod_bd ha0 hw0
  obtain ⟨b1, b2, b3, b4⟩ := mod_bd hb0 hw0
  have c1 := sq_bd (x := a % s.wd - b % s.wd) (b := 12) (by omega) (by omega)
  have c2 := sq_bd (x := a / s.wd - b / s.wd) (b := 144) (by omega) (by omega)
  unfold vSea nextB
  generalize s.wd = wd at *
  have t1 : Int.tmod a wd = a % wd := Int.tmod_eq_emod_of_nonneg ha0
  have t2 : Int.tmod b wd = b % wd := Int.tmod_eq_emod_of_nonneg hb0
  have t3 : Int.tdiv a wd = a / wd := Int.tdiv_eq_ediv_of_nonneg ha0
  have t4 : Int.tdiv b wd = b / wd := Int.tdiv_eq_ediv_of_nonneg hb0
  have hwz : (wd == 0) = false := by simp; omega
  have hwn : wd ≠ 0 := by omega
  generalize a % wd = am at *
  generalize b % wd = bm at *
  generalize a / wd = ad at *
  generalize b / wd = bd at *
  have u1 : IntKind.i64.wrap am = am := by rw [IntKind.wrap_i64]; omega
  have u2 : IntKind.i64.wrap bm = bm := by rw [IntKind.wrap_i64]; omega
  have u3 : IntKind.i64.wrap ad = ad := by rw [IntKind.wrap_i64]; omega
  have u4 : IntKind.i64.wrap bd = bd := by rw [IntKind.wrap_i64]; omega
  obtain ⟨dx, ex⟩ : ∃ d, am - bm = d := ⟨_, rfl⟩
  obtain ⟨dy, ey⟩ : ∃ d, ad - bd = d := ⟨_, rfl⟩
  have v1 : IntKind.i64.wrap (am - bm) = dx := by rw [IntKind.wrap_i64]; omega
  have v2 : IntKind.i64.wrap (ad - bd) = dy := by rw [IntKind.wrap_i64]; omega
  rw [ex] at c1 ⊢
  rw [ey] at c2 ⊢
  clear ex ey
  obtain ⟨dx2, ex2⟩ : ∃ d, dx * dx = d := ⟨_, rfl⟩
  obtain ⟨dy2, ey2⟩ : ∃ d, dy * dy = d := ⟨_, rfl⟩
  rw [ex2] at c1 ⊢
  rw [ey2] at c2 ⊢
  have w1 : IntKind.i64.wrap (dx * dx) = dx2 := by rw [ex2, IntKind.wrap_i64]; omega
  have w2 : IntKind.i64.wrap (dy * dy) = dy2 := by rw [ey2, IntKind.wrap_i64]; omega
  have w3 : IntKind.i64.wrap (dx2 + dy2) = dx2 + dy2 := by rw [IntKind.wrap_i64]; omega
  clear ex2 ey2 c1 c2
  clear hn hle
  go_enter Try.func50, Try.ntmps50
  go_wp2
  go_quiet (fail)
  go_wp2
  go_ret
  exact ⟨ret_bool (by rw [Bool.eq_iff_iff]; simp), below_drewN (unhide HB) nq⟩

theorem any_t {α : Type} {p : α → Bool} {xs : List α} {d : α} {i : Nat} (hi : i < xs.length) (h : p (xs.getD i d) = true) : xs.any p = true := by
  rw [List.any_eq_true]
  exact ⟨xs.getD i d, by rw [getD_lt hi]; exact List.getElem_mem _, h⟩
theorem any_f {α : Type} {p : α → Bool} {xs : List α} {d : α} (h : ∀ i, i < xs.length → p (xs.getD i d) = false) : xs.any p = false := by
  rw [List.any_eq_false]
  intro x hx
  obtain ⟨i, hi, rfl⟩ := List.mem_iff_getElem.1 hx
  have := h i hi
  rw [getD_lt hi] at this
  simp [this]

end Go.Proofs.Ytdpcacfgbjllhaa

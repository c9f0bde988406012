/- Places and neighbours in numbers; contracts of the specification's l7Place, l7Next, l7Shut. -/
import Derived.Test.YtahgblhmdhjahaaSeB
namespace Go.Proofs.Ytahgblhmdhjahaa
open Go.RowKit

def onB (s : Se) (p : Int) : Bool := inB p 0 ((s.D.length : Int) - 1)
def nextB (wd a b : Int) : Bool := decide ((a % wd - b % wd) * (a % wd - b % wd) + (a / wd - b / wd) * (a / wd - b / wd) = 1)
def shut1 (x y step : Int) (c : ClosedT) : Bool := inB x c.1 c.2.2.1 && inB y c.2.1 c.2.2.2.1 && inB step c.2.2.2.2.1 c.2.2.2.2.2
def shutB (s : Se) (p step : Int) : Bool := s.F.any (shut1 (p % s.wd) (p / s.wd) step)

set_option maxHeartbeats 800000 in
theorem l7Place_any (s : Se) (p : Int) (dv fv : Value) (w : World) (hn : SeaN s) :
    Calls Try.prog 63 #[vSea s.wd s.hg dv fv, .int .i64 p] w fun e w' => e = .returned (.bool (onB s p)) ∧ Below w.heap.size w w' := by
  have HB := hide (Below.alloc1 w (.cells #[.int .i64 s.wd, .int .i64 s.hg, dv, fv] 27))
  have q1 : IntKind.i64.wrap (s.wd * s.hg) = s.D.length := by have := hn.le; rw [← hn.len, IntKind.wrap_i64]; omega
  have q2 : IntKind.i64.wrap ((s.D.length : Int) - 1) = (s.D.length : Int) - 1 := by have := hn.le; rw [IntKind.wrap_i64]; omega
  unfold vSea onB
  clear hn
  go_enter Try.func63, Try.ntmps63
  go_wp2_with (go_at_call 59; refine (l1In_any _ _ _ _).mono ?_; rintro e w' ⟨rfl, h9⟩; have h8 := h9.symm; subst h8; clear h9)
  go_ret
  exact ⟨rfl, unhide HB⟩

theorem mod_bd {a wd : Int} (ha : 0 ≤ a) (hw : 1 ≤ wd) : 0 ≤ a % wd ∧ a % wd < wd ∧ 0 ≤ a / wd ∧ a / wd ≤ a := by
  have h1 := Int.emod_nonneg a (show wd ≠ 0 by omega)
  have h2 := Int.emod_lt_of_pos a (show 0 < wd by omega)
  have h3 := Int.ediv_nonneg ha (show 0 ≤ wd by omega)
  have h4 := Int.ediv_le_self wd ha
  exact ⟨h1, h2, h3, h4⟩
theorem sq_bd {x : Int} {b : Nat} (h0 : -(b : Int) ≤ x) (h1 : x ≤ b) : 0 ≤ x * x ∧ x * x ≤ (b : Int) * b := by
  constructor
  · rcases Int.le_total 0 x with h | h
    · exact Int.mul_nonneg h h
    · exact Int.mul_nonneg_of_nonpos_of_nonpos h h
  · rcases Int.le_total 0 x with h | h
    · exact Int.mul_le_mul h1 h1 h (by omega)
    · have := Int.mul_le_mul (show -x ≤ b by omega) (show -x ≤ b by omega) (by omega) (by omega)
      rwa [Int.neg_mul_neg] at this

set_option maxHeartbeats 1600000 in
theorem l7Next_any (s : Se) (a b : Int) (dv fv : Value) (w : World) (hn : SeaN s) (ha0 : 0 ≤ a) (ha1 : a < s.D.length) (hb0 : 0 ≤ b) (hb1 : b < s.D.length) :
    Calls Try.prog 64 #[vSea s.wd s.hg dv fv, .int .i64 a, .int .i64 b] w fun e w' => e = .returned (.bool (nextB s.wd a b)) ∧ Below w.heap.size w w' := by
  have HB := hide (Below.alloc1 w (.cells #[.int .i64 s.wd, .int .i64 s.hg, dv, fv] 27))
  have hle := hn.le
  have hw0 := hn.w0
  have hw1 := hn.w1
  obtain ⟨a1, a2, a3, a4⟩ := mod_bd ha0 hw0
  obtain ⟨b1, b2, b3, b4⟩ := mod_bd hb0 hw0
  have c1 := sq_bd (x := a % s.wd - b % s.wd) (b := 12) (by omega) (by omega)
  have c2 := sq_bd (x := a / s.wd - b / s.wd) (b := 144) (by omega) (by omega)
  unfold vSea nextB
  generalize s.wd = wd at *
  have t1 : Int.tmod a wd = a % wd := Int.tmod_eq_emod_of_nonneg ha0
  have t2 : Int.tmod b wd = b % wd := Int.tmod_eq_emod_of_nonneg hb0
  have t3 : Int.tdiv a wd = a / wd := Int.tdiv_eq_ediv_of_nonneg ha0
  have t4 : Int.tdiv b wd = b / wd := Int.tdiv_eq_ediv_of_nonneg hb0
  have hwz : (wd == 0) = false := by simp; omega
  have hwn : wd ≠ 0 := by omega
  generalize a % wd = am at *
  generalize b % wd = bm at *
  generalize a / wd = ad at *
  generalize b / wd = bd at *
  have u1 : IntKind.i64.wrap am = am := by rw [IntKind.wrap_i64]; omega
  have u2 : IntKind.i64.wrap bm = bm := by rw [IntKind.wrap_i64]; omega
  have u3 : IntKind.i64.wrap ad = ad := by rw [IntKind.wrap_i64]; omega
  have u4 : IntKind.i64.wrap bd = bd := by rw [IntKind.wrap_i64]; omega
  obtain ⟨dx, ex⟩ : ∃ d, am - bm = d := ⟨_, rfl⟩
  obtain ⟨dy, ey⟩ : ∃ d, ad - bd = d := ⟨_, rfl⟩
  have v1 : IntKind.i64.wrap (am - bm) = dx := by rw [IntKind.wrap_i64]; omega
  have v2 : IntKind.i64.wrap (ad - bd) = dy := by rw [IntKind.wrap_i64]; omega
  rw [ex] at c1 ⊢
  rw [ey] at c2 ⊢
  clear ex ey
  obtain ⟨dx2, ex2⟩ : ∃ d, dx * dx = d := ⟨_, rfl⟩
  obtain ⟨dy2, ey2⟩ : ∃ d, dy * dy = d := ⟨_, rfl⟩
  rw [ex2] at c1 ⊢
  rw [ey2] at c2 ⊢
  have w1 : IntKind.i64.wrap (dx * dx) = dx2 := by rw [ex2, IntKind.wrap_i64]; omega
  have w2 : IntKind.i64.wrap (dy * dy) = dy2 := by rw [ey2, IntKind.wrap_i64]; omega
  have w3 : IntKind.i64.wrap (dx2 + dy2) = dx2 + dy2 := by rw [IntKind.wrap_i64]; omega
  clear ex2 ey2 c1 c2
  clear hn hle
  go_enter Try.func64, Try.ntmps64
  go_wp2
  go_quiet (fail)
  go_wp2
  go_ret
  exact ⟨ret_bool (by rw [Bool.eq_iff_iff]; simp), below_drewN (unhide HB) nq⟩

theorem any_t {α : Type} {p : α → Bool} {xs : List α} {d : α} {i : Nat} (hi : i < xs.length) (h : p (xs.getD i d) = true) : xs.any p = true := by
  rw [List.any_eq_true]
  exact ⟨xs.getD i d, by rw [getD_lt hi]; exact List.getElem_mem _, h⟩
theorem any_f {α : Type} {p : α → Bool} {xs : List α} {d : α} (h : ∀ i, i < xs.length → p (xs.getD i d) = false) : xs.any p = false := by
  rw [List.any_eq_false]
  intro x hx
  obtain ⟨i, hi, rfl⟩ := List.mem_iff_getElem.1 hx
  have := h i hi
  rw [getD_lt hi] at this
  simp [this]

set_option maxRecDepth 10000 in
set_option maxHeartbeats 8000000 in
theorem l7Shut_any (s : Se) (p step : Int) (dv : Value) (fao : Option Addr) (fn fc : Nat) (w : World) (hn : SeaN s) (hF : RClosed w (.slice fao fn fc) s.F) (hp0 : 0 ≤ p) (hp1 : p < s.D.length) :
    Calls Try.prog 65 #[vSea s.wd s.hg dv (.slice fao fn fc), .int .i64 p, .int .i64 step] w fun e w' => e = .returned (.bool (shutB s p step)) ∧ Below w.heap.size w w' := by
  have A := Below.alloc1 w (.cells #[.int .i64 s.wd, .int .i64 s.hg, dv, .slice fao fn fc] 27)
  have O := ownV_alloc w #[.int .i64 s.wd, .int .i64 s.hg, dv, .slice fao fn fc] 27
  have hle := hn.le
  have hw0 := hn.w0
  have hw1 := hn.w1
  have hfl := hn.shut
  obtain ⟨a1, a2, a3, a4⟩ := mod_bd hp0 hw0
  obtain ⟨fao', fc', eF, hfc1, hfm, hfc⟩ := hF
  simp only [Value.slice.injEq] at eF
  obtain ⟨rfl, rfl, rfl⟩ := eF
  have HFC := hide hfc
  have HW := hide A
  have HO := hide O
  clear A O hfc hn
  unfold vSea shutB
  obtain ⟨wd, hg, D, F⟩ := s
  dsimp only at *
  have t1 : Int.tmod p wd = p % wd := Int.tmod_eq_emod_of_nonneg hp0
  have t3 : Int.tdiv p wd = p / wd := Int.tdiv_eq_ediv_of_nonneg hp0
  have hwz : (wd == 0) = false := by simp; omega
  have hwn : wd ≠ 0 := by omega
  generalize p % wd = x at *
  generalize p / wd = y at *
  have u1 : IntKind.i64.wrap x = x := by rw [IntKind.wrap_i64]; omega
  have u3 : IntKind.i64.wrap y = y := by rw [IntKind.wrap_i64]; omega
  have hflI : (F.length : Int) ≤ 10 := by omega
  go_enter Try.func65, Try.ntmps65
  go_wp2
  obtain ⟨W0, eW⟩ : ∃ z, z = w.alloc (.cells #[.int .i64 wd, .int .i64 hg, dv, .slice fao F.length fc] 27) := ⟨_, rfl⟩
  rw [← eW] at HW HO ⊢
  clear eW
  go_loopg [7] F.length (fun g i wr => Below W0.heap.size W0 wr ∧ ∃ k : Nat, k ≤ F.length ∧ g = F.length - k ∧ i = .int .i64 k ∧ Hid (∀ r, r < k → shut1 x y step (F.getD r default) = false))
  case atStart => exact ⟨Below.refl _ _, 0, Nat.zero_le _, rfl, rfl, fun r hr => by omega⟩
  case round =>
    obtain ⟨hWq, k, hk, rfl, rfl, HFF⟩ := hrel
    have hO := OwnV.step (unhide HO) hWq
    have hA := Below.step (unhide HW) hWq
    have b0 := hO.cell (i := 0) rfl
    have b3 := hO.cell (i := 3) rfl
    clear hO
    by_cases hkn : k < F.length
    · obtain ⟨b, o, x0, x1, x2, x3, x4, x5, rfl, hc0, hc1, hc2, hc3, hc4, hc5, EX⟩ := recClosedAt (unhide HFC) hkn
      have g0 := wcell3 hc0 hA
      have g1 := wcell3 hc1 hA
      have g2 := wcell3 hc2 hA
      have g3 := wcell3 hc3 hA
      have g4 := wcell3 hc4 hA
      have g5 := wcell3 hc5 hA
      have AL := Below.alloc1 wr (.cells #[.int .i64 x0, .int .i64 x1, .int .i64 x2, .int .i64 x3, .int .i64 x4, .int .i64 x5] 86)
      have HWA := hide (Below.step hWq AL)
      have HOB := hide (OwnV.step (OwnV.step (unhide HO) hWq) AL)
      have HOC := hide (ownV_alloc wr #[.int .i64 x0, .int .i64 x1, .int .i64 x2, .int .i64 x3, .int .i64 x4, .int .i64 x5] 86)
      have hkF : (k : Int) < F.length := by omega
      have HYES : Hid (shut1 x y step (x0, x1, x2, x3, x4, x5) = true → F.any (shut1 x y step) = true) := fun h => any_t (d := default) hkn (by rw [unhide EX]; exact h)
      have HNO : Hid (shut1 x y step (x0, x1, x2, x3, x4, x5) = false → ∀ r, r < k + 1 → shut1 x y step (F.getD r default) = false) := fun h r hr => by
        by_cases e : r = k
        · rw [e, unhide EX]; exact h
        · exact (unhide HFF) r (by omega)
      clear hc0 hc1 hc2 hc3 hc4 hc5 hWq hA EX HFF AL
      unfold shut1 at HYES HNO
      dsimp only at HYES HNO
      go_wp2_with fail
      obtain ⟨V, eV⟩ : ∃ z, z = wr.alloc (.cells #[.int .i64 x0, .int .i64 x1, .int .i64 x2, .int .i64 x3, .int .i64 x4, .int .i64 x5] 86) := ⟨_, rfl⟩
      rw [← eV] at HWA HOB HOC ⊢
      clear eV g0 g1 g2 g3 g4 g5 b0 b3
      have b0 := (unhide HOB).cell (i := 0) rfl
      have d0 := (unhide HOC).cell (i := 0) rfl
      have d1 := (unhide HOC).cell (i := 1) rfl
      have d2 := (unhide HOC).cell (i := 2) rfl
      have d3 := (unhide HOC).cell (i := 3) rfl
      have d4 := (unhide HOC).cell (i := 4) rfl
      have d5 := (unhide HOC).cell (i := 5) rfl
      generalize wr.heap.size = gb at *
      clear HOB HOC
      have Q1 := hide fun V => l1In_any x x0 x2 V
      have Q2 := hide fun V => l1In_any y x1 x3 V
      have Q3 := hide fun V => l1In_any step x4 x5 V
      cases h1 : inB x x0 x2
      · rw [h1] at Q1
        have HFF := hide (unhide HNO (by rw [h1]; rfl))
        clear HYES HNO
        refine wp_region_quiet_lit (by kernel_rfl) (by kernel_rfl) ?_
        repeat (go_big_quiet_step (fail))
        go_big_quiet_want
        go_big_quiet_op
        go_big_quiet_call (exact Calls.quiet_of_same (unhide Q1 _))
        repeat (go_big_quiet_step (fail))
        refine wpQuiet_nil ?_
        intro _ hw'
        obtain ⟨nq, hw''⟩ := hw'
        subst hw''
        go_wp2
        go_roundg (F.length - (k + 1))
        case measure => omega
        case rel => exact ⟨below_drewN (unhide HWA) _, k + 1, by omega, rfl, by go_num, HFF⟩
      rw [h1] at Q1
      cases h2 : inB y x1 x3
      · rw [h2] at Q2
        have HFF := hide (unhide HNO (by rw [h1, h2]; rfl))
        clear HYES HNO
        refine wp_region_quiet_lit (by kernel_rfl) (by kernel_rfl) ?_
        repeat (go_big_quiet_step (fail))
        go_big_quiet_want
        go_big_quiet_op
        go_big_quiet_call (exact Calls.quiet_of_same (unhide Q1 _))
        repeat (go_big_quiet_step (fail))
        go_big_quiet_want
        go_big_quiet_op
        go_big_quiet_call (exact Calls.quiet_of_same (unhide Q2 _))
        repeat (go_big_quiet_step (fail))
        refine wpQuiet_nil ?_
        intro _ hw'
        obtain ⟨nq, hw''⟩ := hw'
        subst hw''
        go_wp2
        go_roundg (F.length - (k + 1))
        case measure => omega
        case rel => exact ⟨below_drewN (unhide HWA) _, k + 1, by omega, rfl, by go_num, HFF⟩
      rw [h2] at Q2
      cases h3 : inB step x4 x5
      · rw [h3] at Q3
        have HFF := hide (unhide HNO (by rw [h1, h2, h3]; rfl))
        clear HYES HNO
        refine wp_region_quiet_lit (by kernel_rfl) (by kernel_rfl) ?_
        repeat (go_big_quiet_step (fail))
        go_big_quiet_want
        go_big_quiet_op
        go_big_quiet_call (exact Calls.quiet_of_same (unhide Q1 _))
        repeat (go_big_quiet_step (fail))
        go_big_quiet_want
        go_big_quiet_op
        go_big_quiet_call (exact Calls.quiet_of_same (unhide Q2 _))
        repeat (go_big_quiet_step (fail))
        go_big_quiet_want
        go_big_quiet_op
        go_big_quiet_call (exact Calls.quiet_of_same (unhide Q3 _))
        repeat (go_big_quiet_step (fail))
        refine wpQuiet_nil ?_
        intro _ hw'
        obtain ⟨nq, hw''⟩ := hw'
        subst hw''
        go_wp2
        go_roundg (F.length - (k + 1))
        case measure => omega
        case rel => exact ⟨below_drewN (unhide HWA) _, k + 1, by omega, rfl, by go_num, HFF⟩
      · rw [h3] at Q3
        have HT := hide (unhide HYES (by rw [h1, h2, h3]; rfl))
        clear HYES HNO
        refine wp_region_quiet_lit (by kernel_rfl) (by kernel_rfl) ?_
        repeat (go_big_quiet_step (fail))
        go_big_quiet_want
        go_big_quiet_op
        go_big_quiet_call (exact Calls.quiet_of_same (unhide Q1 _))
        repeat (go_big_quiet_step (fail))
        go_big_quiet_want
        go_big_quiet_op
        go_big_quiet_call (exact Calls.quiet_of_same (unhide Q2 _))
        repeat (go_big_quiet_step (fail))
        go_big_quiet_want
        go_big_quiet_op
        go_big_quiet_call (exact Calls.quiet_of_same (unhide Q3 _))
        repeat (go_big_quiet_step (fail))
        refine wpQuiet_nil ?_
        intro _ hw'
        obtain ⟨nq, hw''⟩ := hw'
        subst hw''
        go_wp2
        go_ret
        exact ⟨ret_bool (unhide HT).symm, Below.step (unhide HW) (below_drewN (unhide HWA) _)⟩
    · have HAF := hide (any_f (xs := F) (d := default) (p := shut1 x y step) (fun r hr => unhide HFF r (by omega)))
      have hkF : ¬ (k : Int) < F.length := by omega
      have HA := hide hA
      clear HFF hA hWq
      go_wp2
      go_ret
      exact ⟨ret_bool (unhide HAF).symm, unhide HA⟩

end Go.Proofs.Ytahgblhmdhjahaa

/- The specification's helpers of chapter 13. Written by wip/mkcgl.py. -/
import Derived.Test.YtfokocpdngokfaaCgT
import Derived.Deep.DeepCutAuto
namespace Go.Proofs.Ytfokocpdngokfaa
open Go.RowKit

theorem l3SizeC_any (n : Int) (w : World) (h0 : -9223372036854775807 ≤ n) : Calls Try.prog 73 #[.int .i64 n] w fun e w' => e = .returned (.int .i64 (n.natAbs : Int)) ∧ w' = w := by
  by_cases h : n < 0
  · have q : IntKind.i64.wrap (-n) = (n.natAbs : Int) := by rw [IntKind.wrap_i64]; omega
    have q' : -n = (n.natAbs : Int) := by omega
    generalize (n.natAbs : Int) = m at *
    go_enter Try.func73, Try.ntmps73
    go_wp2
    go_ret
    exact ⟨rfl, rfl⟩
  · have q : (n.natAbs : Int) = n := by omega
    rw [q]
    go_enter Try.func73, Try.ntmps73
    go_wp2
    go_ret
    exact ⟨rfl, rfl⟩

set_option maxRecDepth 10000 in
set_option maxHeartbeats 4000000 in
theorem l13In_any (x0 x1 x2 x3 x4 m : Int) (w : World) (h0 : -100000 ≤ x0) (h1 : x0 ≤ 200000) (hm1 : 1 ≤ m) (hm2 : m ≤ 100000) :
    Calls Try.prog 54 #[vCargoTank x0 x1 x2 x3 x4, .int .i64 m] w fun e w' => e = .returned (vCargoTank (x0 + m) x1 x2 x3 x4) ∧ Below w.heap.size w w' := by
  unfold vCargoTank
  go_enter Try.func54, Try.ntmps54
  go_wp2
  refine bodyPost_ret (v := vCargoTank (x0 + m) x1 x2 x3 x4) (by simp [results, Try.results54, go_sem, vCargoTank]) rfl ⟨rfl, ((Below.refl _ _).alloc (Nat.le_refl _) _).alloc (by simp) _⟩

/-- What the specification's l13Out leaves: what is dry has its gas and air as they were. -/
def outS (x : CargoTankT) (m : Int) : CargoTankT := if m ≤ x.1 then outT x m else (x.1 - m, x.2)
set_option maxRecDepth 10000 in
set_option maxHeartbeats 4000000 in
theorem l13Out_any (x0 x1 x2 x3 x4 m : Int) (w : World) (hx : tkGood (x0, x1, x2, x3, x4)) (hm1 : 1 ≤ m) (hm2 : m ≤ 100000) (y0 y1 y2 y3 y4 : Int) (hy : outS (x0, x1, x2, x3, x4) m = (y0, y1, y2, y3, y4)) :
    Calls Try.prog 55 #[vCargoTank x0 x1 x2 x3 x4, .int .i64 m] w fun e w' => e = .returned (vCargoTank y0 y1 y2 y3 y4) ∧ Below w.heap.size w w' := by
  unfold tkGood at hx
  dsimp only at hx
  obtain ⟨hx0, hx1, hx2, -, -, hx3, hx4, hx5, hx6, -⟩ := hx
  unfold outS at hy
  dsimp only at hy
  by_cases h : m ≤ x0
  · rw [if_pos h] at hy
    simp only [outT, thT, Prod.mk.injEq] at hy
    obtain ⟨rfl, rfl, rfl, e3, e4⟩ := hy
    obtain ⟨r, er⟩ : ∃ r, r = x1 - (x0 - m) := ⟨_, rfl⟩
    rw [← er] at e3 e4
    have hr1 : 1 ≤ r := by omega
    have hr2 : r ≤ 200000 := by omega
    have hrm : 0 ≤ r - m := by omega
    have a0 : 0 ≤ x3 * (r - m) := Int.mul_nonneg hx3 hrm
    have a1 : x3 * (r - m) ≤ 1000 * 200000 := Int.mul_le_mul hx4 (by omega) hrm (by omega)
    have b0 : 0 ≤ x4 * (r - m) := Int.mul_nonneg hx5 hrm
    have b1 : x4 * (r - m) ≤ 1000 * 200000 := Int.mul_le_mul hx6 (by omega) hrm (by omega)
    obtain ⟨u, eu⟩ : ∃ u, u = x3 * (r - m) := ⟨_, rfl⟩
    obtain ⟨v, ev⟩ : ∃ v, v = x4 * (r - m) := ⟨_, rfl⟩
    rw [← eu] at a0 a1 e3
    rw [← ev] at b0 b1 e4
    have q1 : IntKind.i64.wrap (x3 * (r - m)) = u := by rw [← eu, IntKind.wrap_i64]; omega
    have q2 : IntKind.i64.wrap (x4 * (r - m)) = v := by rw [← ev, IntKind.wrap_i64]; omega
    have r0 : 0 ≤ y3 := by rw [← e3]; exact Int.ediv_nonneg a0 (by omega)
    have s0 : 0 ≤ y4 := by rw [← e4]; exact Int.ediv_nonneg b0 (by omega)
    have r1 : y3 ≤ u := by rw [← e3]; exact Int.ediv_le_self _ a0
    have s1 : y4 ≤ v := by rw [← e4]; exact Int.ediv_le_self _ b0
    have q3 : u.tdiv r = y3 := by rw [Int.tdiv_eq_ediv_of_nonneg a0, e3]
    have q4 : v.tdiv r = y4 := by rw [Int.tdiv_eq_ediv_of_nonneg b0, e4]
    have q5 : u / r = y3 := e3
    have q6 : v / r = y4 := e4
    have q7 : r ≠ 0 := by omega
    have q8 : IntKind.i64.wrap y3 = y3 := by rw [IntKind.wrap_i64]; omega
    have q9 : IntKind.i64.wrap y4 = y4 := by rw [IntKind.wrap_i64]; omega
    have q10 : x1 - (x0 - m) = r := er.symm
    have d0 : 0 ≤ x0 - m := by omega
    clear eu ev e3 e4 er
    unfold vCargoTank
    go_enter Try.func55, Try.ntmps55
    go_wp2
    refine bodyPost_ret (v := vCargoTank (x0 - m) x1 x2 y3 y4) (by simp [results, Try.results55, go_sem, vCargoTank]) rfl ⟨rfl, ((Below.refl _ _).alloc (Nat.le_refl _) _).alloc (by simp) _⟩
  · rw [if_neg h] at hy
    simp only [Prod.mk.injEq] at hy
    obtain ⟨rfl, rfl, rfl, rfl, rfl⟩ := hy
    have d0 : ¬ 0 ≤ x0 - m := by omega
    unfold vCargoTank
    go_enter Try.func55, Try.ntmps55
    go_wp2
    refine bodyPost_ret (v := vCargoTank (x0 - m) x1 x2 x3 x4) (by simp [results, Try.results55, go_sem, vCargoTank]) rfl ⟨rfl, ((Below.refl _ _).alloc (Nat.le_refl _) _).alloc (by simp) _⟩

set_option maxRecDepth 10000 in
set_option maxHeartbeats 4000000 in
theorem l13Burns_any (x0 x1 x2 x3 x4 : Int) (w : World) :
    Calls Try.prog 56 #[vCargoTank x0 x1 x2 x3 x4] w fun e w' => e = .returned (.bool (burB (x0, x1, x2, x3, x4))) ∧ Below w.heap.size w w' := by
  have HW := hide (Below.alloc1 w (.cells #[.int .i64 x0, .int .i64 x1, .int .i64 x2, .int .i64 x3, .int .i64 x4] 33))
  have Q1 := hide fun V => l1In_any x3 20 600 V
  have HR : Hid (burB (x0, x1, x2, x3, x4) = (decide (110 < x4) && inB x3 20 600)) := rfl
  generalize burB (x0, x1, x2, x3, x4) = r at *
  generalize inB x3 20 600 = b1 at *
  unfold vCargoTank
  by_cases h : 110 < x4
  · have hd : decide (110 < x4) = true := decide_eq_true h
    rw [hd, Bool.true_and] at HR
    go_enter Try.func56, Try.ntmps56
    go_wp2_with fail
    refine (unhide Q1 _).mono ?_
    rintro e w9 ⟨rfl, h9⟩
    have h8 := h9.symm
    subst h8
    clear h9
    go_wp2
    go_ret
    exact ⟨ret_bool (unhide HR).symm, unhide HW⟩
  · have hd : decide (110 < x4) = false := decide_eq_false h
    rw [hd, Bool.false_and] at HR
    go_enter Try.func56, Try.ntmps56
    go_wp2
    go_ret
    exact ⟨ret_bool (unhide HR).symm, unhide HW⟩

theorem ret_intL {a b : Int} (h : a = b) : Ending.returned (.int .i64 a) = .returned (.int .i64 b) := by rw [h]
set_option maxRecDepth 10000 in
set_option maxHeartbeats 4000000 in
theorem l13Lean_any (v : Value) (L : List CargoTankT) (w : World) (h : RCargoTank w v L) (h12 : L.length ≤ 12) (hM : Mids L) :
    Calls Try.prog 57 #[v] w fun e w' => e = .returned (.int .i64 (lnV L)) ∧ Below w.heap.size w w' := by
  obtain ⟨ao, cap, rfl, hl, hm, hc⟩ := h
  unfold maxLen at hm
  have HC := hide hc
  clear hc
  go_enter Try.func57, Try.ntmps57
  go_wp2
  go_loopg [3, 4] L.length (fun g s i wr => Hid (Below w.heap.size w wr) ∧ ∃ k : Nat, k ≤ L.length ∧ g = L.length - k ∧ i = .int .i64 k ∧ s = .int .i64 (lnS (L.take k)))
  case atStart => exact ⟨Below.refl _ _, 0, Nat.zero_le _, rfl, rfl, rfl⟩
  case round =>
    obtain ⟨HW, k, hk, rfl, rfl, rfl⟩ := hrel
    have hbd := lnS_bd hM (i := k) (by omega)
    by_cases hkn : k < L.length
    · obtain ⟨b, o, x0, x1, x2, x3, x4, rfl, hc0, hc1, hc2, hc3, hc4, EX⟩ := recCargoTankAt (unhide HC) hkn
      have g0 := wcell3 hc0 (unhide HW)
      have g2 := wcell3 hc2 (unhide HW)
      have hki : (k : Int) < L.length := by omega
      have hmd := hM k hkn
      have es := lnS_take_succ L (i := k) hkn
      unfold tkA at hmd es
      rw [unhide EX] at hmd es
      unfold tkMid at hmd
      dsimp only at hmd es
      have hpb := mul_bd5 (x := x0) (y := x2) (by omega) (by omega) (by omega) (by omega)
      obtain ⟨pr, ep⟩ : ∃ p, p = x0 * x2 := ⟨_, rfl⟩
      rw [← ep] at es hpb
      have q1 : IntKind.i64.wrap (x0 * x2) = pr := by rw [← ep, IntKind.wrap_i64]; omega
      have ES := hide es
      obtain ⟨hpb0, hpb1⟩ := hpb
      obtain ⟨hbd0, hbd1⟩ := hbd
      generalize lnS (L.take k) = s at *
      have q2 : IntKind.i64.wrap (s + pr) = s + pr := by rw [IntKind.wrap_i64]; omega
      clear hmd ep es hc0 hc1 hc2 hc3 hc4 EX HC
      go_wp2
      go_quiet (fail)
      go_wp2
      go_roundg (L.length - (k + 1))
      case measure => omega
      case rel => exact ⟨below_drewN (unhide HW) _, k + 1, by omega, rfl, by go_num, by rw [unhide ES]⟩
    · have ek : L.take k = L := List.take_of_length_le (by omega)
      rw [ek] at hbd ⊢
      obtain ⟨hbd0, hbd1⟩ := hbd
      have HL : Hid (lnV L = ((lnS L).natAbs : Int)) := rfl
      generalize lnS L = s at *
      have Q := hide fun V => l3SizeC_any s V (by omega)
      have hki : ¬ (k : Int) < L.length := by omega
      clear ek HC
      go_wp2_with fail
      refine (unhide Q _).mono ?_
      rintro e w9 ⟨rfl, h9⟩
      have h8 := h9.symm
      subst h8
      clear h9
      go_wp2
      go_ret
      exact ⟨ret_intL (unhide HL).symm, unhide HW⟩

set_option maxRecDepth 10000 in
set_option maxHeartbeats 4000000 in
theorem l13Op_any (ao : Option Addr) (n cap : Nat) (k a b m : Int) (w : World) (hn : n ≤ 1048576) :
    Calls Try.prog 53 #[.slice ao n cap, vCargoOp k a b m] w fun e w' => e = .returned (.bool (cgOp n k a b m)) ∧ Below w.heap.size w w' := by
  have HW := hide (Below.alloc1 w (.cells #[.int .i64 k, .int .i64 a, .int .i64 b, .int .i64 m] 31))
  have ho := ownV_alloc w #[.int .i64 k, .int .i64 a, .int .i64 b, .int .i64 m] 31
  obtain ⟨V, eV⟩ : ∃ z, z = w.alloc (.cells #[.int .i64 k, .int .i64 a, .int .i64 b, .int .i64 m] 31) := ⟨_, rfl⟩
  rw [← eV] at HW ho
  have c0 := ho.cell (i := 0) rfl
  have c1 := ho.cell (i := 1) rfl
  have c2 := ho.cell (i := 2) rfl
  have c3 := ho.cell (i := 3) rfl
  clear ho
  have HR : Hid (cgOp n k a b m = (inB k 1 5 && inB a 0 ((n : Int) - 1) && (if 4 ≤ k then inB m 1 100 else inB m 1 100000 && (k != 3 || (inB b 0 ((n : Int) - 1) && b != a))))) := rfl
  have Q1 := hide fun V => l1In_any k 1 5 V
  have Q2 := hide fun V => l1In_any a 0 ((n : Int) - 1) V
  have Q3 := hide fun V => l1In_any m 1 100 V
  have Q4 := hide fun V => l1In_any m 1 100000 V
  have Q5 := hide fun V => l1In_any b 0 ((n : Int) - 1) V
  generalize cgOp n k a b m = r at *
  generalize inB k 1 5 = b1 at *
  generalize inB a 0 ((n : Int) - 1) = b2 at *
  generalize inB m 1 100 = b3 at *
  generalize inB m 1 100000 = b4 at *
  generalize inB b 0 ((n : Int) - 1) = b5 at *
  have qn : IntKind.i64.wrap ((n : Int) - 1) = (n : Int) - 1 := by rw [IntKind.wrap_i64]; omega
  unfold vCargoOp
  go_enter Try.func53, Try.ntmps53
  go_upto_region 1 with (fail)
  rw [← eV]
  clear eV
  go_wp2_with fail
  refine (unhide Q1 _).mono ?_
  rintro e w9 ⟨rfl, h9⟩
  have h8 := h9.symm
  subst h8
  clear h9
  cases b1 with
  | false =>
    have e1 : r = false := by rw [unhide HR]; first | rfl | simp
    subst e1
    go_wp2
    go_ret
    exact ⟨rfl, unhide HW⟩
  | true =>
  go_wp2_with fail
  refine (unhide Q2 _).mono ?_
  rintro e w9 ⟨rfl, h9⟩
  have h8 := h9.symm
  subst h8
  clear h9
  cases b2 with
  | false =>
    have e1 : r = false := by rw [unhide HR]; first | rfl | simp
    subst e1
    go_wp2
    go_ret
    exact ⟨rfl, unhide HW⟩
  | true =>
  by_cases h4 : 4 ≤ k
  · rw [if_pos h4] at HR
    go_wp2_with fail
    refine (unhide Q3 _).mono ?_
    rintro e w9 ⟨rfl, h9⟩
    have h8 := h9.symm
    subst h8
    clear h9
    cases b3 with
    | false =>
      have e1 : r = false := by rw [unhide HR]; first | rfl | simp
      subst e1
      go_wp2
      go_ret
      exact ⟨rfl, unhide HW⟩
    | true =>
      have e1 : r = true := by rw [unhide HR]; first | rfl | simp
      subst e1
      go_wp2
      go_ret
      exact ⟨rfl, unhide HW⟩
  · rw [if_neg h4] at HR
    go_wp2_with fail
    refine (unhide Q4 _).mono ?_
    rintro e w9 ⟨rfl, h9⟩
    have h8 := h9.symm
    subst h8
    clear h9
    cases b4 with
    | false =>
      have e1 : r = false := by rw [unhide HR]; first | rfl | simp
      subst e1
      go_wp2
      go_ret
      exact ⟨rfl, unhide HW⟩
    | true =>
      by_cases h3 : k = 3
      · subst h3
        go_wp2_with fail
        refine (unhide Q5 _).mono ?_
        rintro e w9 ⟨rfl, h9⟩
        have h8 := h9.symm
        subst h8
        clear h9
        cases b5 with
        | false =>
          have e1 : r = false := by rw [unhide HR]; first | rfl | simp
          subst e1
          go_wp2
          go_ret
          exact ⟨rfl, unhide HW⟩
        | true =>
          cases hne : b != a with
          | true =>
            rw [hne] at HR
            have e1 : r = true := by rw [unhide HR]; first | rfl | simp
            subst e1
            go_wp2
            go_ret
            exact ⟨rfl, unhide HW⟩
          | false =>
            rw [hne] at HR
            have e1 : r = false := by rw [unhide HR]; first | rfl | simp
            subst e1
            go_wp2
            go_ret
            exact ⟨rfl, unhide HW⟩
      · have d3 : (k != 3) = true := bne_iff_ne.2 h3
        rw [d3] at HR
        have e1 : r = true := by rw [unhide HR]; first | rfl | simp
        subst e1
        go_wp2
        go_ret
        exact ⟨rfl, unhide HW⟩

end Go.Proofs.Ytfokocpdngokfaa

/- The program's questions on twelve tanks. Written by wip/mkcgf.py. -/
import Derived.Test.YtfokocpdngokfaaCgB
namespace Go.Proofs.Ytfokocpdngokfaa
open Go.RowKit

theorem ret_intE {a b : Int} (h : a = b) : Ending.returned (.int .i64 a) = .returned (.int .i64 b) := by rw [h]

set_option maxRecDepth 10000 in
set_option maxHeartbeats 4000000 in
theorem isBurnable_any (x0 x1 x2 x3 x4 : Int) (w : World) :
    Calls Try.prog 75 #[vCargoTank x0 x1 x2 x3 x4] w fun e w' => e = .returned (.bool (burB (x0, x1, x2, x3, x4))) ∧ Below w.heap.size w w' := by
  have HW := hide (Below.alloc1 w (.cells #[.int .i64 x0, .int .i64 x1, .int .i64 x2, .int .i64 x3, .int .i64 x4] 33))
  have Q1 := hide fun V => within_any x3 20 600 V
  have HR : Hid (burB (x0, x1, x2, x3, x4) = (decide (110 < x4) && inB x3 20 600)) := rfl
  generalize burB (x0, x1, x2, x3, x4) = r at *
  generalize inB x3 20 600 = b1 at *
  unfold vCargoTank
  by_cases h : 110 < x4
  · have hd : decide (110 < x4) = true := decide_eq_true h
    rw [hd, Bool.true_and] at HR
    go_enter Try.func75, Try.ntmps75
    go_wp2_with fail
    refine (unhide Q1 _).mono ?_
    rintro e w9 ⟨rfl, h9⟩
    have h8 := h9.symm
    subst h8
    clear h9
    go_wp2
    go_ret
    exact ⟨ret_bool (unhide HR).symm, unhide HW⟩
  · have hd : decide (110 < x4) = false := decide_eq_false h
    rw [hd, Bool.false_and] at HR
    go_enter Try.func75, Try.ntmps75
    go_wp2
    go_ret
    exact ⟨ret_bool (unhide HR).symm, unhide HW⟩

set_option maxRecDepth 10000 in
set_option maxHeartbeats 4000000 in
theorem isDry_any (M : List CargoTankT) (w : World) (hM : M.length = 12) :
    Calls Try.prog 69 #[.agg (arC M)] w fun e w' => e = .returned (.bool (dryB M)) ∧ Below w.heap.size w w' := by
  have a1 := arrT_box w hM
  have hb1 := Below.alloc1 w (.cells (arC M) 76)
  obtain ⟨V, eV⟩ : ∃ z, z = w.alloc (.cells (arC M) 76) := ⟨_, rfl⟩
  obtain ⟨g0, e0⟩ : ∃ z, z = w.heap.size := ⟨_, rfl⟩
  rw [← eV] at hb1
  rw [← eV, ← e0] at a1
  have HB1 := hide hb1
  have HA1 := hide a1
  clear hb1 a1
  go_enter Try.func69, Try.ntmps69
  go_upto_region 1 with (fail)
  rw [← eV, ← e0]
  clear eV e0
  go_step
  refine wpList_loadW rfl _ _ rfl ⟨g0, 0, none⟩ rfl _ (unhide HA1).load ?_
  generalize hC : arC M = C at *
  have EC := hide hC
  clear hC HA1
  go_wp2
  go_loopg [6] 12 (fun g i wr => Hid (Below w.heap.size w wr) ∧ ∃ k : Nat, k ≤ 12 ∧ g = 12 - k ∧ i = .int .i64 k ∧ Hid (∀ r, r < k → decide ((tkA M r).1 < 0) = false))
  case atStart => exact ⟨unhide HB1, 0, Nat.zero_le _, rfl, rfl, fun r hr => by omega⟩
  case round =>
    clear HB1
    obtain ⟨HW, k, hk, rfl, rfl, HD⟩ := hrel
    by_cases hkn : k < 12
    · obtain ⟨x0, x1, x2, x3, x4, ex⟩ : ∃ x0 x1 x2 x3 x4, tkA M k = (x0, x1, x2, x3, x4) := ⟨_, _, _, _, _, rfl⟩
      have hidx := fun V => run_tank V hM hkn ex
      rw [unhide EC] at hidx
      have hki : (k : Int) < 12 := by omega
      have HW1 := hide (Below.step (unhide HW) (Below.alloc1 wr (.cells #[.int .i64 x0, .int .i64 x1, .int .i64 x2, .int .i64 x3, .int .i64 x4] 33)))
      have HT : Hid (decide (x0 < 0) = true → dryB M = true) := fun h => any_at (i := k) (by rw [hM]; exact hkn) (by rw [ex]; exact h)
      have HF : Hid (decide (x0 < 0) = false → ∀ r, r < k + 1 → decide ((tkA M r).1 < 0) = false) := fun h r hr => by
        by_cases e : r = k
        · rw [e, ex]; exact h
        · exact unhide HD r (by omega)
      clear ex HD EC
      by_cases hd : x0 < 0
      · have H1 := hide (unhide HT (decide_eq_true hd))
        clear HT HF
        go_wp2
        go_ret
        exact ⟨ret_bool (unhide H1).symm, unhide HW1⟩
      · have H1 := hide (unhide HF (decide_eq_false hd))
        clear HT HF
        go_wp2
        go_roundg (12 - (k + 1))
        case measure => omega
        case rel => exact ⟨unhide HW1, k + 1, by omega, rfl, by go_num, unhide H1⟩
    · have HF : Hid (dryB M = false) := any_no (fun i hi => unhide HD i (by omega))
      have hki : ¬ (k : Int) < 12 := by omega
      clear HD EC
      go_wp2
      go_ret
      exact ⟨ret_bool (unhide HF).symm, unhide HW⟩

set_option maxRecDepth 10000 in
set_option maxHeartbeats 4000000 in
theorem isOver_any (M : List CargoTankT) (w : World) (hM : M.length = 12) :
    Calls Try.prog 70 #[.agg (arC M)] w fun e w' => e = .returned (.bool (ovrB M)) ∧ Below w.heap.size w w' := by
  have a1 := arrT_box w hM
  have hb1 := Below.alloc1 w (.cells (arC M) 76)
  obtain ⟨V, eV⟩ : ∃ z, z = w.alloc (.cells (arC M) 76) := ⟨_, rfl⟩
  obtain ⟨g0, e0⟩ : ∃ z, z = w.heap.size := ⟨_, rfl⟩
  rw [← eV] at hb1
  rw [← eV, ← e0] at a1
  have HB1 := hide hb1
  have HA1 := hide a1
  clear hb1 a1
  go_enter Try.func70, Try.ntmps70
  go_upto_region 1 with (fail)
  rw [← eV, ← e0]
  clear eV e0
  go_step
  refine wpList_loadW rfl _ _ rfl ⟨g0, 0, none⟩ rfl _ (unhide HA1).load ?_
  generalize hC : arC M = C at *
  have EC := hide hC
  clear hC HA1
  go_wp2
  go_loopg [6] 12 (fun g i wr => Hid (Below w.heap.size w wr) ∧ ∃ k : Nat, k ≤ 12 ∧ g = 12 - k ∧ i = .int .i64 k ∧ Hid (∀ r, r < k → decide ((tkA M r).2.1 < (tkA M r).1) = false))
  case atStart => exact ⟨unhide HB1, 0, Nat.zero_le _, rfl, rfl, fun r hr => by omega⟩
  case round =>
    clear HB1
    obtain ⟨HW, k, hk, rfl, rfl, HD⟩ := hrel
    by_cases hkn : k < 12
    · obtain ⟨x0, x1, x2, x3, x4, ex⟩ : ∃ x0 x1 x2 x3 x4, tkA M k = (x0, x1, x2, x3, x4) := ⟨_, _, _, _, _, rfl⟩
      have hidx := fun V => run_tank V hM hkn ex
      rw [unhide EC] at hidx
      have hki : (k : Int) < 12 := by omega
      have HW1 := hide (Below.step (unhide HW) (Below.alloc1 wr (.cells #[.int .i64 x0, .int .i64 x1, .int .i64 x2, .int .i64 x3, .int .i64 x4] 33)))
      have HT : Hid (decide (x1 < x0) = true → ovrB M = true) := fun h => any_at (i := k) (by rw [hM]; exact hkn) (by rw [ex]; exact h)
      have HF : Hid (decide (x1 < x0) = false → ∀ r, r < k + 1 → decide ((tkA M r).2.1 < (tkA M r).1) = false) := fun h r hr => by
        by_cases e : r = k
        · rw [e, ex]; exact h
        · exact unhide HD r (by omega)
      clear ex HD EC
      by_cases hd : x1 < x0
      · have H1 := hide (unhide HT (decide_eq_true hd))
        clear HT HF
        go_wp2
        go_ret
        exact ⟨ret_bool (unhide H1).symm, unhide HW1⟩
      · have H1 := hide (unhide HF (decide_eq_false hd))
        clear HT HF
        go_wp2
        go_roundg (12 - (k + 1))
        case measure => omega
        case rel => exact ⟨unhide HW1, k + 1, by omega, rfl, by go_num, unhide H1⟩
    · have HF : Hid (ovrB M = false) := any_no (fun i hi => unhide HD i (by omega))
      have hki : ¬ (k : Int) < 12 := by omega
      clear HD EC
      go_wp2
      go_ret
      exact ⟨ret_bool (unhide HF).symm, unhide HW⟩

set_option maxRecDepth 10000 in
set_option maxHeartbeats 4000000 in
theorem leaning_any (M : List CargoTankT) (w : World) (hM : M.length = 12) (hMd : Mids M) :
    Calls Try.prog 72 #[.agg (arC M)] w fun e w' => e = .returned (.int .i64 (lnV M)) ∧ Below w.heap.size w w' := by
  have a1 := arrT_box w hM
  have hb1 := Below.alloc1 w (.cells (arC M) 76)
  obtain ⟨V, eV⟩ : ∃ z, z = w.alloc (.cells (arC M) 76) := ⟨_, rfl⟩
  obtain ⟨g0, e0⟩ : ∃ z, z = w.heap.size := ⟨_, rfl⟩
  rw [← eV] at hb1
  rw [← eV, ← e0] at a1
  have HB1 := hide hb1
  have HA1 := hide a1
  clear hb1 a1
  go_enter Try.func72, Try.ntmps72
  go_upto_region 2 with (fail)
  rw [← eV, ← e0]
  clear eV e0
  go_step
  refine wpList_loadW rfl _ _ rfl ⟨g0, 0, none⟩ rfl _ (unhide HA1).load ?_
  generalize hC : arC M = C at *
  have EC := hide hC
  clear hC HA1
  go_wp2
  go_loopg [3, 7] 12 (fun g s i wr => Hid (Below w.heap.size w wr) ∧ ∃ k : Nat, k ≤ 12 ∧ g = 12 - k ∧ i = .int .i64 k ∧ s = .int .i64 (lnS (M.take k)))
  case atStart => exact ⟨unhide HB1, 0, Nat.zero_le _, rfl, rfl, rfl⟩
  case round =>
    clear HB1
    obtain ⟨HW, k, hk, rfl, rfl, rfl⟩ := hrel
    have hbd := lnS_bd hMd (i := k) (by omega)
    by_cases hkn : k < 12
    · obtain ⟨x0, x1, x2, x3, x4, ex⟩ : ∃ x0 x1 x2 x3 x4, tkA M k = (x0, x1, x2, x3, x4) := ⟨_, _, _, _, _, rfl⟩
      have hidx := fun V => run_tank V hM hkn ex
      rw [unhide EC] at hidx
      have hki : (k : Int) < 12 := by omega
      have HW1 := hide (Below.step (unhide HW) (Below.alloc1 wr (.cells #[.int .i64 x0, .int .i64 x1, .int .i64 x2, .int .i64 x3, .int .i64 x4] 33)))
      have hm := hMd k (by omega)
      rw [ex] at hm
      unfold tkMid at hm
      dsimp only at hm
      have hpb := mul_bd5 (x := x0) (y := x2) (by omega) (by omega) (by omega) (by omega)
      have es := lnS_take_succ M (i := k) (by omega)
      rw [ex] at es
      dsimp only at es
      obtain ⟨p, ep⟩ : ∃ p, p = x0 * x2 := ⟨_, rfl⟩
      rw [← ep] at es hpb
      have q1 : IntKind.i64.wrap (x0 * x2) = p := by rw [← ep, IntKind.wrap_i64]; omega
      have ES := hide es
      obtain ⟨hpb0, hpb1⟩ := hpb
      obtain ⟨hbd0, hbd1⟩ := hbd
      generalize lnS (M.take k) = s at *
      have q2 : IntKind.i64.wrap (s + p) = s + p := by rw [IntKind.wrap_i64]; omega
      clear ex EC hm ep es
      go_wp2
      go_roundg (12 - (k + 1))
      case measure => omega
      case rel => exact ⟨unhide HW1, k + 1, by omega, rfl, by go_num, by rw [unhide ES]⟩
    · have hki : ¬ (k : Int) < 12 := by omega
      have ek : M.take k = M := List.take_of_length_le (by omega)
      rw [ek] at hbd ⊢
      obtain ⟨hbd0, hbd1⟩ := hbd
      have HL : Hid (lnV M = ((lnS M).natAbs : Int)) := rfl
      generalize lnS M = s at *
      clear ek EC
      by_cases hs : 0 ≤ s
      · have HF : Hid (lnV M = s) := by show _ = _; rw [unhide HL]; omega
        go_wp2
        all_goals
          first
          | (exfalso; omega)
          | (go_ret
             exact ⟨ret_intE (unhide HF).symm, unhide HW⟩)
      · have HF : Hid (lnV M = -s) := by show _ = _; rw [unhide HL]; omega
        go_wp2
        all_goals
          first
          | (exfalso; omega)
          | (go_ret
             exact ⟨ret_intE (unhide HF).symm, unhide HW⟩)

theorem boxes2 (w : World) {M : List CargoTankT} (hM : M.length = 12) (p0 p1 p2 p3 : Value) : ∃ V g0 g1, V = (w.alloc (.cells (arC M) 76)).alloc (.cells #[p0, p1, p2, p3] 31) ∧ g0 = w.heap.size ∧ g1 = w.heap.size + 1 ∧ g1 ≠ g0 ∧ g0 ≠ g1 ∧ Below w.heap.size w V ∧ ArrT V g0 M ∧ OwnV V g1 [p0, p1, p2, p3] := by
  have a1 := arrT_box w hM
  have b1 := Below.alloc1 w (.cells (arC M) 76)
  have b2 := Below.alloc1 (w.alloc (.cells (arC M) 76)) (.cells #[p0, p1, p2, p3] 31)
  have o1 := ownV_alloc (w.alloc (.cells (arC M) 76)) #[p0, p1, p2, p3] 31
  refine ⟨_, _, _, rfl, rfl, rfl, by omega, by omega, Below.step b1 b2, a1.step b2, ?_⟩
  simp only [World.size_alloc] at o1
  exact o1

set_option maxRecDepth 10000 in
set_option maxHeartbeats 4000000 in
theorem mayBurn_any (M : List CargoTankT) (A B : Nat) (k b m : Int) (w : World) (hM : M.length = 12) (hA : A < 12) (hB : k = 3 → b = (B : Int) ∧ B < 12) :
    Calls Try.prog 71 #[.agg (arC M), vCargoOp k (A : Int) b m] w fun e w' => e = .returned (.bool (burB (tkA M A) || (decide (k = 3) && burB (tkA M B)))) ∧ Below w.heap.size w w' := by
  obtain ⟨x0, x1, x2, x3, x4, ex⟩ : ∃ x0 x1 x2 x3 x4, tkA M A = (x0, x1, x2, x3, x4) := ⟨_, _, _, _, _, rfl⟩
  obtain ⟨y0, y1, y2, y3, y4, ey⟩ : ∃ y0 y1 y2 y3 y4, tkA M B = (y0, y1, y2, y3, y4) := ⟨_, _, _, _, _, rfl⟩
  rw [ex, ey]
  have EX := hide ex
  have EY := hide ey
  clear ex ey
  have Q1 := hide fun V => isBurnable_any x0 x1 x2 x3 x4 V
  have Q2 := hide fun V => isBurnable_any y0 y1 y2 y3 y4 V
  generalize burB (x0, x1, x2, x3, x4) = b1 at *
  generalize burB (y0, y1, y2, y3, y4) = b2 at *
  obtain ⟨V, g0, g1, eV, e0, e1, h10, h01, hW, hT, hO⟩ := boxes2 w hM (.int .i64 k) (.int .i64 (A : Int)) (.int .i64 b) (.int .i64 m)
  have HW := hide hW
  have HT := hide hT
  have HO := hide hO
  have hAi : (A : Int) < 12 := by omega
  unfold vCargoOp
  unfold vCargoTank at Q1 Q2
  go_enter Try.func71, Try.ntmps71
  go_upto_region 1 with (fail)
  rw [← eV, ← e1, ← e0]
  clear eV e1 e0 hW hT hO
  have c0 := (unhide HO).cell (i := 0) rfl
  have c1 := (unhide HO).cell (i := 1) rfl
  obtain ⟨t0, t1, t2, t3, t4⟩ := (unhide HT).cells hA (unhide EX)
  go_wp2_with fail
  refine (unhide Q1 _).mono ?_
  rintro e w1 ⟨rfl, hb⟩
  replace HW := hide (Below.step (unhide HW) hb)
  replace HT := hide ((unhide HT).step hb)
  replace HO := hide ((unhide HO).step hb)
  clear hb Q1 c0 c1 t0 t1 t2 t3 t4
  cases b1 with
  | true =>
    go_wp2
    go_ret
    exact ⟨rfl, unhide HW⟩
  | false =>
  have c0 := (unhide HO).cell (i := 0) rfl
  have c2 := (unhide HO).cell (i := 2) rfl
  by_cases hk : k = 3
  · obtain ⟨rfl, hB'⟩ := hB hk
    have hBi : (B : Int) < 12 := by omega
    subst hk
    obtain ⟨t0, t1, t2, t3, t4⟩ := (unhide HT).cells hB' (unhide EY)
    go_wp2_with fail
    refine (unhide Q2 _).mono ?_
    rintro e w2 ⟨rfl, hb⟩
    replace HW := hide (Below.step (unhide HW) hb)
    clear hb
    cases b2 with
    | true =>
      go_wp2
      go_ret
      exact ⟨rfl, unhide HW⟩
    | false =>
      go_wp2
      go_ret
      exact ⟨rfl, unhide HW⟩
  · have d3 : decide (k = 3) = false := decide_eq_false hk
    have d4 : (k == 3) = false := by simpa using hk
    have HR : Hid ((false || decide (k = 3) && b2) = false) := by show _ = _; rw [d3]; rfl
    go_wp2
    go_ret
    exact ⟨ret_bool (unhide HR).symm, unhide HW⟩

end Go.Proofs.Ytfokocpdngokfaa

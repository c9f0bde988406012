/- Neighbours in numbers; contracts of the program's isOnSea, isSailed, neighbours. -/
import Derived.Test.YtdpcacfgbjllhaaSeD
import Derived.Test.YtdpcacfgbjllhaaImSeaOk
import Derived.Test.YtdpcacfgbjllhaaAppK
import Derived.Test.YtdpcacfgbjllhaaOwC
import Derived.Deep.DeepCutAuto
namespace Go.Proofs.Ytdpcacfgbjllhaa
open Go.RowKit

def sailB (s : Se) (p : Int) : Bool := onB s p && !decide (costAt s p = 0)
def nbs (wd n p : Int) : List Int := (if wd ≤ p then [p - wd] else []) ++ ((if 0 < p % wd then [p - 1] else []) ++ ((if p % wd < wd - 1 then [p + 1] else []) ++ (if p + wd < n then [p + wd] else [])))
theorem sq1 {x y : Int} : x * x + y * y = 1 ↔ (x = 0 ∧ (y = 1 ∨ y = -1)) ∨ (y = 0 ∧ (x = 1 ∨ x = -1)) := by
  constructor
  · intro h
    have hx : -1 ≤ x ∧ x ≤ 1 := by
      constructor
      · apply Classical.byContradiction; intro hc
        have := Int.mul_le_mul (show (2 : Int) ≤ -x by omega) (show (2 : Int) ≤ -x by omega) (by omega) (by omega)
        rw [Int.neg_mul_neg] at this
        have h2 := (sq_bd (x := y) (b := y.natAbs) (by omega) (by omega)).1
        omega
      · apply Classical.byContradiction; intro hc
        have := Int.mul_le_mul (show (2 : Int) ≤ x by omega) (show (2 : Int) ≤ x by omega) (by omega) (by omega)
        have h2 := (sq_bd (x := y) (b := y.natAbs) (by omega) (by omega)).1
        omega
    have hy : -1 ≤ y ∧ y ≤ 1 := by
      constructor
      · apply Classical.byContradiction; intro hc
        have := Int.mul_le_mul (show (2 : Int) ≤ -y by omega) (show (2 : Int) ≤ -y by omega) (by omega) (by omega)
        rw [Int.neg_mul_neg] at this
        have h2 := (sq_bd (x := x) (b := x.natAbs) (by omega) (by omega)).1
        omega
      · apply Classical.byContradiction; intro hc
        have := Int.mul_le_mul (show (2 : Int) ≤ y by omega) (show (2 : Int) ≤ y by omega) (by omega) (by omega)
        have h2 := (sq_bd (x := x) (b := x.natAbs) (by omega) (by omega)).1
        omega
    have ex : x = -1 ∨ x = 0 ∨ x = 1 := by omega
    have ey : y = -1 ∨ y = 0 ∨ y = 1 := by omega
    rcases ex with rfl | rfl | rfl <;> rcases ey with rfl | rfl | rfl <;> omega
  · rintro (⟨rfl, rfl | rfl⟩ | ⟨rfl, rfl | rfl⟩) <;> rfl
theorem nbs_mem {s : Se} (hn : SeaN s) {a b : Int} (ha0 : 0 ≤ a) (ha1 : a < s.D.length) : b ∈ nbs s.wd s.D.length a ↔ (0 ≤ b ∧ b < s.D.length ∧ nextB s.wd a b = true) := by
  have hl := hn.len
  have h0 := hn.w0
  have h1 := hn.w1
  unfold nextB nbs
  rw [decide_eq_true_eq, sq1]
  generalize (s.D.length : Int) = n at *
  generalize s.wd = wd at *
  generalize s.hg = hg at *
  clear hn
  have e : wd = 1 ∨ wd = 2 ∨ wd = 3 ∨ wd = 4 ∨ wd = 5 ∨ wd = 6 ∨ wd = 7 ∨ wd = 8 ∨ wd = 9 ∨ wd = 10 ∨ wd = 11 ∨ wd = 12 := by omega
  have key : b ∈ ((if wd ≤ a then [a - wd] else []) ++ ((if 0 < a % wd then [a - 1] else []) ++ ((if a % wd < wd - 1 then [a + 1] else []) ++ (if a + wd < n then [a + wd] else [])))) ↔ ((wd ≤ a ∧ b = a - wd) ∨ (0 < a % wd ∧ b = a - 1) ∨ (a % wd < wd - 1 ∧ b = a + 1) ∨ (a + wd < n ∧ b = a + wd)) := by
    simp only [List.mem_append]
    have m : ∀ (c : Prop) [Decidable c] (x : Int), b ∈ (if c then [x] else []) ↔ (c ∧ b = x) := fun c _ x => by split <;> simp [*]
    rw [m, m, m, m]
  rw [key]
  rcases e with rfl | rfl | rfl | rfl | rfl | rfl | rfl | rfl | rfl | rfl | rfl | rfl <;> omega
theorem nbs_contains {s : Se} (hn : SeaN s) {a b : Int} (ha0 : 0 ≤ a) (ha1 : a < s.D.length) (hb0 : 0 ≤ b) (hb1 : b < s.D.length) : (nbs s.wd s.D.length a).contains b = nextB s.wd a b := by
  rw [Bool.eq_iff_iff, List.contains_iff_mem, nbs_mem hn ha0 ha1]
  exact ⟨fun h => h.2.2, fun h => ⟨hb0, hb1, h⟩⟩

set_option maxHeartbeats 800000 in
theorem isOnSea_any (s : Se) (p : Int) (dao : Option Addr) (dc : Nat) (fv : Value) (w : World) (hn : SeaN s) :
    Calls Try.prog 29 #[vSea s.wd s.hg (.slice dao s.D.length dc) fv, .int .i64 p] w fun e w' => e = .returned (.bool (onB s p)) ∧ Below w.heap.size w w' := by
  have HB := hide (Below.alloc1 w (.cells #[.int .i64 s.wd, .int .i64 s.hg, .slice dao s.D.length dc, fv] 27))
  have q2 : IntKind.i64.wrap ((s.D.length : Int) - 1) = (s.D.length : Int) - 1 := by have := hn.le; rw [IntKind.wrap_i64]; omega
  unfold vSea onB
  clear hn
  go_enter Try.func29, Try.ntmps29
  go_wp2_with (go_at_call 36; refine (within_any _ _ _ _).mono ?_; rintro e w' ⟨rfl, h9⟩; have h8 := h9.symm; subst h8; clear h9)
  go_ret
  exact ⟨rfl, unhide HB⟩

set_option maxHeartbeats 1600000 in
theorem isSailed_any (s : Se) (p : Int) (dao : Option Addr) (dn dc : Nat) (fv : Value) (w : World) (hn : SeaN s) (hD : IntsIn w (.slice dao dn dc) s.D) :
    Calls Try.prog 31 #[vSea s.wd s.hg (.slice dao dn dc) fv, .int .i64 p] w fun e w' => e = .returned (.bool (sailB s p)) ∧ Below w.heap.size w w' := by
  have A := Below.alloc1 w (.cells #[.int .i64 s.wd, .int .i64 s.hg, .slice dao dn dc, fv] 27)
  have O := ownV_alloc w #[.int .i64 s.wd, .int .i64 s.hg, .slice dao dn dc, fv] 27
  obtain ⟨dao', dc', eD, hdl, hdm, hdc⟩ := hD
  simp only [Value.slice.injEq] at eD
  obtain ⟨rfl, rfl, rfl⟩ := eD
  have HOS := hide fun V => isOnSea_any s p dao dc fv V hn
  have HDC := hide hdc
  have HW := hide A
  have HO := hide O
  clear A O hdc hn
  unfold vSea at HOS ⊢
  cases h1 : onB s p with
  | false =>
    have HN : Hid (sailB s p = false) := by show _ = _; unfold sailB; rw [h1]; rfl
    rw [h1] at HOS
    go_enter Try.func31, Try.ntmps31
    go_wp2_with fail
    refine (unhide HOS _).mono ?_
    rintro e w1 ⟨rfl, hb⟩
    replace HW := hide (Below.step (unhide HW) hb)
    clear hb HOS
    go_wp2
    go_ret
    exact ⟨ret_bool (unhide HN).symm, unhide HW⟩
  | true =>
    rw [h1] at HOS
    obtain ⟨pi, rfl, hpi⟩ : ∃ q : Nat, p = (q : Int) ∧ q < s.D.length := by
      unfold onB at h1
      obtain ⟨a, b⟩ := inB_true h1
      exact ⟨p.toNat, by omega, by omega⟩
    obtain ⟨bd, od, rfl, hcd⟩ := unhide HDC pi hpi
    have e1 := ((unhide HW).cell (lt_of_cell hcd)).trans hcd
    have HN : Hid (sailB s (pi : Int) = !decide (s.D.getD pi 0 = 0)) := by show _ = _; unfold sailB costAt; rw [h1]; rfl
    have hpiI : (pi : Int) < s.D.length := by omega
    generalize s.D.getD pi 0 = c at *
    clear hcd h1
    go_enter Try.func31, Try.ntmps31
    go_wp2_with fail
    refine (unhide HOS _).mono ?_
    rintro e w1 ⟨rfl, hb⟩
    have z2 := OwnV.cell (OwnV.step (unhide HO) hb) (i := 2) rfl
    have z1 := (hb.cell (lt_of_cell e1)).trans e1
    replace HW := hide (Below.step (unhide HW) hb)
    clear hb HOS e1
    go_wp2
    go_ret
    exact ⟨ret_bool (by rw [unhide HN, Bool.eq_iff_iff]; simp), unhide HW⟩

theorem Try.infoInt7 : (Try.prog.info? 3).map (fun i => (i.zero, i.size, i.bytes)) = some (some (.int .i64 0), 1, 8) := by kernel_rfl
theorem own_told1 {A : World} {B : Nat} {ov : Value} {M N : List Int} {k : Nat} (h : A.ownsRow B 3 1 ov k (ints M)) (e : M = N) : ∃ a n cp, ov = .slice a n cp ∧ OwnSl B A (.slice a n cp) N := by
  subst e
  have hk : k = M.length := by have := h.1; simp [ints] at this; omega
  subst hk
  have ho := (ownsRow_ownSl h).1
  obtain ⟨a, cp, ev, h1, h2, h3⟩ := ho
  subst ev
  exact ⟨a, _, cp, rfl, a, cp, rfl, h1, h2, h3⟩

set_option maxRecDepth 10000 in
set_option maxHeartbeats 16000000 in
theorem neighbours_any (s : Se) (p : Int) (dao : Option Addr) (dn dc : Nat) (fv : Value) (w : World) (hn : SeaN s) (hD : IntsIn w (.slice dao dn dc) s.D) (hp0 : 0 ≤ p) (hp1 : p < s.D.length) :
    Calls Try.prog 35 #[vSea s.wd s.hg (.slice dao dn dc) fv, .int .i64 p] w fun e w' => ∃ a n cp, e = .returned (.slice a n cp) ∧ OwnSl w.heap.size w' (.slice a n cp) (nbs s.wd s.D.length p) ∧ Below w.heap.size w w' := by
  obtain ⟨dao', dc', eD, hdl, hdm, hdc⟩ := hD
  simp only [Value.slice.injEq] at eD
  obtain ⟨rfl, rfl, rfl⟩ := eD
  clear hdc
  have A := Below.alloc1 w (.cells #[.int .i64 s.wd, .int .i64 s.hg, .slice dao s.D.length dc, fv] 27)
  have O := ownV_alloc w #[.int .i64 s.wd, .int .i64 s.hg, .slice dao s.D.length dc, fv] 27
  have hle := hn.le
  have hw0 := hn.w0
  have hw1 := hn.w1
  obtain ⟨a1, a2, a3, a4⟩ := mod_bd hp0 hw0
  unfold vSea nbs
  generalize s.D.length = n at *
  generalize s.wd = wd at *
  have t1 : Int.tmod p wd = p % wd := Int.tmod_eq_emod_of_nonneg hp0
  have hwz : (wd == 0) = false := by simp; omega
  have hwn : wd ≠ 0 := by omega
  generalize p % wd = x at *
  obtain ⟨N, eN⟩ : ∃ N, N = (if wd ≤ p then [p - wd] else []) ++ ((if 0 < x then [p - 1] else []) ++ ((if x < wd - 1 then [p + 1] else []) ++ (if p + wd < n then [p + wd] else []))) := ⟨_, rfl⟩
  rw [← eN]
  have EN := hide eN
  clear eN
  have u1 : IntKind.i64.wrap x = x := by rw [IntKind.wrap_i64]; omega
  have q1 : IntKind.i64.wrap (p - wd) = p - wd := by rw [IntKind.wrap_i64]; omega
  have q2 : IntKind.i64.wrap (p - 1) = p - 1 := by rw [IntKind.wrap_i64]; omega
  have q3 : IntKind.i64.wrap (p + 1) = p + 1 := by rw [IntKind.wrap_i64]; omega
  have q4 : IntKind.i64.wrap (p + wd) = p + wd := by rw [IntKind.wrap_i64]; omega
  have q5 : IntKind.i64.wrap (wd - 1) = wd - 1 := by rw [IntKind.wrap_i64]; omega
  have HW := hide A
  have HC0 := hide (O.cell (i := 0) rfl)
  have HC2 := hide (O.cell (i := 2) rfl)
  obtain ⟨i0, hi, hz0, hz1, hz2⟩ := info_parts Try.infoInt7
  clear A hn O hdl hdm
  go_enter Try.func35, Try.ntmps35
  go_upto_region 3 with (at_make; refine wpList_make_own _ rfl _ _ 24 rfl (w.heap.size + 1) 3 i0 (.int .i64 0) 1 Try.underlying24 hi hz0 hz1 .i64 .i64 _ 4 rfl rfl (by rfl) (by rw [hz2]; omega) (by unfold maxLen; omega) (by simp) ?_; intro w1 hown hgrow)
  have HX := hide ((Below.refl (w.heap.size + 1) (w.alloc (.cells #[.int .i64 wd, .int .i64 s.hg, .slice dao n dc, fv] 27))).grown hgrow (by simp) (fun g hg => by cases hg))
  replace HW := hide ((unhide HW).trans ((unhide HX).mono (by omega)))
  simp only [World.size_alloc] at hown
  have HR := hide hown
  clear hown hgrow
  have d0 := ((unhide HX).cell (p := ⟨w.heap.size, 0, none⟩) (by show w.heap.size < w.heap.size + 1; omega)).trans (unhide HC0)
  have d2 := ((unhide HX).cell (p := ⟨w.heap.size, 2, none⟩) (by show w.heap.size < w.heap.size + 1; omega)).trans (unhide HC2)
  by_cases c0 : wd ≤ p
  · skip
    have HR2 := hide (ownsRow_below (unhide HR) (Below.alloc1 w1 (.cells #[.int .i64 (p - wd)] 3)))
    have hsz := (unhide HX).size
    simp only [World.size_alloc] at hsz
    go_upto_region 5 with (at_builtin; refine wpList_append_lies _ rfl _ _ 24 rfl (w.heap.size + 1) 3 i0 _ 1 8 Try.underlying24 hi hz0 hz1 hz2 rfl (by decide) _ 0 _ rfl (unhide HR2) ⟨w1.heap.size, 0, none⟩ 1 1 [.int .i64 (p - wd)] rfl rfl (cell_one_new _ _ _) (by simp [Value.oneCell']) (by omega) (by unfold maxLen; omega) (by omega) (by simp; omega) _ rfl ?_; intro g4 cap4 w2 hown hgrow hat hlt4; have HWa := hide ((((Below.refl (w.heap.size + 1) w1)).alloc (by omega) (.cells #[.int .i64 (p - wd)] 3)).grown hgrow (by simp; omega) (fun g hg => ((unhide HR).lt g hg).1)); have HOW := hide hown; clear hown hgrow hat)
    replace HX := hide ((unhide HX).trans (unhide HWa))
    replace HW := hide ((unhide HW).trans ((unhide HWa).mono (by omega)))
    replace HR := HOW
    clear HOW HWa HR2 hlt4 hsz d0 d2
    have d0 := ((unhide HX).cell (p := ⟨w.heap.size, 0, none⟩) (by show w.heap.size < w.heap.size + 1; omega)).trans (unhide HC0)
    have d2 := ((unhide HX).cell (p := ⟨w.heap.size, 2, none⟩) (by show w.heap.size < w.heap.size + 1; omega)).trans (unhide HC2)
    by_cases c1 : 0 < x
    · skip
      have HR2 := hide (ownsRow_below (unhide HR) (Below.alloc1 w2 (.cells #[.int .i64 (p - 1)] 3)))
      have hsz := (unhide HX).size
      simp only [World.size_alloc] at hsz
      go_upto_region 7 with (at_builtin; refine wpList_append_lies _ rfl _ _ 24 rfl (w.heap.size + 1) 3 i0 _ 1 8 Try.underlying24 hi hz0 hz1 hz2 rfl (by decide) _ 1 _ rfl (unhide HR2) ⟨w2.heap.size, 0, none⟩ 1 1 [.int .i64 (p - 1)] rfl rfl (cell_one_new _ _ _) (by simp [Value.oneCell']) (by omega) (by unfold maxLen; omega) (by omega) (by simp; omega) _ rfl ?_; intro g4 cap4 w3 hown hgrow hat hlt4; have HWa := hide ((((Below.refl (w.heap.size + 1) w2)).alloc (by omega) (.cells #[.int .i64 (p - 1)] 3)).grown hgrow (by simp; omega) (fun g hg => ((unhide HR).lt g hg).1)); have HOW := hide hown; clear hown hgrow hat)
      replace HX := hide ((unhide HX).trans (unhide HWa))
      replace HW := hide ((unhide HW).trans ((unhide HWa).mono (by omega)))
      replace HR := HOW
      clear HOW HWa HR2 hlt4 hsz d0 d2
      have d0 := ((unhide HX).cell (p := ⟨w.heap.size, 0, none⟩) (by show w.heap.size < w.heap.size + 1; omega)).trans (unhide HC0)
      have d2 := ((unhide HX).cell (p := ⟨w.heap.size, 2, none⟩) (by show w.heap.size < w.heap.size + 1; omega)).trans (unhide HC2)
      by_cases c2 : x < wd - 1
      · skip
        have HR2 := hide (ownsRow_below (unhide HR) (Below.alloc1 w3 (.cells #[.int .i64 (p + 1)] 3)))
        have hsz := (unhide HX).size
        simp only [World.size_alloc] at hsz
        go_upto_region 9 with (at_builtin; refine wpList_append_lies _ rfl _ _ 24 rfl (w.heap.size + 1) 3 i0 _ 1 8 Try.underlying24 hi hz0 hz1 hz2 rfl (by decide) _ 2 _ rfl (unhide HR2) ⟨w3.heap.size, 0, none⟩ 1 1 [.int .i64 (p + 1)] rfl rfl (cell_one_new _ _ _) (by simp [Value.oneCell']) (by omega) (by unfold maxLen; omega) (by omega) (by simp; omega) _ rfl ?_; intro g4 cap4 w4 hown hgrow hat hlt4; have HWa := hide ((((Below.refl (w.heap.size + 1) w3)).alloc (by omega) (.cells #[.int .i64 (p + 1)] 3)).grown hgrow (by simp; omega) (fun g hg => ((unhide HR).lt g hg).1)); have HOW := hide hown; clear hown hgrow hat)
        replace HX := hide ((unhide HX).trans (unhide HWa))
        replace HW := hide ((unhide HW).trans ((unhide HWa).mono (by omega)))
        replace HR := HOW
        clear HOW HWa HR2 hlt4 hsz d0 d2
        have d0 := ((unhide HX).cell (p := ⟨w.heap.size, 0, none⟩) (by show w.heap.size < w.heap.size + 1; omega)).trans (unhide HC0)
        have d2 := ((unhide HX).cell (p := ⟨w.heap.size, 2, none⟩) (by show w.heap.size < w.heap.size + 1; omega)).trans (unhide HC2)
        by_cases c3 : p + wd < n
        · skip
          have HR2 := hide (ownsRow_below (unhide HR) (Below.alloc1 w4 (.cells #[.int .i64 (p + wd)] 3)))
          have hsz := (unhide HX).size
          simp only [World.size_alloc] at hsz
          go_upto_region 11 with (at_builtin; refine wpList_append_lies _ rfl _ _ 24 rfl (w.heap.size + 1) 3 i0 _ 1 8 Try.underlying24 hi hz0 hz1 hz2 rfl (by decide) _ 3 _ rfl (unhide HR2) ⟨w4.heap.size, 0, none⟩ 1 1 [.int .i64 (p + wd)] rfl rfl (cell_one_new _ _ _) (by simp [Value.oneCell']) (by omega) (by unfold maxLen; omega) (by omega) (by simp; omega) _ rfl ?_; intro g4 cap4 w5 hown hgrow hat hlt4; have HWa := hide ((((Below.refl (w.heap.size + 1) w4)).alloc (by omega) (.cells #[.int .i64 (p + wd)] 3)).grown hgrow (by simp; omega) (fun g hg => ((unhide HR).lt g hg).1)); have HOW := hide hown; clear hown hgrow hat)
          replace HX := hide ((unhide HX).trans (unhide HWa))
          replace HW := hide ((unhide HW).trans ((unhide HWa).mono (by omega)))
          replace HR := HOW
          clear HOW HWa HR2 hlt4 hsz d0 d2
          obtain ⟨a, n', cp, ev, hO⟩ := own_told1 (M := ([p - wd, p - 1, p + 1, p + wd] : List Int)) (N := N) (unhide HR) (by rw [unhide EN, if_pos c0, if_pos c1, if_pos c2, if_pos c3]; rfl)
          simp only [Value.slice.injEq] at ev
          obtain ⟨rfl, rfl, rfl⟩ := ev
          have HO2 := hide hO
          clear hO HR
          go_wp2
          go_ret
          exact ⟨_, _, _, rfl, OwnSl.mono (unhide HO2) (by omega), unhide HW⟩
        · skip
          go_upto_region 11 with (fail)
          clear d0 d2
          obtain ⟨a, n', cp, ev, hO⟩ := own_told1 (M := ([p - wd, p - 1, p + 1] : List Int)) (N := N) (unhide HR) (by rw [unhide EN, if_pos c0, if_pos c1, if_pos c2, if_neg c3]; rfl)
          simp only [Value.slice.injEq] at ev
          obtain ⟨rfl, rfl, rfl⟩ := ev
          have HO2 := hide hO
          clear hO HR
          go_wp2
          go_ret
          exact ⟨_, _, _, rfl, OwnSl.mono (unhide HO2) (by omega), unhide HW⟩
      · skip
        go_upto_region 9 with (fail)
        clear d0 d2
        have d0 := ((unhide HX).cell (p := ⟨w.heap.size, 0, none⟩) (by show w.heap.size < w.heap.size + 1; omega)).trans (unhide HC0)
        have d2 := ((unhide HX).cell (p := ⟨w.heap.size, 2, none⟩) (by show w.heap.size < w.heap.size + 1; omega)).trans (unhide HC2)
        by_cases c3 : p + wd < n
        · skip
          have HR2 := hide (ownsRow_below (unhide HR) (Below.alloc1 w3 (.cells #[.int .i64 (p + wd)] 3)))
          have hsz := (unhide HX).size
          simp only [World.size_alloc] at hsz
          go_upto_region 11 with (at_builtin; refine wpList_append_lies _ rfl _ _ 24 rfl (w.heap.size + 1) 3 i0 _ 1 8 Try.underlying24 hi hz0 hz1 hz2 rfl (by decide) _ 2 _ rfl (unhide HR2) ⟨w3.heap.size, 0, none⟩ 1 1 [.int .i64 (p + wd)] rfl rfl (cell_one_new _ _ _) (by simp [Value.oneCell']) (by omega) (by unfold maxLen; omega) (by omega) (by simp; omega) _ rfl ?_; intro g4 cap4 w5 hown hgrow hat hlt4; have HWa := hide ((((Below.refl (w.heap.size + 1) w3)).alloc (by omega) (.cells #[.int .i64 (p + wd)] 3)).grown hgrow (by simp; omega) (fun g hg => ((unhide HR).lt g hg).1)); have HOW := hide hown; clear hown hgrow hat)
          replace HX := hide ((unhide HX).trans (unhide HWa))
          replace HW := hide ((unhide HW).trans ((unhide HWa).mono (by omega)))
          replace HR := HOW
          clear HOW HWa HR2 hlt4 hsz d0 d2
          obtain ⟨a, n', cp, ev, hO⟩ := own_told1 (M := ([p - wd, p - 1, p + wd] : List Int)) (N := N) (unhide HR) (by rw [unhide EN, if_pos c0, if_pos c1, if_neg c2, if_pos c3]; rfl)
          simp only [Value.slice.injEq] at ev
          obtain ⟨rfl, rfl, rfl⟩ := ev
          have HO2 := hide hO
          clear hO HR
          go_wp2
          go_ret
          exact ⟨_, _, _, rfl, OwnSl.mono (unhide HO2) (by omega), unhide HW⟩
        · skip
          go_upto_region 11 with (fail)
          clear d0 d2
          obtain ⟨a, n', cp, ev, hO⟩ := own_told1 (M := ([p - wd, p - 1] : List Int)) (N := N) (unhide HR) (by rw [unhide EN, if_pos c0, if_pos c1, if_neg c2, if_neg c3]; rfl)
          simp only [Value.slice.injEq] at ev
          obtain ⟨rfl, rfl, rfl⟩ := ev
          have HO2 := hide hO
          clear hO HR
          go_wp2
          go_ret
          exact ⟨_, _, _, rfl, OwnSl.mono (unhide HO2) (by omega), unhide HW⟩
    · skip
      go_upto_region 7 with (fail)
      clear d0 d2
      have d0 := ((unhide HX).cell (p := ⟨w.heap.size, 0, none⟩) (by show w.heap.size < w.heap.size + 1; omega)).trans (unhide HC0)
      have d2 := ((unhide HX).cell (p := ⟨w.heap.size, 2, none⟩) (by show w.heap.size < w.heap.size + 1; omega)).trans (unhide HC2)
      by_cases c2 : x < wd - 1
      · skip
        have HR2 := hide (ownsRow_below (unhide HR) (Below.alloc1 w2 (.cells #[.int .i64 (p + 1)] 3)))
        have hsz := (unhide HX).size
        simp only [World.size_alloc] at hsz
        go_upto_region 9 with (at_builtin; refine wpList_append_lies _ rfl _ _ 24 rfl (w.heap.size + 1) 3 i0 _ 1 8 Try.underlying24 hi hz0 hz1 hz2 rfl (by decide) _ 1 _ rfl (unhide HR2) ⟨w2.heap.size, 0, none⟩ 1 1 [.int .i64 (p + 1)] rfl rfl (cell_one_new _ _ _) (by simp [Value.oneCell']) (by omega) (by unfold maxLen; omega) (by omega) (by simp; omega) _ rfl ?_; intro g4 cap4 w4 hown hgrow hat hlt4; have HWa := hide ((((Below.refl (w.heap.size + 1) w2)).alloc (by omega) (.cells #[.int .i64 (p + 1)] 3)).grown hgrow (by simp; omega) (fun g hg => ((unhide HR).lt g hg).1)); have HOW := hide hown; clear hown hgrow hat)
        replace HX := hide ((unhide HX).trans (unhide HWa))
        replace HW := hide ((unhide HW).trans ((unhide HWa).mono (by omega)))
        replace HR := HOW
        clear HOW HWa HR2 hlt4 hsz d0 d2
        have d0 := ((unhide HX).cell (p := ⟨w.heap.size, 0, none⟩) (by show w.heap.size < w.heap.size + 1; omega)).trans (unhide HC0)
        have d2 := ((unhide HX).cell (p := ⟨w.heap.size, 2, none⟩) (by show w.heap.size < w.heap.size + 1; omega)).trans (unhide HC2)
        by_cases c3 : p + wd < n
        · skip
          have HR2 := hide (ownsRow_below (unhide HR) (Below.alloc1 w4 (.cells #[.int .i64 (p + wd)] 3)))
          have hsz := (unhide HX).size
          simp only [World.size_alloc] at hsz
          go_upto_region 11 with (at_builtin; refine wpList_append_lies _ rfl _ _ 24 rfl (w.heap.size + 1) 3 i0 _ 1 8 Try.underlying24 hi hz0 hz1 hz2 rfl (by decide) _ 2 _ rfl (unhide HR2) ⟨w4.heap.size, 0, none⟩ 1 1 [.int .i64 (p + wd)] rfl rfl (cell_one_new _ _ _) (by simp [Value.oneCell']) (by omega) (by unfold maxLen; omega) (by omega) (by simp; omega) _ rfl ?_; intro g4 cap4 w5 hown hgrow hat hlt4; have HWa := hide ((((Below.refl (w.heap.size + 1) w4)).alloc (by omega) (.cells #[.int .i64 (p + wd)] 3)).grown hgrow (by simp; omega) (fun g hg => ((unhide HR).lt g hg).1)); have HOW := hide hown; clear hown hgrow hat)
          replace HX := hide ((unhide HX).trans (unhide HWa))
          replace HW := hide ((unhide HW).trans ((unhide HWa).mono (by omega)))
          replace HR := HOW
          clear HOW HWa HR2 hlt4 hsz d0 d2
          obtain ⟨a, n', cp, ev, hO⟩ := own_told1 (M := ([p - wd, p + 1, p + wd] : List Int)) (N := N) (unhide HR) (by rw [unhide EN, if_pos c0, if_neg c1, if_pos c2, if_pos c3]; rfl)
          simp only [Value.slice.injEq] at ev
          obtain ⟨rfl, rfl, rfl⟩ := ev
          have HO2 := hide hO
          clear hO HR
          go_wp2
          go_ret
          exact ⟨_, _, _, rfl, OwnSl.mono (unhide HO2) (by omega), unhide HW⟩
        · skip
          go_upto_region 11 with (fail)
          clear d0 d2
          obtain ⟨a, n', cp, ev, hO⟩ := own_told1 (M := ([p - wd, p + 1] : List Int)) (N := N) (unhide HR) (by rw [unhide EN, if_pos c0, if_neg c1, if_pos c2, if_neg c3]; rfl)
          simp only [Value.slice.injEq] at ev
          obtain ⟨rfl, rfl, rfl⟩ := ev
          have HO2 := hide hO
          clear hO HR
          go_wp2
          go_ret
          exact ⟨_, _, _, rfl, OwnSl.mono (unhide HO2) (by omega), unhide HW⟩
      · skip
        go_upto_region 9 with (fail)
        clear d0 d2
        have d0 := ((unhide HX).cell (p := ⟨w.heap.size, 0, none⟩) (by show w.heap.size < w.heap.size + 1; omega)).trans (unhide HC0)
        have d2 := ((unhide HX).cell (p := ⟨w.heap.size, 2, none⟩) (by show w.heap.size < w.heap.size + 1; omega)).trans (unhide HC2)
        by_cases c3 : p + wd < n
        · skip
          have HR2 := hide (ownsRow_below (unhide HR) (Below.alloc1 w2 (.cells #[.int .i64 (p + wd)] 3)))
          have hsz := (unhide HX).size
          simp only [World.size_alloc] at hsz
          go_upto_region 11 with (at_builtin; refine wpList_append_lies _ rfl _ _ 24 rfl (w.heap.size + 1) 3 i0 _ 1 8 Try.underlying24 hi hz0 hz1 hz2 rfl (by decide) _ 1 _ rfl (unhide HR2) ⟨w2.heap.size, 0, none⟩ 1 1 [.int .i64 (p + wd)] rfl rfl (cell_one_new _ _ _) (by simp [Value.oneCell']) (by omega) (by unfold maxLen; omega) (by omega) (by simp; omega) _ rfl ?_; intro g4 cap4 w5 hown hgrow hat hlt4; have HWa := hide ((((Below.refl (w.heap.size + 1) w2)).alloc (by omega) (.cells #[.int .i64 (p + wd)] 3)).grown hgrow (by simp; omega) (fun g hg => ((unhide HR).lt g hg).1)); have HOW := hide hown; clear hown hgrow hat)
          replace HX := hide ((unhide HX).trans (unhide HWa))
          replace HW := hide ((unhide HW).trans ((unhide HWa).mono (by omega)))
          replace HR := HOW
          clear HOW HWa HR2 hlt4 hsz d0 d2
          obtain ⟨a, n', cp, ev, hO⟩ := own_told1 (M := ([p - wd, p + wd] : List Int)) (N := N) (unhide HR) (by rw [unhide EN, if_pos c0, if_neg c1, if_neg c2, if_pos c3]; rfl)
          simp only [Value.slice.injEq] at ev
          obtain ⟨rfl, rfl, rfl⟩ := ev
          have HO2 := hide hO
          clear hO HR
          go_wp2
          go_ret
          exact ⟨_, _, _, rfl, OwnSl.mono (unhide HO2) (by omega), unhide HW⟩
        · skip
          go_upto_region 11 with (fail)
          clear d0 d2
          obtain ⟨a, n', cp, ev, hO⟩ := own_told1 (M := ([p - wd] : List Int)) (N := N) (unhide HR) (by rw [unhide EN, if_pos c0, if_neg c1, if_neg c2, if_neg c3]; rfl)
          simp only [Value.slice.injEq] at ev
          obtain ⟨rfl, rfl, rfl⟩ := ev
          have HO2 := hide hO
          clear hO HR
          go_wp2
          go_ret
          exact ⟨_, _, _, rfl, OwnSl.mono (unhide HO2) (by omega), unhide HW⟩
  · skip
    go_upto_region 5 with (fail)
    clear d0 d2
    have d0 := ((unhide HX).cell (p := ⟨w.heap.size, 0, none⟩) (by show w.heap.size < w.heap.size + 1; omega)).trans (unhide HC0)
    have d2 := ((unhide HX).cell (p := ⟨w.heap.size, 2, none⟩) (by show w.heap.size < w.heap.size + 1; omega)).trans (unhide HC2)
    by_cases c1 : 0 < x
    · skip
      have HR2 := hide (ownsRow_below (unhide HR) (Below.alloc1 w1 (.cells #[.int .i64 (p - 1)] 3)))
      have hsz := (unhide HX).size
      simp only [World.size_alloc] at hsz
      go_upto_region 7 with (at_builtin; refine wpList_append_lies _ rfl _ _ 24 rfl (w.heap.size + 1) 3 i0 _ 1 8 Try.underlying24 hi hz0 hz1 hz2 rfl (by decide) _ 0 _ rfl (unhide HR2) ⟨w1.heap.size, 0, none⟩ 1 1 [.int .i64 (p - 1)] rfl rfl (cell_one_new _ _ _) (by simp [Value.oneCell']) (by omega) (by unfold maxLen; omega) (by omega) (by simp; omega) _ rfl ?_; intro g4 cap4 w3 hown hgrow hat hlt4; have HWa := hide ((((Below.refl (w.heap.size + 1) w1)).alloc (by omega) (.cells #[.int .i64 (p - 1)] 3)).grown hgrow (by simp; omega) (fun g hg => ((unhide HR).lt g hg).1)); have HOW := hide hown; clear hown hgrow hat)
      replace HX := hide ((unhide HX).trans (unhide HWa))
      replace HW := hide ((unhide HW).trans ((unhide HWa).mono (by omega)))
      replace HR := HOW
      clear HOW HWa HR2 hlt4 hsz d0 d2
      have d0 := ((unhide HX).cell (p := ⟨w.heap.size, 0, none⟩) (by show w.heap.size < w.heap.size + 1; omega)).trans (unhide HC0)
      have d2 := ((unhide HX).cell (p := ⟨w.heap.size, 2, none⟩) (by show w.heap.size < w.heap.size + 1; omega)).trans (unhide HC2)
      by_cases c2 : x < wd - 1
      · skip
        have HR2 := hide (ownsRow_below (unhide HR) (Below.alloc1 w3 (.cells #[.int .i64 (p + 1)] 3)))
        have hsz := (unhide HX).size
        simp only [World.size_alloc] at hsz
        go_upto_region 9 with (at_builtin; refine wpList_append_lies _ rfl _ _ 24 rfl (w.heap.size + 1) 3 i0 _ 1 8 Try.underlying24 hi hz0 hz1 hz2 rfl (by decide) _ 1 _ rfl (unhide HR2) ⟨w3.heap.size, 0, none⟩ 1 1 [.int .i64 (p + 1)] rfl rfl (cell_one_new _ _ _) (by simp [Value.oneCell']) (by omega) (by unfold maxLen; omega) (by omega) (by simp; omega) _ rfl ?_; intro g4 cap4 w4 hown hgrow hat hlt4; have HWa := hide ((((Below.refl (w.heap.size + 1) w3)).alloc (by omega) (.cells #[.int .i64 (p + 1)] 3)).grown hgrow (by simp; omega) (fun g hg => ((unhide HR).lt g hg).1)); have HOW := hide hown; clear hown hgrow hat)
        replace HX := hide ((unhide HX).trans (unhide HWa))
        replace HW := hide ((unhide HW).trans ((unhide HWa).mono (by omega)))
        replace HR := HOW
        clear HOW HWa HR2 hlt4 hsz d0 d2
        have d0 := ((unhide HX).cell (p := ⟨w.heap.size, 0, none⟩) (by show w.heap.size < w.heap.size + 1; omega)).trans (unhide HC0)
        have d2 := ((unhide HX).cell (p := ⟨w.heap.size, 2, none⟩) (by show w.heap.size < w.heap.size + 1; omega)).trans (unhide HC2)
        by_cases c3 : p + wd < n
        · skip
          have HR2 := hide (ownsRow_below (unhide HR) (Below.alloc1 w4 (.cells #[.int .i64 (p + wd)] 3)))
          have hsz := (unhide HX).size
          simp only [World.size_alloc] at hsz
          go_upto_region 11 with (at_builtin; refine wpList_append_lies _ rfl _ _ 24 rfl (w.heap.size + 1) 3 i0 _ 1 8 Try.underlying24 hi hz0 hz1 hz2 rfl (by decide) _ 2 _ rfl (unhide HR2) ⟨w4.heap.size, 0, none⟩ 1 1 [.int .i64 (p + wd)] rfl rfl (cell_one_new _ _ _) (by simp [Value.oneCell']) (by omega) (by unfold maxLen; omega) (by omega) (by simp; omega) _ rfl ?_; intro g4 cap4 w5 hown hgrow hat hlt4; have HWa := hide ((((Below.refl (w.heap.size + 1) w4)).alloc (by omega) (.cells #[.int .i64 (p + wd)] 3)).grown hgrow (by simp; omega) (fun g hg => ((unhide HR).lt g hg).1)); have HOW := hide hown; clear hown hgrow hat)
          replace HX := hide ((unhide HX).trans (unhide HWa))
          replace HW := hide ((unhide HW).trans ((unhide HWa).mono (by omega)))
          replace HR := HOW
          clear HOW HWa HR2 hlt4 hsz d0 d2
          obtain ⟨a, n', cp, ev, hO⟩ := own_told1 (M := ([p - 1, p + 1, p + wd] : List Int)) (N := N) (unhide HR) (by rw [unhide EN, if_neg c0, if_pos c1, if_pos c2, if_pos c3]; rfl)
          simp only [Value.slice.injEq] at ev
          obtain ⟨rfl, rfl, rfl⟩ := ev
          have HO2 := hide hO
          clear hO HR
          go_wp2
          go_ret
          exact ⟨_, _, _, rfl, OwnSl.mono (unhide HO2) (by omega), unhide HW⟩
        · skip
          go_upto_region 11 with (fail)
          clear d0 d2
          obtain ⟨a, n', cp, ev, hO⟩ := own_told1 (M := ([p - 1, p + 1] : List Int)) (N := N) (unhide HR) (by rw [unhide EN, if_neg c0, if_pos c1, if_pos c2, if_neg c3]; rfl)
          simp only [Value.slice.injEq] at ev
          obtain ⟨rfl, rfl, rfl⟩ := ev
          have HO2 := hide hO
          clear hO HR
          go_wp2
          go_ret
          exact ⟨_, _, _, rfl, OwnSl.mono (unhide HO2) (by omega), unhide HW⟩
      · skip
        go_upto_region 9 with (fail)
        clear d0 d2
        have d0 := ((unhide HX).cell (p := ⟨w.heap.size, 0, none⟩) (by show w.heap.size < w.heap.size + 1; omega)).trans (unhide HC0)
        have d2 := ((unhide HX).cell (p := ⟨w.heap.size, 2, none⟩) (by show w.heap.size < w.heap.size + 1; omega)).trans (unhide HC2)
        by_cases c3 : p + wd < n
        · skip
          have HR2 := hide (ownsRow_below (unhide HR) (Below.alloc1 w3 (.cells #[.int .i64 (p + wd)] 3)))
          have hsz := (unhide HX).size
          simp only [World.size_alloc] at hsz
          go_upto_region 11 with (at_builtin; refine wpList_append_lies _ rfl _ _ 24 rfl (w.heap.size + 1) 3 i0 _ 1 8 Try.underlying24 hi hz0 hz1 hz2 rfl (by decide) _ 1 _ rfl (unhide HR2) ⟨w3.heap.size, 0, none⟩ 1 1 [.int .i64 (p + wd)] rfl rfl (cell_one_new _ _ _) (by simp [Value.oneCell']) (by omega) (by unfold maxLen; omega) (by omega) (by simp; omega) _ rfl ?_; intro g4 cap4 w5 hown hgrow hat hlt4; have HWa := hide ((((Below.refl (w.heap.size + 1) w3)).alloc (by omega) (.cells #[.int .i64 (p + wd)] 3)).grown hgrow (by simp; omega) (fun g hg => ((unhide HR).lt g hg).1)); have HOW := hide hown; clear hown hgrow hat)
          replace HX := hide ((unhide HX).trans (unhide HWa))
          replace HW := hide ((unhide HW).trans ((unhide HWa).mono (by omega)))
          replace HR := HOW
          clear HOW HWa HR2 hlt4 hsz d0 d2
          obtain ⟨a, n', cp, ev, hO⟩ := own_told1 (M := ([p - 1, p + wd] : List Int)) (N := N) (unhide HR) (by rw [unhide EN, if_neg c0, if_pos c1, if_neg c2, if_pos c3]; rfl)
          simp only [Value.slice.injEq] at ev
          obtain ⟨rfl, rfl, rfl⟩ := ev
          have HO2 := hide hO
          clear hO HR
          go_wp2
          go_ret
          exact ⟨_, _, _, rfl, OwnSl.mono (unhide HO2) (by omega), unhide HW⟩
        · skip
          go_upto_region 11 with (fail)
          clear d0 d2
          obtain ⟨a, n', cp, ev, hO⟩ := own_told1 (M := ([p - 1] : List Int)) (N := N) (unhide HR) (by rw [unhide EN, if_neg c0, if_pos c1, if_neg c2, if_neg c3]; rfl)
          simp only [Value.slice.injEq] at ev
          obtain ⟨rfl, rfl, rfl⟩ := ev
          have HO2 := hide hO
          clear hO HR
          go_wp2
          go_ret
          exact ⟨_, _, _, rfl, OwnSl.mono (unhide HO2) (by omega), unhide HW⟩
    · skip
      go_upto_region 7 with (fail)
      clear d0 d2
      have d0 := ((unhide HX).cell (p := ⟨w.heap.size, 0, none⟩) (by show w.heap.size < w.heap.size + 1; omega)).trans (unhide HC0)
      have d2 := ((unhide HX).cell (p := ⟨w.heap.size, 2, none⟩) (by show w.heap.size < w.heap.size + 1; omega)).trans (unhide HC2)
      by_cases c2 : x < wd - 1
      · skip
        have HR2 := hide (ownsRow_below (unhide HR) (Below.alloc1 w1 (.cells #[.int .i64 (p + 1)] 3)))
        have hsz := (unhide HX).size
        simp only [World.size_alloc] at hsz
        go_upto_region 9 with (at_builtin; refine wpList_append_lies _ rfl _ _ 24 rfl (w.heap.size + 1) 3 i0 _ 1 8 Try.underlying24 hi hz0 hz1 hz2 rfl (by decide) _ 0 _ rfl (unhide HR2) ⟨w1.heap.size, 0, none⟩ 1 1 [.int .i64 (p + 1)] rfl rfl (cell_one_new _ _ _) (by simp [Value.oneCell']) (by omega) (by unfold maxLen; omega) (by omega) (by simp; omega) _ rfl ?_; intro g4 cap4 w4 hown hgrow hat hlt4; have HWa := hide ((((Below.refl (w.heap.size + 1) w1)).alloc (by omega) (.cells #[.int .i64 (p + 1)] 3)).grown hgrow (by simp; omega) (fun g hg => ((unhide HR).lt g hg).1)); have HOW := hide hown; clear hown hgrow hat)
        replace HX := hide ((unhide HX).trans (unhide HWa))
        replace HW := hide ((unhide HW).trans ((unhide HWa).mono (by omega)))
        replace HR := HOW
        clear HOW HWa HR2 hlt4 hsz d0 d2
        have d0 := ((unhide HX).cell (p := ⟨w.heap.size, 0, none⟩) (by show w.heap.size < w.heap.size + 1; omega)).trans (unhide HC0)
        have d2 := ((unhide HX).cell (p := ⟨w.heap.size, 2, none⟩) (by show w.heap.size < w.heap.size + 1; omega)).trans (unhide HC2)
        by_cases c3 : p + wd < n
        · skip
          have HR2 := hide (ownsRow_below (unhide HR) (Below.alloc1 w4 (.cells #[.int .i64 (p + wd)] 3)))
          have hsz := (unhide HX).size
          simp only [World.size_alloc] at hsz
          go_upto_region 11 with (at_builtin; refine wpList_append_lies _ rfl _ _ 24 rfl (w.heap.size + 1) 3 i0 _ 1 8 Try.underlying24 hi hz0 hz1 hz2 rfl (by decide) _ 1 _ rfl (unhide HR2) ⟨w4.heap.size, 0, none⟩ 1 1 [.int .i64 (p + wd)] rfl rfl (cell_one_new _ _ _) (by simp [Value.oneCell']) (by omega) (by unfold maxLen; omega) (by omega) (by simp; omega) _ rfl ?_; intro g4 cap4 w5 hown hgrow hat hlt4; have HWa := hide ((((Below.refl (w.heap.size + 1) w4)).alloc (by omega) (.cells #[.int .i64 (p + wd)] 3)).grown hgrow (by simp; omega) (fun g hg => ((unhide HR).lt g hg).1)); have HOW := hide hown; clear hown hgrow hat)
          replace HX := hide ((unhide HX).trans (unhide HWa))
          replace HW := hide ((unhide HW).trans ((unhide HWa).mono (by omega)))
          replace HR := HOW
          clear HOW HWa HR2 hlt4 hsz d0 d2
          obtain ⟨a, n', cp, ev, hO⟩ := own_told1 (M := ([p + 1, p + wd] : List Int)) (N := N) (unhide HR) (by rw [unhide EN, if_neg c0, if_neg c1, if_pos c2, if_pos c3]; rfl)
          simp only [Value.slice.injEq] at ev
          obtain ⟨rfl, rfl, rfl⟩ := ev
          have HO2 := hide hO
          clear hO HR
          go_wp2
          go_ret
          exact ⟨_, _, _, rfl, OwnSl.mono (unhide HO2) (by omega), unhide HW⟩
        · skip
          go_upto_region 11 with (fail)
          clear d0 d2
          obtain ⟨a, n', cp, ev, hO⟩ := own_told1 (M := ([p + 1] : List Int)) (N := N) (unhide HR) (by rw [unhide EN, if_neg c0, if_neg c1, if_pos c2, if_neg c3]; rfl)
          simp only [Value.slice.injEq] at ev
          obtain ⟨rfl, rfl, rfl⟩ := ev
          have HO2 := hide hO
          clear hO HR
          go_wp2
          go_ret
          exact ⟨_, _, _, rfl, OwnSl.mono (unhide HO2) (by omega), unhide HW⟩
      · skip
        go_upto_region 9 with (fail)
        clear d0 d2
        have d0 := ((unhide HX).cell (p := ⟨w.heap.size, 0, none⟩) (by show w.heap.size < w.heap.size + 1; omega)).trans (unhide HC0)
        have d2 := ((unhide HX).cell (p := ⟨w.heap.size, 2, none⟩) (by show w.heap.size < w.heap.size + 1; omega)).trans (unhide HC2)
        by_cases c3 : p + wd < n
        · skip
          have HR2 := hide (ownsRow_below (unhide HR) (Below.alloc1 w1 (.cells #[.int .i64 (p + wd)] 3)))
          have hsz := (unhide HX).size
          simp only [World.size_alloc] at hsz
          go_upto_region 11 with (at_builtin; refine wpList_append_lies _ rfl _ _ 24 rfl (w.heap.size + 1) 3 i0 _ 1 8 Try.underlying24 hi hz0 hz1 hz2 rfl (by decide) _ 0 _ rfl (unhide HR2) ⟨w1.heap.size, 0, none⟩ 1 1 [.int .i64 (p + wd)] rfl rfl (cell_one_new _ _ _) (by simp [Value.oneCell']) (by omega) (by unfold maxLen; omega) (by omega) (by simp; omega) _ rfl ?_; intro g4 cap4 w5 hown hgrow hat hlt4; have HWa := hide ((((Below.refl (w.heap.size + 1) w1)).alloc (by omega) (.cells #[.int .i64 (p + wd)] 3)).grown hgrow (by simp; omega) (fun g hg => ((unhide HR).lt g hg).1)); have HOW := hide hown; clear hown hgrow hat)
          replace HX := hide ((unhide HX).trans (unhide HWa))
          replace HW := hide ((unhide HW).trans ((unhide HWa).mono (by omega)))
          replace HR := HOW
          clear HOW HWa HR2 hlt4 hsz d0 d2
          obtain ⟨a, n', cp, ev, hO⟩ := own_told1 (M := ([p + wd] : List Int)) (N := N) (unhide HR) (by rw [unhide EN, if_neg c0, if_neg c1, if_neg c2, if_pos c3]; rfl)
          simp only [Value.slice.injEq] at ev
          obtain ⟨rfl, rfl, rfl⟩ := ev
          have HO2 := hide hO
          clear hO HR
          go_wp2
          go_ret
          exact ⟨_, _, _, rfl, OwnSl.mono (unhide HO2) (by omega), unhide HW⟩
        · skip
          go_upto_region 11 with (fail)
          clear d0 d2
          obtain ⟨a, n', cp, ev, hO⟩ := own_told1 (M := ([] : List Int)) (N := N) (unhide HR) (by rw [unhide EN, if_neg c0, if_neg c1, if_neg c2, if_neg c3]; rfl)
          simp only [Value.slice.injEq] at ev
          obtain ⟨rfl, rfl, rfl⟩ := ev
          have HO2 := hide hO
          clear hO HR
          go_wp2
          go_ret
          exact ⟨_, _, _, rfl, OwnSl.mono (unhide HO2) (by omega), unhide HW⟩

end Go.Proofs.Ytdpcacfgbjllhaa

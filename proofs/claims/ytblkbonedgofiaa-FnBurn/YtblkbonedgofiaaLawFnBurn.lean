/- FnBurn, walked: what is burnt for twice as long, and between two speeds. -/
import Derived.Test.YtblkbonedgofiaaEnE2
import Derived.Test.YtblkbonedgofiaaAtFix
import Derived.Test.YtblkbonedgofiaaGrow
import Derived.Test.YtblkbonedgofiaaSgA
import Derived.Deep.AppendLies
namespace Go.Proofs.Ytblkbonedgofiaa
open Go.RowKit

/-- A curve that never falls; x its last number. -/
structure Crv (xs : List Int) (x : Int) : Prop where
  lo : 0 ≤ x
  hi : x ≤ 255 * (xs.length : Int)
  all : ∀ i, i < xs.length → 0 ≤ xs.getD i 0 ∧ xs.getD i 0 ≤ x
  step : ∀ i, i + 1 < xs.length → xs.getD i 0 ≤ xs.getD (i + 1) 0
  last : ∀ i, i + 1 = xs.length → xs.getD i 0 = x
theorem Crv.start : Crv [] 0 := ⟨by omega, by simp, fun i hi => by simp at hi, fun i hi => by simp at hi, fun i hi => by simp at hi⟩
theorem Crv.next {xs : List Int} {x y : Int} (h : Crv xs x) (h0 : 0 ≤ y) (h1 : y ≤ 255) : Crv (xs ++ [x + y]) (x + y) := by
  have hl := h.lo
  have hh := h.hi
  have old : ∀ i, i < xs.length → (xs ++ [x + y]).getD i 0 = xs.getD i 0 := fun i hi => by simp [List.getD, List.getElem?_append_left hi]
  have new : (xs ++ [x + y]).getD xs.length 0 = x + y := by simp [List.getD]
  refine ⟨by omega, by simp; omega, fun i hi => ?_, fun i hi => ?_, fun i hi => ?_⟩
  · simp only [List.length_append, List.length_singleton] at hi
    by_cases e : i < xs.length
    · rw [old i e]; have := h.all i e; omega
    · rw [show i = xs.length by omega, new]; omega
  · simp only [List.length_append, List.length_singleton] at hi
    rw [old i (by omega)]
    by_cases e : i + 1 < xs.length
    · rw [old _ e]; exact h.step i e
    · rw [show i + 1 = xs.length by omega, new]; have := h.all i (by omega); omega
  · simp only [List.length_append, List.length_singleton] at hi
    rw [show i = xs.length by omega, new]

theorem ints_snocB (xs : List Int) (x : Int) : ints (xs ++ [x]) = ints xs ++ [.int .i64 x] := by simp [ints]

theorem burn_facts {C : List Int} {x s m : Int} (hC : Crv C x) (h2 : 2 ≤ C.length) (h7 : C.length ≤ 7) (hs0 : 0 ≤ s) (hs1 : s ≤ 10 * ((C.length : Int) - 1)) (hm0 : 0 ≤ m) (hm1 : m ≤ 765) :
    ∃ a b l : Int, burnV C s m = (a, true) ∧ burnV C s (2 * m) = (b, true) ∧ burnV C (s / 10 * 10) m = (l, true) ∧ burnV C (10 * ((C.length : Int) - 1) + 1) m = (0, false) ∧ burnV C (10 * ((C.length : Int) - 1)) 60 = (x, true) ∧ 0 ≤ b - 2 * a ∧ b - 2 * a ≤ 1 ∧ l ≤ a ∧ 0 ≤ a ∧ a ≤ 100000000000 ∧ 0 ≤ b ∧ b ≤ 100000000000 := by
  have hh := hC.hi
  have hv : Cv C := ⟨h2, by omega, fun i hi => by have := hC.all i hi; omega⟩
  have ok : ∀ s' m', 0 ≤ s' → s' ≤ 10 * ((C.length : Int) - 1) → 0 ≤ m' → m' ≤ 100000 → burnV C s' m' = (tenths C s' * m' / 600, true) := fun s' m' a b c d => if_pos ⟨hv, a, b, c, d⟩
  refine ⟨_, _, _, ok s m hs0 hs1 hm0 (by omega), ok s (2 * m) hs0 hs1 (by omega) (by omega), ok (s / 10 * 10) m (by omega) (by omega) hm0 (by omega), burnV_not (fun h => by have := h.2.2.1; omega), ?_, ?_⟩
  · rw [ok _ 60 (by omega) (by omega) (by omega) (by omega), tenths]
    have e1 : (10 * ((C.length : Int) - 1) / 10).toNat = C.length - 1 := by omega
    have e2 : 10 * ((C.length : Int) - 1) % 10 = 0 := by omega
    rw [e1, e2, Int.zero_mul, hC.last (C.length - 1) (by omega)]
    congr 1
    omega
  · have hK : (s / 10).toNat < C.length := by omega
    have hU : min ((s / 10).toNat + 1) (C.length - 1) < C.length := by omega
    have xK := hC.all _ hK
    have xU := hC.all _ hU
    have xKU : C.getD (s / 10).toNat 0 ≤ C.getD (min ((s / 10).toNat + 1) (C.length - 1)) 0 := by
      by_cases e : (s / 10).toNat + 1 < C.length
      · rw [show min ((s / 10).toNat + 1) (C.length - 1) = (s / 10).toNat + 1 by omega]; exact hC.step _ e
      · rw [show min ((s / 10).toNat + 1) (C.length - 1) = (s / 10).toNat by omega]; exact Int.le_refl _
    have n := burn_nums (D := s % 10) (m := m) xK.1 (by omega) xU.1 (by omega) (by omega) (by omega) hm0 (by omega)
    have l1 : tenths C (s / 10 * 10) = 10 * C.getD (s / 10).toNat 0 := by
      rw [tenths, show s / 10 * 10 / 10 = s / 10 by omega, show s / 10 * 10 % 10 = 0 by omega, Int.zero_mul, Int.add_zero]
    have t1 : tenths C s = 10 * C.getD (s / 10).toNat 0 + (s % 10) * (C.getD (min ((s / 10).toNat + 1) (C.length - 1)) 0 - C.getD (s / 10).toNat 0) := rfl
    have pos : 0 ≤ (s % 10) * (C.getD (min ((s / 10).toNat + 1) (C.length - 1)) 0 - C.getD (s / 10).toNat 0) := Int.mul_nonneg (by omega) (by omega)
    have le1 : tenths C (s / 10 * 10) * m ≤ tenths C s * m := Int.mul_le_mul_of_nonneg_right (by rw [l1, t1]; omega) hm0
    rw [← t1] at n
    have e2 : tenths C s * (2 * m) = 2 * (tenths C s * m) := by rw [Int.mul_left_comm]
    rw [e2]
    obtain ⟨-, -, -, -, n5, n6⟩ := n
    generalize tenths C s * m = p at *
    generalize tenths C (s / 10 * 10) * m = r at *
    omega

set_option maxRecDepth 100000 in
set_option maxHeartbeats 8000000 in
theorem lawFnBurn_any (v : Value) (n : Nat) (w : World) (h : BytesIn w.heap.size w v n) : Calls Try.prog 5 #[v] w fun e w' => e = .returned (.bool true) ∧ Below w.heap.size w w' := by
  have HV := hide h
  obtain ⟨ao, cap, rfl, h1, h2, -⟩ := h
  unfold maxLen at h2
  by_cases hbig : 1048576 < (n : Int)
  · go_enter Try.func5, Try.ntmps5
    go_wp2_with (go_at_call 11; refine (big_any _ _ _ _).mono ?_; rintro e w' ⟨rfl, rfl⟩)
    go_ret
    exact ⟨rfl, Below.refl _ _⟩
  have hn : n ≤ 1048576 := by omega
  obtain ⟨y0, y00, y01, A0⟩ := at_fix _ n 0 w (unhide HV) hn (by omega)
  obtain ⟨y9, y90, y91, A9⟩ := at_fix _ n 9 w (unhide HV) hn (by omega)
  obtain ⟨y10, yA0, yA1, A10⟩ := at_fix _ n 10 w (unhide HV) hn (by omega)
  have HA0 := hide A0
  have HA9 := hide A9
  have HA10 := hide A10
  have HAI := hide fun (c : Int) V (hV : Below w.heap.size w V) h0 h1 => at_i _ n w.heap.size c V ((unhide HV).below hV (Nat.le_refl _)) hn h0 h1
  obtain ⟨N, eN⟩ : ∃ N : Nat, (N : Int) = 2 + y0 % 6 := ⟨(2 + y0 % 6).toNat, by omega⟩
  have k1 : y0.tmod 6 = (N : Int) - 2 := by rw [Int.tmod_eq_emod_of_nonneg y00]; omega
  have k2 : y0 % 6 = (N : Int) - 2 := by omega
  have hN2 : 2 ≤ N := by omega
  have hN7 : N ≤ 7 := by omega
  clear A0 A9 A10 eN
  obtain ⟨i0, hinf, hz0, hz1, hz2⟩ := info_parts Try.info3
  have HM0 := hide (World.ownsRow_made (base := w.heap.size) (e := 3) (size := 1) w #[] 0 (Nat.le_refl _) (Nat.zero_le _) (by simp))
  have HB0 := hide (Below.alloc1 w (.cells #[] 3))
  go_enter Try.func5, Try.ntmps5
  go_wp2_with (go_at_call 11; refine (big_any _ _ _ _).mono ?_; rintro e w' ⟨rfl, rfl⟩)
  go_loopg [3, 4, 5] N (fun gg cv xv iv wr => ∃ (i : Nat) (C : List Int) (x : Int), i ≤ N ∧ gg = N - i ∧ iv = .int .i64 i ∧ xv = .int .i64 x ∧ C.length = i ∧ Hid (Crv C x) ∧ Hid (Below w.heap.size w wr) ∧ (∃ a n cp, cv = .slice a n cp) ∧ Hid (wr.ownsRow w.heap.size 3 1 cv C.length (ints C)))
  case atStart => exact ⟨0, [], 0, Nat.zero_le _, rfl, rfl, rfl, rfl, Crv.start, unhide HB0, ⟨_, _, _, rfl⟩, unhide HM0⟩
  case round =>
    clear HM0 HB0
    obtain ⟨i, C, x, hi, rfl, rfl, rfl, hCl, HC, HW, ⟨a, m, cp, rfl⟩, HR⟩ := hrel
    have hC1 : C.length ≤ i := by omega
    have hC2 : i ≤ C.length := by omega
    have HCL := hide hCl
    clear hCl
    have hx0 := (unhide HC).lo
    have hx1 := (unhide HC).hi
    by_cases hiN : i < N
    · have hiNi : (i : Int) < N := by omega
      have d0 : decide ((i : Int) < 2 + ((N : Int) - 2)) = true := by rw [decide_eq_true_eq]; omega
      go_wp2_with fail
      refine (unhide HA0 _ (unhide HW)).mono ?_
      rintro e w' ⟨rfl, h9⟩
      have h8 := h9.symm
      subst h8
      clear h9
      go_wp2_with fail
      refine (unhide HAI ((i : Int) + 1) _ (unhide HW) (by omega) (by omega)).mono ?_
      rintro e w' ⟨y, rfl, hy0, hy1, rfl⟩
      have HN := hide ((unhide HC).next hy0 hy1)
      have HR2 := hide (ownsRow_below (unhide HR) (Below.alloc1 wr (.cells #[.int .i64 (x + y)] 3)))
      have hsz := (unhide HW).size
      go_wp2_with (at_builtin; refine wpList_append_lies _ rfl _ _ 35 rfl w.heap.size 3 i0 _ 1 8 Try.underlying35 hinf hz0 hz1 hz2 rfl (by decide) _ C.length _ rfl (unhide HR2) ⟨wr.heap.size, 0, none⟩ 1 1 [.int .i64 (x + y)] rfl rfl (cell_one_new _ _ _) (by simp [Value.oneCell']) (by omega) (by unfold maxLen; omega) (by omega) (by simp; omega) _ rfl ?_; intro g4 cap4 wa hown hgrow hat hlt4; have HWa := hide ((Below.step (unhide HW) (Below.alloc1 wr (.cells #[.int .i64 (x + y)] 3))).grown hgrow (by simp; omega) (fun g hg => ((unhide HR).lt g hg).1)); have HOW := hide hown; clear hown hgrow hat)
      go_roundg (N - (i + 1))
      case measure => omega
      case rel => exact ⟨i + 1, C ++ [x + y], x + y, by omega, rfl, by go_num, rfl, by simp; omega, unhide HN, unhide HWa, ⟨_, _, _, rfl⟩, by rw [ints_snocB, List.length_append]; exact unhide HOW⟩
    · have d0 : decide ((i : Int) < 2 + ((N : Int) - 2)) = false := by rw [decide_eq_false_iff_not]; omega
      have hz : 10 * ((C.length : Int) - 1) + 1 ≠ 0 := by omega
      obtain ⟨s, es⟩ : ∃ s, s = y9 % (10 * ((C.length : Int) - 1) + 1) := ⟨_, rfl⟩
      have s1 : y9.tmod (10 * ((C.length : Int) - 1) + 1) = s := by rw [Int.tmod_eq_emod_of_nonneg y90, es]
      have s1' : y9 % (10 * ((C.length : Int) - 1) + 1) = s := es.symm
      have s0 : 0 ≤ s := by rw [es]; exact Int.emod_nonneg _ hz
      have s2 : s ≤ 10 * ((C.length : Int) - 1) := by have := Int.emod_lt_of_pos y9 (show 0 < 10 * ((C.length : Int) - 1) + 1 by omega); omega
      obtain ⟨fa, fb, fl, E1, E2, E3, E4, E5, f1, f2, f3, f4, f5, f6, f7⟩ := burn_facts (m := y10 * 3) (unhide HC) (by omega) (by omega) s0 s2 (by omega) (by omega)
      have hI : ∀ V, Below wr.heap.size wr V → IntsIn V (.slice a m cp) C := fun V hV => by
        exact ((ownsRow_ownSl (unhide HR)).1.intsIn).below hV
      have B1 := hide fun V hV => implBurn_any _ C s (y10 * 3) V (hI V hV)
      have B2 := hide fun V hV => implBurn_any _ C s (2 * (y10 * 3)) V (hI V hV)
      have B3 := hide fun V hV => implBurn_any _ C (s / 10 * 10) (y10 * 3) V (hI V hV)
      have B4 := hide fun V hV => implBurn_any _ C (10 * ((C.length : Int) - 1) + 1) (y10 * 3) V (hI V hV)
      have B5 := hide fun V hV => implBurn_any _ C (10 * ((C.length : Int) - 1)) 60 V (hI V hV)
      rw [E1] at B1
      rw [E2] at B2
      rw [E3] at B3
      rw [E4] at B4
      rw [E5] at B5
      dsimp only at B1 B2 B3 B4 B5
      have hml : m = C.length := by
        obtain ⟨a', c', e', -⟩ := hI wr (Below.refl _ _)
        simp only [Value.slice.injEq] at e'
        exact e'.2.1
      subst hml
      have ES := hide es
      obtain ⟨q, eq⟩ : ∃ q, q = s / 10 := ⟨_, rfl⟩
      have q1 : s.tdiv 10 = q := by rw [Int.tdiv_eq_ediv_of_nonneg s0, eq]
      have q2 : s / 10 = q := eq.symm
      have q3 : 0 ≤ q := by omega
      have q4 : q ≤ 100 := by omega
      rw [← eq] at B3
      have HZ := hide (Below.refl wr.heap.size wr)
      have xx : (x == x) = true := by simp
      have d1 : decide (0 ≤ fb - 2 * fa) = true := decide_eq_true f1
      have d2 : decide (fb - 2 * fa ≤ 1) = true := decide_eq_true f2
      have d3 : decide (fl ≤ fa) = true := decide_eq_true f3
      clear E1 E2 E3 E4 E5 hI es eq
      go_wp2_with fail
      refine (unhide HA0 _ (unhide HW)).mono ?_
      rintro e w' ⟨rfl, h9⟩
      have h8 := h9.symm
      subst h8
      clear h9
      go_wp2_with fail
      refine (unhide HA9 _ (unhide HW)).mono ?_
      rintro e w' ⟨rfl, h9⟩
      have h8 := h9.symm
      subst h8
      clear h9
      go_wp2_with fail
      refine (unhide HA10 _ (unhide HW)).mono ?_
      rintro e w' ⟨rfl, h9⟩
      have h8 := h9.symm
      subst h8
      clear h9
      go_wp2_with fail
      refine (unhide B1 _ (unhide HZ)).mono ?_
      rintro e u1 ⟨rfl, hb⟩
      replace HZ := hide (Below.step (unhide HZ) hb)
      clear hb
      go_wp2_with fail
      refine (unhide B2 _ (unhide HZ)).mono ?_
      rintro e u2 ⟨rfl, hb⟩
      replace HZ := hide (Below.step (unhide HZ) hb)
      clear hb
      go_wp2_with fail
      refine (unhide B3 _ (unhide HZ)).mono ?_
      rintro e u3 ⟨rfl, hb⟩
      replace HZ := hide (Below.step (unhide HZ) hb)
      clear hb
      go_wp2_with fail
      refine (unhide B4 _ (unhide HZ)).mono ?_
      rintro e u4 ⟨rfl, hb⟩
      replace HZ := hide (Below.step (unhide HZ) hb)
      clear hb
      go_wp2_with fail
      refine (unhide B5 _ (unhide HZ)).mono ?_
      rintro e u5 ⟨rfl, hb⟩
      replace HZ := hide (Below.step (unhide HZ) hb)
      clear hb
      go_wp2
      go_ret
      exact ⟨rfl, Below.step (unhide HW) (unhide HZ)⟩

end Go.Proofs.Ytblkbonedgofiaa

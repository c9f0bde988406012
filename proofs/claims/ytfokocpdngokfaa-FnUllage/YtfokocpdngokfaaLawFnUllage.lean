/- FnUllage, walked: more cargo has less ullage; surveys of three alike drafts. Written by wip/mkful.py. -/
import Derived.Test.YtfokocpdngokfaaUlA
import Derived.Test.YtfokocpdngokfaaUlD
import Derived.Test.YtfokocpdngokfaaAtFix
import Derived.Test.YtfokocpdngokfaaGrow
import Derived.Test.YtfokocpdngokfaaSgA
import Derived.Deep.AppendLies
namespace Go.Proofs.Ytfokocpdngokfaa
open Go.RowKit

/-- A table that falls; x its last number. -/
structure Dwn (xs : List Int) (x : Int) : Prop where
  lo : 90000 - 256 * (xs.length : Int) ≤ x
  hi : x ≤ 90000
  all : ∀ i, i < xs.length → x ≤ xs.getD i 0 ∧ xs.getD i 0 ≤ 90000
  step : ∀ i, i + 1 < xs.length → xs.getD (i + 1) 0 < xs.getD i 0
theorem Dwn.start : Dwn [] 90000 := ⟨by simp, by omega, fun i hi => by simp at hi, fun i hi => by simp at hi⟩
theorem Dwn.next {xs : List Int} {x y : Int} (h : Dwn xs x) (h0 : 0 ≤ y) (h1 : y ≤ 255) : Dwn (xs ++ [x - 1 - y]) (x - 1 - y) := by
  have hl := h.lo
  have hh := h.hi
  have old : ∀ i, i < xs.length → (xs ++ [x - 1 - y]).getD i 0 = xs.getD i 0 := fun i hi => by simp [List.getD, List.getElem?_append_left hi]
  have new : (xs ++ [x - 1 - y]).getD xs.length 0 = x - 1 - y := by simp [List.getD]
  refine ⟨by simp; omega, by omega, fun i hi => ?_, fun i hi => ?_⟩
  · simp only [List.length_append, List.length_singleton] at hi
    by_cases e : i < xs.length
    · rw [old i e]; have := h.all i e; omega
    · rw [show i = xs.length by omega, new]; omega
  · simp only [List.length_append, List.length_singleton] at hi
    rw [old i (by omega)]
    by_cases e : i + 1 < xs.length
    · rw [old _ e]; exact h.step i e
    · rw [show i + 1 = xs.length by omega, new]; have := h.all i (by omega); omega
theorem ints_snocU (xs : List Int) (x : Int) : ints (xs ++ [x]) = ints xs ++ [.int .i64 x] := by simp [ints]
def ulF (C : List Int) (s : Int) : Int := C.getD (s / 100).toNat 0 - (s % 100) * (C.getD (s / 100).toNat 0 - C.getD (min ((s / 100).toNat + 1) (C.length - 1)) 0) / 100
theorem Dwn.ull {C : List Int} {x : Int} (h : Dwn C x) (h2 : 2 ≤ C.length) (h7 : C.length ≤ 7) : Ull C := ⟨h2, by omega, fun k hk => by
  have hl := h.lo
  have ha := h.all k hk
  refine ⟨⟨by omega, by omega⟩, fun h0 => ?_⟩
  have := h.step (k - 1) (by omega)
  rwa [show k - 1 + 1 = k by omega] at this⟩
theorem ulF_bd {C : List Int} (h : Ull C) {s : Int} (hs1 : s ≤ 100 * ((C.length : Int) - 1)) :
    ulF C s ≤ C.getD (s / 100).toNat 0 ∧ C.getD (min ((s / 100).toNat + 1) (C.length - 1)) 0 ≤ ulF C s := by
  have h2 := h.1
  have hle : C.getD (min ((s / 100).toNat + 1) (C.length - 1)) 0 ≤ C.getD (s / 100).toNat 0 := by
    have := ul_dec h.2.2 (s / 100).toNat (min ((s / 100).toNat + 1) (C.length - 1) - (s / 100).toNat) (by omega)
    rwa [show (s / 100).toNat + (min ((s / 100).toNat + 1) (C.length - 1) - (s / 100).toNat) = min ((s / 100).toNat + 1) (C.length - 1) by omega] at this
  unfold ulF
  generalize C.getD (s / 100).toNat 0 = a at *
  generalize C.getD (min ((s / 100).toNat + 1) (C.length - 1)) 0 = b at *
  have p0 : 0 ≤ (s % 100) * (a - b) := Int.mul_nonneg (by omega) (by omega)
  have p1 : (s % 100) * (a - b) ≤ 100 * (a - b) := Int.mul_le_mul_of_nonneg_right (by omega) (by omega)
  omega
theorem ulF_mono {C : List Int} (h : Ull C) {s t : Int} (hs0 : 0 ≤ s) (hst : s ≤ t) (ht1 : t ≤ 100 * ((C.length : Int) - 1)) : ulF C t ≤ ulF C s := by
  have h2 := h.1
  have b1 := ulF_bd h (s := s) (by omega)
  have b2 := ulF_bd h ht1
  by_cases e : s / 100 = t / 100
  · unfold ulF
    rw [← e]
    have hle : C.getD (min ((s / 100).toNat + 1) (C.length - 1)) 0 ≤ C.getD (s / 100).toNat 0 := by omega
    generalize C.getD (s / 100).toNat 0 = a at *
    generalize C.getD (min ((s / 100).toNat + 1) (C.length - 1)) 0 = b at *
    have p1 : (s % 100) * (a - b) ≤ (t % 100) * (a - b) := Int.mul_le_mul_of_nonneg_right (by omega) (by omega)
    omega
  · have hd := ul_dec h.2.2 (min ((s / 100).toNat + 1) (C.length - 1)) ((t / 100).toNat - min ((s / 100).toNat + 1) (C.length - 1)) (by omega)
    rw [show min ((s / 100).toNat + 1) (C.length - 1) + ((t / 100).toNat - min ((s / 100).toNat + 1) (C.length - 1)) = (t / 100).toNat by omega] at hd
    omega
theorem ull_facts {C : List Int} {x s : Int} (hC : Dwn C x) (h2 : 2 ≤ C.length) (h7 : C.length ≤ 7) (hs0 : 0 ≤ s) (hs1 : s ≤ 100 * ((C.length : Int) - 1)) :
    ∃ u v k : Int, ulV C s = (u, true) ∧ ulV C ((s + 100 * ((C.length : Int) - 1)) / 2) = (v, true) ∧ ulV C (s / 100 * 100) = (k, true) ∧ ulV C (100 * ((C.length : Int) - 1) + 1) = (0, false) ∧ k = C.getD (s / 100).toNat 0 ∧ v ≤ u ∧ u ≤ k := by
  have hu := hC.ull h2 h7
  have ok : ∀ s', 0 ≤ s' → s' ≤ 100 * ((C.length : Int) - 1) → ulV C s' = (ulF C s', true) := fun s' a b => if_pos ⟨hu, a, b⟩
  have ek : ulF C (s / 100 * 100) = C.getD (s / 100).toNat 0 := by
    unfold ulF
    rw [show s / 100 * 100 / 100 = s / 100 by omega, show s / 100 * 100 % 100 = 0 by omega, Int.zero_mul]
    simp
  refine ⟨_, _, _, ok s hs0 hs1, ok _ (by omega) (by omega), ok _ (by omega) (by omega), ulV_not (fun h => by have := h.2.2; omega), ek, ulF_mono hu hs0 (by omega) (by omega), ?_⟩
  rw [ek]
  exact (ulF_bd hu hs1).1
theorem ds_same {d : Int} (h0 : 0 ≤ d) (h1 : d ≤ 2040) : dsV d d d 3 = (3 * d, true) := by
  unfold dsV dsOk
  rw [inB_mk h0 (by omega)]
  simp only [Bool.true_and, show inB 3 1 1000 = true from rfl, if_true]
  congr 1
  omega
theorem ds_one : dsV 0 0 5 1 = (1, true) := by decide

set_option maxRecDepth 100000 in
set_option maxHeartbeats 8000000 in
theorem lawFnUllage_any (v : Value) (n : Nat) (w : World) (h : BytesIn w.heap.size w v n) : Calls Try.prog 4 #[v] w fun e w' => e = .returned (.bool true) ∧ Below w.heap.size w w' := by
  have HV := hide h
  obtain ⟨ao, cap, rfl, h1, h2, -⟩ := h
  unfold maxLen at h2
  by_cases hbig : 1048576 < (n : Int)
  · go_enter Try.func4, Try.ntmps4
    go_wp2_with (go_at_call 10; refine (big_any _ _ _ _).mono ?_; rintro e w' ⟨rfl, rfl⟩)
    go_ret
    exact ⟨rfl, Below.refl _ _⟩
  have hn : n ≤ 1048576 := by omega
  obtain ⟨y0, y00, y01, A0⟩ := at_fix _ n 0 w (unhide HV) hn (by omega)
  obtain ⟨y9, y90, y91, A9⟩ := at_fix _ n 20 w (unhide HV) hn (by omega)
  obtain ⟨y10, yA0, yA1, A10⟩ := at_fix _ n 21 w (unhide HV) hn (by omega)
  have HA0 := hide A0
  have HA9 := hide A9
  have HA10 := hide A10
  have HAI := hide fun (c : Int) V (hV : Below w.heap.size w V) h0 h1 => at_i _ n w.heap.size c V ((unhide HV).below hV (Nat.le_refl _)) hn h0 h1
  obtain ⟨N, eN⟩ : ∃ N : Nat, (N : Int) = 2 + y0 % 6 := ⟨(2 + y0 % 6).toNat, by omega⟩
  have k1 : y0.tmod 6 = (N : Int) - 2 := by rw [Int.tmod_eq_emod_of_nonneg y00]; omega
  have k2 : y0 % 6 = (N : Int) - 2 := by omega
  have hN2 : 2 ≤ N := by omega
  have hN7 : N ≤ 7 := by omega
  clear A0 A9 A10 eN
  obtain ⟨i0, hinf, hz0, hz1, hz2⟩ := info_parts Try.info3
  have HM0 := hide (World.ownsRow_made (base := w.heap.size) (e := 3) (size := 1) w #[] 0 (Nat.le_refl _) (Nat.zero_le _) (by simp))
  have HB0 := hide (Below.alloc1 w (.cells #[] 3))
  go_enter Try.func4, Try.ntmps4
  go_wp2_with (go_at_call 10; refine (big_any _ _ _ _).mono ?_; rintro e w' ⟨rfl, rfl⟩)
  go_loopg [3, 4, 5] N (fun gg cv xv iv wr => ∃ (i : Nat) (C : List Int) (x : Int), i ≤ N ∧ gg = N - i ∧ iv = .int .i64 i ∧ xv = .int .i64 x ∧ C.length = i ∧ Hid (Dwn C x) ∧ Hid (Below w.heap.size w wr) ∧ (∃ a n cp, cv = .slice a n cp) ∧ Hid (wr.ownsRow w.heap.size 3 1 cv C.length (ints C)))
  case atStart => exact ⟨0, [], 90000, Nat.zero_le _, rfl, rfl, rfl, rfl, Dwn.start, unhide HB0, ⟨_, _, _, rfl⟩, unhide HM0⟩
  case round =>
    clear HM0 HB0
    obtain ⟨i, C, x, hi, rfl, rfl, rfl, hCl, HC, HW, ⟨a, m, cp, rfl⟩, HR⟩ := hrel
    have hC1 : C.length ≤ i := by omega
    have hC2 : i ≤ C.length := by omega
    have HCL := hide hCl
    clear hCl
    have hx0 := (unhide HC).lo
    have hx1 := (unhide HC).hi
    by_cases hiN : i < N
    · have hiNi : (i : Int) < N := by omega
      have d0 : decide ((i : Int) < 2 + ((N : Int) - 2)) = true := by rw [decide_eq_true_eq]; omega
      go_wp2_with fail
      refine (unhide HA0 _ (unhide HW)).mono ?_
      rintro e w' ⟨rfl, h9⟩
      have h8 := h9.symm
      subst h8
      clear h9
      go_wp2_with fail
      refine (unhide HAI ((i : Int) + 1) _ (unhide HW) (by omega) (by omega)).mono ?_
      rintro e w' ⟨y, rfl, hy0, hy1, rfl⟩
      have HN := hide ((unhide HC).next hy0 hy1)
      have HR2 := hide (ownsRow_below (unhide HR) (Below.alloc1 wr (.cells #[.int .i64 (x - 1 - y)] 3)))
      have hsz := (unhide HW).size
      go_wp2_with (at_builtin; refine wpList_append_lies _ rfl _ _ 35 rfl w.heap.size 3 i0 _ 1 8 Try.underlying35 hinf hz0 hz1 hz2 rfl (by decide) _ C.length _ rfl (unhide HR2) ⟨wr.heap.size, 0, none⟩ 1 1 [.int .i64 (x - 1 - y)] rfl rfl (cell_one_new _ _ _) (by simp [Value.oneCell']) (by omega) (by unfold maxLen; omega) (by omega) (by simp; omega) _ rfl ?_; intro g4 cap4 wa hown hgrow hat hlt4; have HWa := hide ((Below.step (unhide HW) (Below.alloc1 wr (.cells #[.int .i64 (x - 1 - y)] 3))).grown hgrow (by simp; omega) (fun g hg => ((unhide HR).lt g hg).1)); have HOW := hide hown; clear hown hgrow hat)
      go_roundg (N - (i + 1))
      case measure => omega
      case rel => exact ⟨i + 1, C ++ [x - 1 - y], x - 1 - y, by omega, rfl, by go_num, rfl, by simp; omega, unhide HN, unhide HWa, ⟨_, _, _, rfl⟩, by rw [ints_snocU, List.length_append]; exact unhide HOW⟩
    · have d0 : decide ((i : Int) < 2 + ((N : Int) - 2)) = false := by rw [decide_eq_false_iff_not]; omega
      have hz : 100 * ((C.length : Int) - 1) + 1 ≠ 0 := by omega
      obtain ⟨s, es⟩ : ∃ s, s = y9 * 7 % (100 * ((C.length : Int) - 1) + 1) := ⟨_, rfl⟩
      have s1 : (y9 * 7).tmod (100 * ((C.length : Int) - 1) + 1) = s := by rw [Int.tmod_eq_emod_of_nonneg (by omega), es]
      have s1' : y9 * 7 % (100 * ((C.length : Int) - 1) + 1) = s := es.symm
      have s0 : 0 ≤ s := by rw [es]; exact Int.emod_nonneg _ hz
      have s2 : s ≤ 100 * ((C.length : Int) - 1) := by have := Int.emod_lt_of_pos (y9 * 7) (show 0 < 100 * ((C.length : Int) - 1) + 1 by omega); omega
      obtain ⟨fu, fv, fk, E1, E2, E3, E4, E5, f1, f2⟩ := ull_facts (unhide HC) (by omega) (by omega) s0 s2
      have hI : ∀ V, Below wr.heap.size wr V → IntsIn V (.slice a m cp) C := fun V hV => by
        exact ((ownsRow_ownSl (unhide HR)).1.intsIn).below hV
      have B1 := hide fun V hV => implUllage_any _ C s V (hI V hV)
      have B2 := hide fun V hV => implUllage_any _ C ((s + 100 * ((C.length : Int) - 1)) / 2) V (hI V hV)
      have B3 := hide fun V hV => implUllage_any _ C (s / 100 * 100) V (hI V hV)
      have B4 := hide fun V hV => implUllage_any _ C (100 * ((C.length : Int) - 1) + 1) V (hI V hV)
      have B5 := hide fun V => implDraftSurvey_any (y10 * 8) (y10 * 8) (y10 * 8) 3 V
      have B6 := hide fun V => implDraftSurvey_any 0 0 5 1 V
      rw [E1] at B1
      rw [E2] at B2
      rw [E3] at B3
      rw [E4] at B4
      rw [ds_same (by omega) (by omega)] at B5
      rw [ds_one] at B6
      dsimp only at B1 B2 B3 B4 B5 B6
      have hml : m = C.length := by
        obtain ⟨a', c', e', -⟩ := hI wr (Below.refl _ _)
        simp only [Value.slice.injEq] at e'
        exact e'.2.1
      subst hml
      obtain ⟨b, o, rfl, hcell⟩ : ∃ b o, a = some ⟨b, o, none⟩ ∧ wr.cell? ⟨b, o + (s / 100).toNat, none⟩ = some (.int .i64 fk) := by
        obtain ⟨a', c', e', -, -, hcc⟩ := hI wr (Below.refl _ _)
        simp only [Value.slice.injEq] at e'
        obtain ⟨rfl, -, rfl⟩ := e'
        obtain ⟨b, o, e, hc⟩ := hcc (s / 100).toNat (by omega)
        exact ⟨b, o, e, by rw [E5]; exact hc⟩
      have HCE := hide hcell
      have ES := hide es
      obtain ⟨q, eq⟩ : ∃ q : Nat, (q : Int) = s / 100 := ⟨(s / 100).toNat, by omega⟩
      have q0 : (s / 100).toNat = q := by omega
      rw [q0] at HCE
      have q1 : s.tdiv 100 = q := by rw [Int.tdiv_eq_ediv_of_nonneg s0, eq]
      have q2 : s / 100 = q := eq.symm
      have q3 : (q : Int) < C.length := by omega
      rw [← eq] at B3
      obtain ⟨hv, eh⟩ : ∃ hv, hv = (s + 100 * ((C.length : Int) - 1)) / 2 := ⟨_, rfl⟩
      have h1v : (s + 100 * ((C.length : Int) - 1)).tdiv 2 = hv := by rw [Int.tdiv_eq_ediv_of_nonneg (by omega), eh]
      have h2v : (s + 100 * ((C.length : Int) - 1)) / 2 = hv := eh.symm
      rw [← eh] at B2
      have HZ := hide (Below.refl wr.heap.size wr)
      have xx : (fk == fk) = true := by simp
      have xy : (3 * (y10 * 8) == 3 * (y10 * 8)) = true := by simp
      have d1 : decide (fv ≤ fu) = true := decide_eq_true f1
      have d2 : decide (fu ≤ fk) = true := decide_eq_true f2
      clear E1 E2 E3 E4 E5 hI es eq eh q0 hcell
      go_wp2_with fail
      refine (unhide HA0 _ (unhide HW)).mono ?_
      rintro e w' ⟨rfl, h9⟩
      have h8 := h9.symm
      subst h8
      clear h9
      go_wp2_with fail
      refine (unhide HA9 _ (unhide HW)).mono ?_
      rintro e w' ⟨rfl, h9⟩
      have h8 := h9.symm
      subst h8
      clear h9
      go_wp2_with fail
      refine (unhide B1 _ (unhide HZ)).mono ?_
      rintro e u1 ⟨rfl, hb⟩
      replace HZ := hide (Below.step (unhide HZ) hb)
      clear hb
      go_wp2_with fail
      refine (unhide B2 _ (unhide HZ)).mono ?_
      rintro e u2 ⟨rfl, hb⟩
      replace HZ := hide (Below.step (unhide HZ) hb)
      clear hb
      go_wp2_with fail
      refine (unhide B3 _ (unhide HZ)).mono ?_
      rintro e u3 ⟨rfl, hb⟩
      replace HZ := hide (Below.step (unhide HZ) hb)
      clear hb
      go_wp2_with fail
      refine (unhide B4 _ (unhide HZ)).mono ?_
      rintro e u4 ⟨rfl, hb⟩
      replace HZ := hide (Below.step (unhide HZ) hb)
      clear hb
      go_wp2_with fail
      refine (unhide HA10 _ (Below.step (unhide HW) (unhide HZ))).mono ?_
      rintro e w' ⟨rfl, h9⟩
      have h8 := h9.symm
      subst h8
      clear h9
      go_wp2_with fail
      refine (unhide B5 _).mono ?_
      rintro e u5 ⟨rfl, hb⟩
      replace HZ := hide (Below.step (unhide HZ) hb)
      clear hb
      go_wp2_with fail
      refine (unhide B6 _).mono ?_
      rintro e u6 ⟨rfl, hb⟩
      replace HZ := hide (Below.step (unhide HZ) hb)
      clear hb
      have g0 := (unhide HZ).cell (lt_of_cell (unhide HCE))
      replace g0 := g0.trans (unhide HCE)
      go_wp2
      go_ret
      exact ⟨rfl, Below.step (unhide HW) (unhide HZ)⟩

end Go.Proofs.Ytfokocpdngokfaa

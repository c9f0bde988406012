/- Bills: contracts of the program's billOk, cmp.Compare, slices.BinarySearchFunc, billAt, slices.BinarySearch, isFreed. Written by wip/mkble.py. -/
import Derived.Test.YtdcbonfhakdhhaaBlX
import Derived.Test.YtdcbonfhakdhhaaBlB
import Derived.Deep.DeepCutAuto
namespace Go.Proofs.Ytdcbonfhakdhhaa
open Go.RowKit

def cmpI (x y : Int) : Int := if x < y then -1 else if y < x then 1 else 0
set_option maxHeartbeats 800000 in
theorem cmpInt_any (x y : Int) (w : World) : Calls Try.prog 78 #[.int .i64 x, .int .i64 y] w fun e w' => e = .returned (.int .i64 (cmpI x y)) ∧ w = w' := by
  have HN : Hid (∀ z W, Calls Try.prog 91 #[.int .i64 z] W fun e w' => e = .returned (.bool false) ∧ W = w') := fun z W => by
    go_enter Try.func91, Try.ntmps91
    go_wp2
    go_ret
    exact ⟨ret_bool (by simp), rfl⟩
  by_cases h1 : x < y
  · rw [cmpI, if_pos h1]
    go_enter Try.func78, Try.ntmps78
    go_wp2_with (go_at_call 91; refine (unhide HN _ _).mono ?_; rintro e w' ⟨rfl, rfl⟩)
    go_ret
    exact ⟨rfl, rfl⟩
  · rw [cmpI, if_neg h1]
    by_cases h2 : y < x
    · rw [if_pos h2]
      go_enter Try.func78, Try.ntmps78
      go_wp2_with (go_at_call 91; refine (unhide HN _ _).mono ?_; rintro e w' ⟨rfl, rfl⟩)
      go_ret
      exact ⟨rfl, rfl⟩
    · rw [if_neg h2]
      go_enter Try.func78, Try.ntmps78
      go_wp2_with (go_at_call 91; refine (unhide HN _ _).mono ?_; rintro e w' ⟨rfl, rfl⟩)
      go_ret
      exact ⟨rfl, rfl⟩


set_option maxHeartbeats 3200000 in
theorem billOk_any (xi : Int) (sh od : ByteArray) (mn : Int) (na : Option Addr) (m nc : Nat) (H : List ByteArray) (w : World) (hN : SIn w (.slice na m nc) H) :
    Calls Try.prog 43 #[vBill xi sh od mn (.slice na m nc)] w fun e w' => e = .returned (.bool (billB (xi, sh, od, mn, H))) ∧ Below w.heap.size w w' := by
  obtain ⟨hm, hc1, hc2⟩ := hN.slice_len
  unfold maxLen at hc2
  have A := Below.alloc1 w (.cells #[.int .i64 xi, .string sh, .string od, .int .i64 mn, .slice na m nc] 40)
  have HR := hide (hN.below A)
  have HX := hide (ownV_alloc w #[.int .i64 xi, .string sh, .string od, .int .i64 mn, .slice na m nc] 40)
  have HW := hide A
  have EM := hide hm
  have EBL : Hid (billB (xi, sh, od, mn, H) = (inB xi 1 1000000 && nameB sh && orB od && inB mn 1 5 && decide ((H.length : Int) = mn) && H.all orB)) := rfl
  have Q1 := hide fun V => within_any xi 1 1000000 V
  have Q2 := hide fun V => isName_any sh V
  have Q3 := hide fun V => isNameOrEmpty_any od V
  have Q4 := hide fun V => isMany_any mn V
  have Q5 := hide fun s V => isNameOrEmpty_any s V
  clear A hN
  unfold vBill
  generalize billB (xi, sh, od, mn, H) = Z at *
  have h8 : decide ((H.length : Int) = mn) = decide ((m : Int) = mn) := by rw [hm]
  rw [h8] at EBL
  clear hm h8
  have hm0 : m ≤ 9223372036854775807 := by omega
  go_enter Try.func43, Try.ntmps43
  go_upto_region 1 with (fail)
  obtain ⟨V1, eV⟩ : ∃ z, z = w.alloc (.cells #[.int .i64 xi, .string sh, .string od, .int .i64 mn, .slice na m nc] 40) := ⟨_, rfl⟩
  rw [← eV] at HW HX HR ⊢
  clear eV
  obtain ⟨gx, egx⟩ : ∃ g, g = w.heap.size := ⟨_, rfl⟩
  rw [← egx] at HX ⊢
  clear egx
  have d0 := (unhide HX).cell (i := 0) rfl
  have d1 := (unhide HX).cell (i := 1) rfl
  have d2 := (unhide HX).cell (i := 2) rfl
  have d3 := (unhide HX).cell (i := 3) rfl
  have d4 := (unhide HX).cell (i := 4) rfl
  go_wp2_with fail
  refine (unhide Q1 _).mono ?_
  rintro e w1 ⟨rfl, h9⟩
  subst h9
  clear Q1
  cases h1 : inB xi 1 1000000 with
  | false =>
    have ez : Z = false := by rw [unhide EBL]; simp [h1]
    go_wp2
    go_ret
    exact ⟨by rw [ez]; rfl, unhide HW⟩
  | true =>
    go_wp2_with fail
    refine (unhide Q2 _).mono ?_
    rintro e w2 ⟨rfl, h9⟩
    subst h9
    clear Q2
    cases h2 : nameB sh with
    | false =>
      have ez : Z = false := by rw [unhide EBL]; simp [h2]
      go_wp2
      go_ret
      exact ⟨by rw [ez]; rfl, unhide HW⟩
    | true =>
      go_wp2_with fail
      refine (unhide Q3 _).mono ?_
      rintro e w3 ⟨rfl, h9⟩
      subst h9
      clear Q3
      cases h3 : orB od with
      | false =>
        have ez : Z = false := by rw [unhide EBL]; simp [h3]
        go_wp2
        go_ret
        exact ⟨by rw [ez]; rfl, unhide HW⟩
      | true =>
        go_wp2_with fail
        refine (unhide Q4 _).mono ?_
        rintro e w4 ⟨rfl, h9⟩
        subst h9
        clear Q4
        cases h4 : inB mn 1 5 with
        | false =>
          have ez : Z = false := by rw [unhide EBL]; simp [h4]
          go_wp2
          go_ret
          exact ⟨by rw [ez]; rfl, unhide HW⟩
        | true =>
          by_cases h7 : (m : Int) = mn
          · have d7 : ((m : Int) != mn) = false := by simp; exact h7
            have h8 : decide ((m : Int) = mn) = true := by simpa using h7
            rw [h1, h2, h3, h4, h8] at EBL
            have HZ : Hid (Z = H.all orB) := by show _ = _; rw [unhide EBL]; simp
            clear h7 h8 EBL h1 h2 h3 h4
            go_wp2
            have hmH := unhide EM
            have hH0 : H.length ≤ 9223372036854775807 := by rw [hmH]; exact hm0
            have HJ0 := hide (unhide HR).cells
            rw [← hmH] at d4 ⊢
            clear hmH
            go_loopg [36] H.length (fun g iv wr => wr = w4 ∧ ∃ j : Nat, j ≤ H.length ∧ g = H.length - j ∧ iv = .int .i64 j ∧ Hid (∀ r, r < j → orB (H.getD r default) = true))
            case atStart => exact ⟨rfl, 0, Nat.zero_le _, rfl, rfl, fun r hr => by omega⟩
            case round =>
              obtain ⟨rfl, j, hj, rfl, rfl, HJ⟩ := hrel
              by_cases hjn : j < H.length
              · obtain ⟨b2, o2, rfl, hcell⟩ := unhide HJ0 j hjn
                have hji : (j : Int) < H.length := by omega
                have HJB : Hid (orB (H.getD j default) = false → Z = false) := fun h => by rw [unhide HZ]; exact all_false hjn h
                have HJN : Hid (orB (H.getD j default) = true → ∀ r, r < j + 1 → orB (H.getD r default) = true) := fun h r hr => by
                  by_cases e : r = j
                  · rw [e]; exact h
                  · exact unhide HJ r (by omega)
                generalize H.getD j default = s at *
                have HNS := hide fun V => unhide Q5 s V
                generalize orB s = z at *
                clear HJ
                go_wp2_with fail
                refine (unhide HNS _).mono ?_
                rintro e w5 ⟨rfl, h9⟩
                subst h9
                clear HNS
                cases z with
                | true =>
                  have HT := hide (unhide HJN (by simp))
                  go_wp2
                  go_roundg (H.length - (j + 1))
                  case measure => omega
                  case rel => exact ⟨rfl, j + 1, by omega, rfl, by go_num, HT⟩
                | false =>
                  have HB := hide (unhide HJB (by simp))
                  go_wp2
                  go_ret
                  exact ⟨by rw [unhide HB]; rfl, unhide HW⟩
              · have HT : Hid (Z = true) := by
                  show _ = _
                  rw [unhide HZ]
                  exact all_true (d := default) fun i hi => unhide HJ i (by omega)
                clear HJ
                go_wp2
                go_ret
                exact ⟨by rw [unhide HT]; rfl, unhide HW⟩
          · have d7 : ((m : Int) != mn) = true := by simp; exact h7
            have h8 : decide ((m : Int) = mn) = false := by simpa using h7
            have ez : Z = false := by rw [unhide EBL]; simp [h8]
            go_wp2
            go_ret
            exact ⟨by rw [ez]; rfl, unhide HW⟩

set_option maxHeartbeats 800000 in
theorem billAt1_any (xi : Int) (sh od : ByteArray) (mn : Int) (hv : Value) (id : Int) (w : World) (hh : ∃ a n c, hv = .slice a n c) :
    Calls Try.prog 77 #[vBill xi sh od mn hv, .int .i64 id] w fun e w' => e = .returned (.int .i64 (cmpI xi id)) ∧ Below w.heap.size w w' := by
  obtain ⟨a, n, c, rfl⟩ := hh
  have HW := hide (Below.alloc1 w (.cells #[.int .i64 xi, .string sh, .string od, .int .i64 mn, .slice a n c] 40))
  have Q1 := hide fun V => cmpInt_any xi id V
  unfold vBill
  go_enter Try.func77, Try.ntmps77
  go_wp2_with fail
  refine (unhide Q1 _).mono ?_
  rintro e w1 ⟨rfl, rfl⟩
  go_wp2
  go_ret
  exact ⟨rfl, unhide HW⟩

theorem cmpI_neg {x y : Int} (h : x < y) : cmpI x y = -1 := by rw [cmpI, if_pos h]
theorem cmpI_nn {x y : Int} (h : ¬ x < y) : 0 ≤ cmpI x y := by rw [cmpI, if_neg h]; split <;> omega
theorem cmpI_eq {x : Int} : cmpI x x = 0 := by simp [cmpI]
theorem cmpI_ne {x y : Int} (h : x ≠ y) : cmpI x y ≠ 0 := by unfold cmpI; split <;> (try split) <;> omega
/-- Where a bill stands, and whether it is there. -/
def atB (L : List BlT) (id : Int) : Bool := decide (plc L id < L.length) && decide (bId L (plc L id) = id)

set_option maxRecDepth 100000 in
set_option maxHeartbeats 3200000 in
theorem bsFunc_any (ao : Option Addr) (m cap : Nat) (L : List BlT) (id : Int) (w : World) (h : BlsIn w (.slice ao m cap) L) (hs : m ≤ 1048576) (ha : ∀ r s, r < s → s < L.length → bId L r < bId L s) :
    Calls Try.prog 76 #[.slice ao m cap, .int .i64 id, .func (.func 77) #[] #[]] w fun e w' => e = .returned (.tuple #[.int .i64 (plc L id : Nat), .bool (atB L id)]) ∧ Below w.heap.size w w' := by
  obtain ⟨hm, hc1, hc2⟩ := h.slice
  unfold maxLen at hc2
  have eg : ∀ args w, (callFunc 77 args).run Try.prog w = .ok (.enter 77 args) w := fun args w => by simp [go_sem]
  have HC := hide h
  have HA := hide ha
  have EM := hide hm
  have Q1 := hide fun xi sh od mn a n c V => billAt1_any xi sh od mn (.slice a n c) id V ⟨a, n, c, rfl⟩
  clear h ha
  unfold vBill at Q1
  obtain ⟨P, eP⟩ : ∃ z, z = plc L id := ⟨_, rfl⟩
  obtain ⟨B, eB⟩ : ∃ z, z = atB L id := ⟨_, rfl⟩
  rw [← eP, ← eB]
  have EP := hide eP
  have EB := hide eB
  clear eP eB hm
  go_enter Try.func76, Try.ntmps76
  go_wp2
  go_loopg [9, 10] m (fun kx s9 s10 wr => ∃ lo hi : Nat, s9 = .int .i64 lo ∧ s10 = .int .i64 hi ∧ lo ≤ hi ∧ hi ≤ m ∧ hi - lo ≤ kx ∧ Hid (Below w.heap.size w wr) ∧ Hid ((∀ t, t < lo → bId L t < id) ∧ (∀ t, hi ≤ t → t < m → id ≤ bId L t)))
  case atStart => exact ⟨0, m, rfl, rfl, Nat.zero_le _, Nat.le_refl _, by omega, Below.refl _ _, ⟨fun t ht => by omega, fun t h1 h2 => by omega⟩⟩
  case round =>
    obtain ⟨lo, hi, rfl, rfl, hlh, hin, hg, HW, HI⟩ := hrel
    by_cases hlt : lo < hi
    · obtain ⟨k, ek⟩ : ∃ k, k = (lo + hi) / 2 := ⟨_, rfl⟩
      have hkm : k < L.length := by rw [unhide EM]; omega
      obtain ⟨bb, o, na, nc, xi, sh, od, mn, H, mm, rfl, hc0, hc1', hc2', hc3, hc4, hr, EX, EMM, hm0⟩ := (unhide HC).at hkm
      have exi : bId L k = xi := by unfold bId; rw [unhide EX]
      have g0 := wcell3 hc0 (unhide HW)
      have g1 := wcell3 hc1' (unhide HW)
      have g2 := wcell3 hc2' (unhide HW)
      have g3 := wcell3 hc3 (unhide HW)
      have g4 := wcell3 hc4 (unhide HW)
      rw [ek] at g0 g1 g2 g3 g4
      have EK := hide ek
      have Q2 := hide fun V => unhide Q1 xi sh od mn na mm nc V
      have HLo : Hid (xi < id → ∀ t, t < k + 1 → bId L t < id) := fun h t ht => by
        by_cases e : t = k
        · rw [e, exi]; exact h
        · have := unhide HA t k (by omega) (by omega)
          omega
      have HHi : Hid (¬ xi < id → ∀ t, k ≤ t → t < m → id ≤ bId L t) := fun h t h1 h2 => by
        by_cases e : t = k
        · rw [e, exi]; omega
        · have := unhide HA k t (by omega) (by rw [unhide EM]; exact h2)
          omega
      clear hc0 hc1' hc2' hc3 hc4 hr EX EMM exi ek
      by_cases hx : xi < id
      · rw [cmpI_neg hx] at Q2
        have HL := hide (unhide HLo hx)
        clear hx HLo HHi
        go_wp2_with fail
        refine (unhide Q2 _).mono ?_
        rintro e w1 ⟨rfl, hb⟩
        replace HW := hide (Below.step (unhide HW) hb)
        clear hb Q2
        go_wp2
        go_roundg (hi - ((lo + hi) / 2 + 1))
        case measure => omega
        case rel => exact ⟨(lo + hi) / 2 + 1, hi, by rw [show ((lo : Int) + (hi : Int)) / 2 + 1 = (((lo + hi) / 2 + 1 : Nat) : Int) by omega], rfl, by omega, hin, Nat.le_refl _, HW, ⟨fun t ht => unhide HL t (by rw [unhide EK]; exact ht), (unhide HI).2⟩⟩
      · have hcc := cmpI_nn hx
        have HL := hide (unhide HHi hx)
        generalize cmpI xi id = cc at *
        have dc : decide (cc < 0) = false := by rw [decide_eq_false_iff_not]; omega
        clear hx HLo HHi
        go_wp2_with fail
        refine (unhide Q2 _).mono ?_
        rintro e w1 ⟨rfl, hb⟩
        replace HW := hide (Below.step (unhide HW) hb)
        clear hb Q2
        go_wp2
        go_roundg ((lo + hi) / 2 - lo)
        case measure => omega
        case rel => exact ⟨lo, (lo + hi) / 2, rfl, by rw [show ((lo : Int) + (hi : Int)) / 2 = (((lo + hi) / 2 : Nat) : Int) by omega], by omega, by omega, Nat.le_refl _, HW, ⟨(unhide HI).1, fun t ht htn => unhide HL t (by rw [unhide EK]; exact ht) htn⟩⟩
    · obtain rfl : hi = lo := by omega
      have hP : P = hi := by
        rw [unhide EP]
        exact plc_mk (by rw [unhide EM]; exact hin) (unhide HI).1 (fun h => (unhide HI).2 hi (Nat.le_refl _) (by rw [← unhide EM]; exact h))
      subst hP
      by_cases hn : P < m
      · obtain ⟨bb, o, na, nc, xi, sh, od, mn, H, mm, rfl, hc0, hc1', hc2', hc3, hc4, hr, EX, EMM, hm0⟩ := (unhide HC).at (k := P) (by rw [unhide EM]; exact hn)
        have exi : bId L P = xi := by unfold bId; rw [unhide EX]
        have hBv : B = decide (xi = id) := by
          rw [unhide EB, atB, ← unhide EP, exi, decide_eq_true (by rw [unhide EM]; exact hn), Bool.true_and]
        have g0 := wcell3 hc0 (unhide HW)
        have g1 := wcell3 hc1' (unhide HW)
        have g2 := wcell3 hc2' (unhide HW)
        have g3 := wcell3 hc3 (unhide HW)
        have g4 := wcell3 hc4 (unhide HW)
        have Q2 := hide fun V => unhide Q1 xi sh od mn na mm nc V
        have hni : (P : Int) < m := by omega
        clear hc0 hc1' hc2' hc3 hc4 hr EX EMM exi
        have HBV := hide hBv
        clear hBv
        by_cases hx : xi = id
        · subst hx
          rw [cmpI_eq] at Q2
          go_wp2_with fail
          refine (unhide Q2 _).mono ?_
          rintro e w1 ⟨rfl, hb⟩
          replace HW := hide (Below.step (unhide HW) hb)
          clear hb Q2
          go_wp2
          go_ret2
          exact ⟨by rw [unhide HBV]; simp, unhide HW⟩
        · have hcc := cmpI_ne hx
          generalize cmpI xi id = cc at *
          have dc : (cc == 0) = false := by simpa using hcc
          have hBf : B = false := by rw [unhide HBV]; simpa using hx
          clear hx hcc
          go_wp2_with fail
          refine (unhide Q2 _).mono ?_
          rintro e w1 ⟨rfl, hb⟩
          replace HW := hide (Below.step (unhide HW) hb)
          clear hb Q2
          go_wp2
          go_ret2
          exact ⟨by first | rfl | (rw [hBf]; rfl), unhide HW⟩
      · have hBf : B = false := by
          rw [unhide EB, atB, ← unhide EP, decide_eq_false (by rw [unhide EM]; exact hn), Bool.false_and]
        have hni : ¬ (P : Int) < m := by omega
        go_wp2
        go_ret2
        exact ⟨by first | rfl | (rw [hBf]; rfl), unhide HW⟩

set_option maxHeartbeats 1600000 in
theorem billAt_any (bv fv : Value) (b : BkT) (id : Int) (w : World) (h : BkIn w bv fv b) (hs : b.1.length ≤ 1048576) (ha : ∀ r s, r < s → s < b.1.length → bId b.1 r < bId b.1 s) :
    Calls Try.prog 45 #[vBook bv fv, .int .i64 id] w fun e w' => e = .returned (.tuple #[.int .i64 (plc b.1 id : Nat), .bool (atB b.1 id)]) ∧ Below w.heap.size w w' := by
  obtain ⟨L, F⟩ := b
  dsimp only at hs ha
  obtain ⟨h, hF⟩ := h
  have h' := h
  obtain ⟨ao, cap, rfl, -⟩ := h'
  obtain ⟨fo, fcap, rfl, -⟩ := hF
  dsimp only at h ⊢
  have A := Below.alloc1 w (.cells #[.slice ao L.length cap, .slice fo F.length fcap] 27)
  have HQ := hide (bsFunc_any ao L.length cap L id _ (h.below A) hs ha)
  have HW := hide A
  clear A h ha
  unfold vBook
  generalize plc L id = P at *
  generalize atB L id = B at *
  go_enter Try.func45, Try.ntmps45
  go_wp2_with fail
  refine (unhide HQ).mono ?_
  rintro e w1 ⟨rfl, hb⟩
  replace HW := hide (Below.step (unhide HW) hb)
  clear hb
  go_wp2
  go_ret2
  exact ⟨rfl, unhide HW⟩

end Go.Proofs.Ytdcbonfhakdhhaa

/- Customs: contracts of cmp.Compare, of the program's find's closure and of slices.BinarySearchFunc at lots. Written by wip/mkcsd.py. -/
import Derived.Test.YtojlkdmlelgcbaaHsB
import Derived.Deep.DeepCutAuto
namespace Go.Proofs.Ytojlkdmlelgcbaa
open Go.RowKit

def cmpI (x y : Int) : Int := if x < y then -1 else if y < x then 1 else 0
set_option maxHeartbeats 800000 in
theorem cmpInt_any (x y : Int) (w : World) : Calls Try.prog 89 #[.int .i64 x, .int .i64 y] w fun e w' => e = .returned (.int .i64 (cmpI x y)) ∧ w = w' := by
  have HN : Hid (∀ z W, Calls Try.prog 97 #[.int .i64 z] W fun e w' => e = .returned (.bool false) ∧ W = w') := fun z W => by
    go_enter Try.func97, Try.ntmps97
    go_wp2
    go_ret
    exact ⟨ret_bool (by simp), rfl⟩
  by_cases h1 : x < y
  · rw [cmpI, if_pos h1]
    go_enter Try.func89, Try.ntmps89
    go_wp2_with (go_at_call 97; refine (unhide HN _ _).mono ?_; rintro e w' ⟨rfl, rfl⟩)
    go_ret
    exact ⟨rfl, rfl⟩
  · rw [cmpI, if_neg h1]
    by_cases h2 : y < x
    · rw [if_pos h2]
      go_enter Try.func89, Try.ntmps89
      go_wp2_with (go_at_call 97; refine (unhide HN _ _).mono ?_; rintro e w' ⟨rfl, rfl⟩)
      go_ret
      exact ⟨rfl, rfl⟩
    · rw [if_neg h2]
      go_enter Try.func89, Try.ntmps89
      go_wp2_with (go_at_call 97; refine (unhide HN _ _).mono ?_; rintro e w' ⟨rfl, rfl⟩)
      go_ret
      exact ⟨rfl, rfl⟩


set_option maxHeartbeats 800000 in
theorem find1_any (x0 x1 x2 x3 x4 x5 x6 : Int) (id : Int) (w : World) :
    Calls Try.prog 88 #[vLot x0 x1 x2 x3 x4 x5 x6, .int .i64 id] w fun e w' => e = .returned (.int .i64 (cmpI x0 id)) ∧ Below w.heap.size w w' := by
  have HW := hide (Below.alloc1 w (.cells #[.int .i64 x0, .int .i64 x1, .int .i64 x2, .int .i64 x3, .int .i64 x4, .int .i64 x5, .int .i64 x6] 39))
  have Q1 := hide fun V => cmpInt_any x0 id V
  unfold vLot
  go_enter Try.func88, Try.ntmps88
  go_wp2_with fail
  refine (unhide Q1 _).mono ?_
  rintro e w1 ⟨rfl, rfl⟩
  go_wp2
  go_ret
  exact ⟨rfl, unhide HW⟩

theorem cmpI_neg {x y : Int} (h : x < y) : cmpI x y = -1 := by rw [cmpI, if_pos h]
theorem cmpI_nn {x y : Int} (h : ¬ x < y) : 0 ≤ cmpI x y := by rw [cmpI, if_neg h]; split <;> omega
theorem cmpI_eq {x : Int} : cmpI x x = 0 := by simp [cmpI]
theorem cmpI_ne {x y : Int} (h : x ≠ y) : cmpI x y ≠ 0 := by unfold cmpI; split <;> (try split) <;> omega
set_option maxRecDepth 100000 in
set_option maxHeartbeats 3200000 in
theorem bsFunc_any (ao : Option Addr) (m cap : Nat) (L : List LotT) (id : Int) (w : World) (h : RLot w (.slice ao m cap) L) (hs : m ≤ 1048576) (ha : ∀ r s, r < s → s < L.length → lId L r < lId L s) :
    Calls Try.prog 87 #[.slice ao m cap, .int .i64 id, .func (.func 88) #[] #[]] w fun e w' => e = .returned (.tuple #[.int .i64 (lplc L id : Nat), .bool (lhas L id)]) ∧ Below w.heap.size w w' := by
  obtain ⟨ao', cap', e, hc1, hc2, h⟩ := h
  simp only [Value.slice.injEq] at e
  obtain ⟨rfl, hm, rfl⟩ := e
  unfold maxLen at hc2
  have eg : ∀ args w, (callFunc 88 args).run Try.prog w = .ok (.enter 88 args) w := fun args w => by simp [go_sem]
  have HC := hide h
  have HA := hide ha
  have EM := hide hm.symm
  have Q1 := hide fun xi x1 x2 x3 x4 x5 x6 V => find1_any xi x1 x2 x3 x4 x5 x6 id V
  clear h ha
  unfold vLot at Q1
  obtain ⟨P, eP⟩ : ∃ z, z = lplc L id := ⟨_, rfl⟩
  obtain ⟨B, eB⟩ : ∃ z, z = lhas L id := ⟨_, rfl⟩
  rw [← eP, ← eB]
  have EP := hide eP
  have EB := hide eB
  replace hc1 : m ≤ cap := by omega
  clear eP eB hm
  go_enter Try.func87, Try.ntmps87
  go_wp2
  go_loopg [9, 10] m (fun kx s9 s10 wr => ∃ lo hi : Nat, s9 = .int .i64 lo ∧ s10 = .int .i64 hi ∧ lo ≤ hi ∧ hi ≤ m ∧ hi - lo ≤ kx ∧ Hid (Below w.heap.size w wr) ∧ Hid ((∀ t, t < lo → lId L t < id) ∧ (∀ t, hi ≤ t → t < m → id ≤ lId L t)))
  case atStart => exact ⟨0, m, rfl, rfl, Nat.zero_le _, Nat.le_refl _, by omega, Below.refl _ _, ⟨fun t ht => by omega, fun t h1 h2 => by omega⟩⟩
  case round =>
    obtain ⟨lo, hi, rfl, rfl, hlh, hin, hg, HW, HI⟩ := hrel
    by_cases hlt : lo < hi
    · obtain ⟨k, ek⟩ : ∃ k, k = (lo + hi) / 2 := ⟨_, rfl⟩
      have hkm : k < L.length := by rw [unhide EM]; omega
      obtain ⟨bb, o, xi, x1, x2, x3, x4, x5, x6, rfl, hc0, hc1', hc2', hc3, hc4, hc5, hc6, EX⟩ := recLotAt (unhide HC) hkm
      have exi : lId L k = xi := by unfold lId; rw [unhide EX]
      have g0 := wcell3 hc0 (unhide HW)
      have g1 := wcell3 hc1' (unhide HW)
      have g2 := wcell3 hc2' (unhide HW)
      have g3 := wcell3 hc3 (unhide HW)
      have g4 := wcell3 hc4 (unhide HW)
      have g5 := wcell3 hc5 (unhide HW)
      have g6 := wcell3 hc6 (unhide HW)
      rw [ek] at g0 g1 g2 g3 g4 g5 g6
      have EK := hide ek
      have Q2 := hide fun V => unhide Q1 xi x1 x2 x3 x4 x5 x6 V
      have HLo : Hid (xi < id → ∀ t, t < k + 1 → lId L t < id) := fun h t ht => by
        by_cases e : t = k
        · rw [e, exi]; exact h
        · have := unhide HA t k (by omega) (by omega)
          omega
      have HHi : Hid (¬ xi < id → ∀ t, k ≤ t → t < m → id ≤ lId L t) := fun h t h1 h2 => by
        by_cases e : t = k
        · rw [e, exi]; omega
        · have := unhide HA k t (by omega) (by rw [unhide EM]; exact h2)
          omega
      clear hc0 hc1' hc2' hc3 hc4 hc5 hc6 EX exi ek
      by_cases hx : xi < id
      · rw [cmpI_neg hx] at Q2
        have HL := hide (unhide HLo hx)
        clear hx HLo HHi
        go_wp2_with fail
        refine (unhide Q2 _).mono ?_
        rintro e w1 ⟨rfl, hb⟩
        replace HW := hide (Below.step (unhide HW) hb)
        clear hb Q2
        go_wp2
        go_roundg (hi - ((lo + hi) / 2 + 1))
        case measure => omega
        case rel => exact ⟨(lo + hi) / 2 + 1, hi, by rw [show ((lo : Int) + (hi : Int)) / 2 + 1 = (((lo + hi) / 2 + 1 : Nat) : Int) by omega], rfl, by omega, hin, Nat.le_refl _, HW, ⟨fun t ht => unhide HL t (by rw [unhide EK]; exact ht), (unhide HI).2⟩⟩
      · have hcc := cmpI_nn hx
        have HL := hide (unhide HHi hx)
        generalize cmpI xi id = cc at *
        have dc : decide (cc < 0) = false := by rw [decide_eq_false_iff_not]; omega
        clear hx HLo HHi
        go_wp2_with fail
        refine (unhide Q2 _).mono ?_
        rintro e w1 ⟨rfl, hb⟩
        replace HW := hide (Below.step (unhide HW) hb)
        clear hb Q2
        go_wp2
        go_roundg ((lo + hi) / 2 - lo)
        case measure => omega
        case rel => exact ⟨lo, (lo + hi) / 2, rfl, by rw [show ((lo : Int) + (hi : Int)) / 2 = (((lo + hi) / 2 : Nat) : Int) by omega], by omega, by omega, Nat.le_refl _, HW, ⟨(unhide HI).1, fun t ht htn => unhide HL t (by rw [unhide EK]; exact ht) htn⟩⟩
    · obtain rfl : hi = lo := by omega
      have hP : P = hi := by
        rw [unhide EP]
        exact lplc_mk (by rw [unhide EM]; exact hin) (unhide HI).1 (fun h => (unhide HI).2 hi (Nat.le_refl _) (by rw [← unhide EM]; exact h))
      subst hP
      by_cases hn : P < m
      · obtain ⟨bb, o, xi, x1, x2, x3, x4, x5, x6, rfl, hc0, hc1', hc2', hc3, hc4, hc5, hc6, EX⟩ := recLotAt (unhide HC) (k := P) (by rw [unhide EM]; exact hn)
        have exi : lId L P = xi := by unfold lId; rw [unhide EX]
        have hBv : B = decide (xi = id) := by
          rw [unhide EB, lhas, ← unhide EP, exi]
          exact decide_eq_decide.2 ⟨fun h => h.2, fun h => ⟨by rw [unhide EM]; exact hn, h⟩⟩
        have g0 := wcell3 hc0 (unhide HW)
        have g1 := wcell3 hc1' (unhide HW)
        have g2 := wcell3 hc2' (unhide HW)
        have g3 := wcell3 hc3 (unhide HW)
        have g4 := wcell3 hc4 (unhide HW)
        have g5 := wcell3 hc5 (unhide HW)
        have g6 := wcell3 hc6 (unhide HW)
        have Q2 := hide fun V => unhide Q1 xi x1 x2 x3 x4 x5 x6 V
        have hni : (P : Int) < m := by omega
        clear hc0 hc1' hc2' hc3 hc4 hc5 hc6 EX exi
        have HBV := hide hBv
        clear hBv
        by_cases hx : xi = id
        · subst hx
          rw [cmpI_eq] at Q2
          go_wp2_with fail
          refine (unhide Q2 _).mono ?_
          rintro e w1 ⟨rfl, hb⟩
          replace HW := hide (Below.step (unhide HW) hb)
          clear hb Q2
          go_wp2
          go_ret2
          exact ⟨by rw [unhide HBV]; simp, unhide HW⟩
        · have hcc := cmpI_ne hx
          generalize cmpI xi id = cc at *
          have dc : (cc == 0) = false := by simpa using hcc
          have hBf : B = false := by rw [unhide HBV]; simpa using hx
          clear hx hcc
          go_wp2_with fail
          refine (unhide Q2 _).mono ?_
          rintro e w1 ⟨rfl, hb⟩
          replace HW := hide (Below.step (unhide HW) hb)
          clear hb Q2
          go_wp2
          go_ret2
          exact ⟨by first | rfl | (rw [hBf]; rfl), unhide HW⟩
      · have hBf : B = false := by
          rw [unhide EB, lhas, ← unhide EP]
          exact decide_eq_false fun h => hn (by rw [← unhide EM]; exact h.1)
        have hni : ¬ (P : Int) < m := by omega
        go_wp2
        go_ret2
        exact ⟨by first | rfl | (rw [hBf]; rfl), unhide HW⟩


end Go.Proofs.Ytojlkdmlelgcbaa

/- Stowage: the specification's Shifts. Written by wip/mksto2.py. -/
import Derived.Test.YtdkfleodgdpckaaStoI
namespace Go.Proofs.Ytdkfleodgdpckaa
open Go.RowKit

set_option maxRecDepth 10000 in
set_option maxHeartbeats 12800000 in
theorem specShifts_any (v : Value) (L : List StowT) (p : Int) (w : World) (h : RStow w v L) :
    Calls Try.prog 33 #[v, .int .i64 p] w fun e w' => ∃ a n cp, e = .returned (.tuple #[.slice a n cp, .bool (shOk L p)]) ∧ OwnSl w.heap.size w' (.slice a n cp) (shV L p) ∧ Below w.heap.size w w' := by
  have HR := hide h
  obtain ⟨ao, cap, rfl, hl, hm, hc⟩ := h
  unfold maxLen at hm
  have HC := hide hc
  clear hc
  have ENo : Hid (shOk L p = false → shV L p = []) := shV_not
  have EOk : Hid (shOk L p = true → shV L p = shL L p L.length) := shV_ok
  have ES : Hid (shOk L p = (decide (L.length ≤ 40) && !twB L && inB p 0 19)) := rfl
  have HN := hide (rowB_new 3 1 e1 w w.heap.size (Nat.le_refl _))
  have HW0 := hide (Below.alloc1 w (.cells #[] 3))
  have QP := hide fun V => l1In_any p 0 19 V
  go_enter Try.func33, Try.ntmps33
  by_cases h40 : 40 < L.length
  · have h40i : (40 : Int) < L.length := by omega
    have E : Hid (shOk L p = false) := by show _ = _; rw [unhide ES]; simp; omega
    have E2 := hide (unhide ENo (unhide E))
    go_wp2
    refine bodyPost_ret (v := .tuple #[.slice (some ⟨w.heap.size, 0, none⟩) 0 0, .bool false]) (by simp [results, Try.results33, go_sem]) rfl ⟨_, 0, 0, by rw [unhide E], by rw [unhide E2]; exact (unhide HN).sl, unhide HW0⟩
  have h40i : ¬ (40 : Int) < L.length := by omega
  have hl40 : L.length ≤ 40 := by omega
  go_wp2_with fail
  refine (unhide QP _).mono ?_
  rintro e w2 ⟨rfl, rfl⟩
  clear QP
  cases hp : inB p 0 19 with
  | false =>
    have E : Hid (shOk L p = false) := by show _ = _; rw [unhide ES, hp]; simp
    have E2 := hide (unhide ENo (unhide E))
    clear hp
    go_wp2
    refine bodyPost_ret (v := .tuple #[.slice (some ⟨w.heap.size, 0, none⟩) 0 0, .bool false]) (by simp [results, Try.results33, go_sem]) rfl ⟨_, 0, 0, by rw [unhide E], by rw [unhide E2]; exact (unhide HN).sl, unhide HW0⟩
  | true =>
  rw [hp] at ES
  clear hp
  obtain ⟨W0, eW⟩ : ∃ W, W = w.alloc (.cells #[] 3) := ⟨_, rfl⟩
  rw [← eW] at HN HW0
  go_wp2
  rw [← eW]
  clear eW
  go_loopg [7] L.length (fun g kv wr => ∃ k : Nat, k ≤ L.length ∧ g = L.length - k ∧ kv = .int .i64 k ∧ Hid (∀ r, r < k → hasB (L.take r) (ssp (stO L r)) = false) ∧ Hid (Below w.heap.size w wr) ∧ Hid (RowB 3 1 e1 w.heap.size wr (some ⟨w.heap.size, 0, none⟩) 0 0 []))
  case atStart => exact ⟨0, Nat.zero_le _, rfl, rfl, fun r hr => by omega, unhide HW0, unhide HN⟩
  case round =>
    clear HN HW0
    obtain ⟨k, hk, rfl, rfl, HA, HW, HN⟩ := hrel
    by_cases hkn : k < L.length
    · have HSF := hide (atV_self hkn)
      have HTW : Hid (hasB (L.take k) (ssp (stO L k)) = true → twB L = true) := twB_hit hkn
      obtain ⟨b, o, n0, wt, cl, co, fr, to, sx, sy, sz, rfl, hc0, hc1, hc2, hc3, hc4, hc5, hc6, hc7, hc8, EX⟩ := recStowAt (unhide HC) hkn
      have g0 := ((unhide HW).cell (lt_of_cell hc0)).trans hc0
      have g1 := ((unhide HW).cell (lt_of_cell hc1)).trans hc1
      have g2 := ((unhide HW).cell (lt_of_cell hc2)).trans hc2
      have g3 := ((unhide HW).cell (lt_of_cell hc3)).trans hc3
      have g4 := ((unhide HW).cell (lt_of_cell hc4)).trans hc4
      have g5 := ((unhide HW).cell (lt_of_cell hc5)).trans hc5
      have g6 := ((unhide HW).cell (lt_of_cell hc6)).trans hc6
      have g7 := ((unhide HW).cell (lt_of_cell hc7)).trans hc7
      have g8 := ((unhide HW).cell (lt_of_cell hc8)).trans hc8
      have ESP : Hid (ssp (stO L k) = (sx, sy, sz)) := by show _ = _; unfold stO; rw [unhide EX]; rfl
      have EBX : Hid (sbx (stO L k) = (n0, wt, cl, co, fr, to)) := by show _ = _; unfold stO; rw [unhide EX]; rfl
      clear hc0 hc1 hc2 hc3 hc4 hc5 hc6 hc7 hc8
      have HA1 : Hid (hasB (L.take k) (ssp (stO L k)) = false → ∀ r, r < k + 1 → hasB (L.take r) (ssp (stO L r)) = false) := fun h r hr => by
        by_cases e : r = k
        · rw [e]; exact h
        · exact unhide HA r (by omega)
      rw [unhide ESP] at HSF HTW HA1
      have QA := hide fun V (hV : RStow V (.slice (some ⟨b, o, none⟩) L.length cap) L) => l12At_any _ L sx sy sz V hV
      unfold v3 at QA
      have hki : (k : Int) < L.length := by omega
      clear EX EBX ESP HA
      generalize hasB (L.take k) (sx, sy, sz) = r at *
      generalize atV L (sx, sy, sz) = a at *
      go_wp2_with fail
      refine (unhide QA _ ((unhide HR).below (unhide HW))).mono ?_
      rintro e w3 ⟨rfl, hb⟩
      replace HW := hide (Below.step (unhide HW) hb)
      replace HN := hide ((unhide HN).below hb)
      clear hb QA
      rcases unhide HSF with ⟨ea, er⟩ | ⟨ea, er⟩
      · replace HA1 := hide (unhide HA1 er)
        have d1 : (a != (k : Int)) = false := by simp [ea]
        have d2 : (a == (k : Int)) = true := by simp [ea]
        clear HSF ea er HTW
        go_wp2
        go_roundg (L.length - (k + 1))
        case measure => omega
        case rel => exact ⟨k + 1, by omega, rfl, by go_num, unhide HA1, unhide HW, unhide HN⟩
      · have E : Hid (shOk L p = false) := by show _ = _; rw [unhide ES, unhide HTW er]; simp
        have E2 := hide (unhide ENo (unhide E))
        have d1 : (a != (k : Int)) = true := by simp [ea]
        have d2 : (a == (k : Int)) = false := by simp [ea]
        have HN2 := hide (rowB_new 3 1 e1 w3 w.heap.size (unhide HW).size)
        clear HSF ea er HTW HA1
        go_wp2
        refine bodyPost_ret (v := .tuple #[.slice (some ⟨w3.heap.size, 0, none⟩) 0 0, .bool false]) (by simp [results, Try.results33, go_sem]) rfl ⟨_, 0, 0, by rw [unhide E], by rw [unhide E2]; exact (unhide HN2).sl, Below.step (unhide HW) (Below.alloc1 _ _)⟩
    · have hki : ¬ (k : Int) < L.length := by omega
      have ETW : Hid (twB L = false) := twB_none (fun r hr => unhide HA r (by omega))
      have E : Hid (shOk L p = true) := by show _ = _; rw [unhide ES, unhide ETW]; simp; omega
      have E2 := hide (unhide EOk (unhide E))
      clear ENo EOk ES HA ETW
      go_wp2
      generalize wr = w5 at *
      go_loopg [6, 8] L.length (fun g ov kv wr => ∃ (k m c : Nat) (ro : Option Addr), k ≤ L.length ∧ g = L.length - k ∧ kv = .int .i64 k ∧ ov = .slice ro m c ∧ m ≤ k ∧ Hid (RowB 3 1 e1 w.heap.size wr ro m c (shL L p k)) ∧ Hid (Below w.heap.size w wr))
      case atStart => exact ⟨0, 0, 0, _, Nat.zero_le _, rfl, rfl, rfl, Nat.le_refl _, unhide HN, unhide HW⟩
      case round =>
        clear HN HW hki hk hkn
        obtain ⟨k, m, c, ro, hk, rfl, rfl, rfl, hmk, HL, HW⟩ := hrel
        by_cases hkn : k < L.length
        · have EH : Hid (shA L p k = true → shL L p (k + 1) = shL L p k ++ [(k : Int)]) := fun h => by rw [shL, if_pos h]
          have EM : Hid (shA L p k = false → shL L p (k + 1) = shL L p k) := fun h => by rw [shL, if_neg (by rw [h]; decide), List.append_nil]
          obtain ⟨b, o, n0, wt, cl, co, fr, to, sx, sy, sz, rfl, hc0, hc1, hc2, hc3, hc4, hc5, hc6, hc7, hc8, EX⟩ := recStowAt (unhide HC) hkn
          have g0 := ((unhide HW).cell (lt_of_cell hc0)).trans hc0
          have g1 := ((unhide HW).cell (lt_of_cell hc1)).trans hc1
          have g2 := ((unhide HW).cell (lt_of_cell hc2)).trans hc2
          have g3 := ((unhide HW).cell (lt_of_cell hc3)).trans hc3
          have g4 := ((unhide HW).cell (lt_of_cell hc4)).trans hc4
          have g5 := ((unhide HW).cell (lt_of_cell hc5)).trans hc5
          have g6 := ((unhide HW).cell (lt_of_cell hc6)).trans hc6
          have g7 := ((unhide HW).cell (lt_of_cell hc7)).trans hc7
          have g8 := ((unhide HW).cell (lt_of_cell hc8)).trans hc8
          have ESP : Hid (ssp (stO L k) = (sx, sy, sz)) := by show _ = _; unfold stO; rw [unhide EX]; rfl
          have EBX : Hid (sbx (stO L k) = (n0, wt, cl, co, fr, to)) := by show _ = _; unfold stO; rw [unhide EX]; rfl
          clear hc0 hc1 hc2 hc3 hc4 hc5 hc6 hc7 hc8
          have ETO : Hid (toS (stO L k) = to) := by show _ = _; unfold toS stO; rw [unhide EX]
          have EA : Hid (shA L p k = (decide (p < to) && iwB L p (sx, sy, sz) L.length)) := by show _ = _; unfold shA; rw [unhide ETO, unhide ESP]
          rw [unhide EA] at EH EM
          have hA := Below.alloc1 wr (.cells #[.string n0, .int .i64 wt, .int .i64 cl, .bool co, .int .i64 fr, .int .i64 to, .int .i64 sx, .int .i64 sy, .int .i64 sz] 44)
          have HX := hide (ownV_alloc wr #[.string n0, .int .i64 wt, .int .i64 cl, .bool co, .int .i64 fr, .int .i64 to, .int .i64 sx, .int .i64 sy, .int .i64 sz] 44)
          have HW1 := hide (Below.step (unhide HW) hA)
          have HL1 := hide ((unhide HL).below hA)
          have EZ : Hid (false = iwB L p (sx, sy, sz) 0) := (iwB_none (fun r hr => by omega)).symm
          have hki : (k : Int) < L.length := by omega
          clear EX EBX ESP hA HW HL EA ETO
          obtain ⟨gx, egx⟩ : ∃ g, g = wr.heap.size := ⟨_, rfl⟩
          rw [← egx] at HX
          have hgx : gx < (wr.alloc (.cells #[.string n0, .int .i64 wt, .int .i64 cl, .bool co, .int .i64 fr, .int .i64 to, .int .i64 sx, .int .i64 sy, .int .i64 sz] 44)).heap.size := (unhide HX).lt
          go_wp2
          rw [← egx]
          clear egx
          generalize wr.alloc (.cells #[.string n0, .int .i64 wt, .int .i64 cl, .bool co, .int .i64 fr, .int .i64 to, .int .i64 sx, .int .i64 sy, .int .i64 sz] 44) = w6 at *
          go_loopg [10, 11] L.length (fun g bv qv wr => ∃ (q : Nat) (ov : Bool), q ≤ L.length ∧ g = L.length - q ∧ qv = .int .i64 q ∧ bv = .bool ov ∧ Hid (ov = iwB L p (sx, sy, sz) q) ∧ Hid (Below w6.heap.size w6 wr) ∧ Hid (OwnV wr gx [.string n0, .int .i64 wt, .int .i64 cl, .bool co, .int .i64 fr, .int .i64 to, .int .i64 sx, .int .i64 sy, .int .i64 sz]))
          case atStart => exact ⟨0, false, Nat.zero_le _, rfl, rfl, rfl, unhide EZ, Below.refl _ _, unhide HX⟩
          case round =>
            clear EZ HX
            obtain ⟨q, ov, hq, rfl, rfl, rfl, EI, HW2, HX2⟩ := hrel
            by_cases hqn : q < L.length
            · have EST := hide (iwB_step (L := L) (p := p) (s := (sx, sy, sz)) (n := q))
              have HWq := hide (Below.step (unhide HW1) (unhide HW2))
              obtain ⟨b', o', n0', wt', cl', co', fr', to', sx', sy', sz', eBO, hc0, hc1, hc2, hc3, hc4, hc5, hc6, hc7, hc8, EX'⟩ := recStowAt (unhide HC) hqn
              simp only [Option.some.injEq, Addr.mk.injEq, and_true] at eBO
              obtain ⟨rfl, rfl⟩ := eBO
              have e0 := ((unhide HWq).cell (lt_of_cell hc0)).trans hc0
              have e1 := ((unhide HWq).cell (lt_of_cell hc1)).trans hc1
              have e2 := ((unhide HWq).cell (lt_of_cell hc2)).trans hc2
              have e3 := ((unhide HWq).cell (lt_of_cell hc3)).trans hc3
              have e4 := ((unhide HWq).cell (lt_of_cell hc4)).trans hc4
              have e5 := ((unhide HWq).cell (lt_of_cell hc5)).trans hc5
              have e6 := ((unhide HWq).cell (lt_of_cell hc6)).trans hc6
              have e7 := ((unhide HWq).cell (lt_of_cell hc7)).trans hc7
              have e8 := ((unhide HWq).cell (lt_of_cell hc8)).trans hc8
              have ESP' : Hid (ssp (stO L q) = (sx', sy', sz')) := by show _ = _; unfold stO; rw [unhide EX']; rfl
              have EBX' : Hid (sbx (stO L q) = (n0', wt', cl', co', fr', to')) := by show _ = _; unfold stO; rw [unhide EX']; rfl
              clear hc0 hc1 hc2 hc3 hc4 hc5 hc6 hc7 hc8
              have EO : Hid (onB L p (sx, sy, sz) q = decide (to' = p ∧ sx = sx' ∧ sy = sy' ∧ sz' < sz)) := by show _ = _; unfold onB toS; rw [unhide ESP']; unfold stO; rw [unhide EX']
              rw [unhide EO] at EST
              have hA := Below.alloc1 wr (.cells #[.string n0', .int .i64 wt', .int .i64 cl', .bool co', .int .i64 fr', .int .i64 to', .int .i64 sx', .int .i64 sy', .int .i64 sz'] 44)
              replace HW2 := hide (Below.step (unhide HW2) hA)
              replace HX2 := hide ((unhide HX2).step hA)
              have y6 := (unhide HX2).cell (i := 6) rfl
              have y7 := (unhide HX2).cell (i := 7) rfl
              have y8 := (unhide HX2).cell (i := 8) rfl
              have hqi : (q : Int) < L.length := by omega
              clear EX' EBX' ESP' hA EO HWq
              cases ov with
              | true =>
                have EI1 : Hid (true = iwB L p (sx, sy, sz) (q + 1)) := by show _ = _; rw [unhide EST, ← unhide EI]; rfl
                clear EI EST
                go_wp2
                go_roundg (L.length - (q + 1))
                case measure => omega
                case rel => exact ⟨q + 1, true, by omega, rfl, by go_num, rfl, unhide EI1, unhide HW2, unhide HX2⟩
              | false =>
                have EST2 : Hid (iwB L p (sx, sy, sz) (q + 1) = decide (to' = p ∧ sx = sx' ∧ sy = sy' ∧ sz' < sz)) := by show _ = _; rw [unhide EST, ← unhide EI]; rfl
                clear EI EST
                by_cases t1 : to' = p
                case neg =>
                  have d1 : (to' == p) = false := by simp [t1]
                  have f1 : decide (to' = p) = false := by simp [t1]
                  have EI1 : Hid (false = iwB L p (sx, sy, sz) (q + 1)) := by show _ = _; rw [unhide EST2]; simp [t1]
                  clear EST2 t1
                  go_wp2
                  go_roundg (L.length - (q + 1))
                  case measure => omega
                  case rel => exact ⟨q + 1, false, by omega, rfl, by go_num, rfl, unhide EI1, unhide HW2, unhide HX2⟩
                have d1 : (to' == p) = true := by simp [t1]
                have f1 : decide (to' = p) = true := by simp [t1]
                by_cases t2 : sx' = sx
                case neg =>
                  have d2 : (sx' == sx) = false := by simp [t2]
                  have f2 : decide (sx' = sx) = false := by simp [t2]
                  have EI1 : Hid (false = iwB L p (sx, sy, sz) (q + 1)) := by show _ = _; rw [unhide EST2]; symm; rw [decide_eq_false_iff_not]; exact fun h => t2 h.2.1.symm
                  clear EST2 t1 t2
                  go_wp2
                  go_roundg (L.length - (q + 1))
                  case measure => omega
                  case rel => exact ⟨q + 1, false, by omega, rfl, by go_num, rfl, unhide EI1, unhide HW2, unhide HX2⟩
                have d2 : (sx' == sx) = true := by simp [t2]
                have f2 : decide (sx' = sx) = true := by simp [t2]
                by_cases t3 : sy' = sy
                case neg =>
                  have d3 : (sy' == sy) = false := by simp [t3]
                  have f3 : decide (sy' = sy) = false := by simp [t3]
                  have EI1 : Hid (false = iwB L p (sx, sy, sz) (q + 1)) := by show _ = _; rw [unhide EST2]; symm; rw [decide_eq_false_iff_not]; exact fun h => t3 h.2.2.1.symm
                  clear EST2 t1 t2 t3
                  go_wp2
                  go_roundg (L.length - (q + 1))
                  case measure => omega
                  case rel => exact ⟨q + 1, false, by omega, rfl, by go_num, rfl, unhide EI1, unhide HW2, unhide HX2⟩
                have d3 : (sy' == sy) = true := by simp [t3]
                have f3 : decide (sy' = sy) = true := by simp [t3]
                have EI1 : Hid (decide (sz' < sz) = iwB L p (sx, sy, sz) (q + 1)) := by show _ = _; rw [unhide EST2, decide_eq_decide]; exact ⟨fun h => ⟨t1, t2.symm, t3.symm, h⟩, fun h => h.2.2.2⟩
                clear EST2 t1 t2 t3
                go_wp2
                go_roundg (L.length - (q + 1))
                case measure => omega
                case rel => exact ⟨q + 1, _, by omega, rfl, by go_num, rfl, unhide EI1, unhide HW2, unhide HX2⟩
            · have hqi : ¬ (q : Int) < L.length := by omega
              have EI2 : Hid (ov = iwB L p (sx, sy, sz) L.length) := by
                have h := unhide EI
                rw [show q = L.length by omega] at h
                exact h
              rw [← unhide EI2] at EH EM
              have HW3 := hide (Below.step (unhide HW1) (unhide HW2))
              have HL3 := hide ((unhide HL1).below (unhide HW2))
              have x5 := (unhide HX2).cell (i := 5) rfl
              clear EI EI2 HW1 HL1 HW2
              cases ov with
              | false =>
                rw [Bool.and_false] at EM
                replace EM := hide (unhide EM rfl)
                clear EH
                go_wp2
                go_roundg (L.length - (k + 1))
                case measure => omega
                case rel => exact ⟨k + 1, m, c, ro, by omega, rfl, by go_num, rfl, by omega, by rw [unhide EM]; exact unhide HL3, unhide HW3⟩
              | true =>
                by_cases ht : p < to
                · have f1 : decide (p < to) = true := by simp [ht]
                  rw [f1] at EH
                  replace EH := hide (unhide EH rfl)
                  have hA2 := Below.alloc1 wr (.cells #[.int .i64 (k : Int)] 3)
                  have HG := hide (ownV_alloc wr #[.int .i64 (k : Int)] 3)
                  replace HW3 := hide (Below.step (unhide HW3) hA2)
                  replace HL3 := hide ((unhide HL3).below hA2)
                  have hws := (unhide HW3).size
                  clear EM hA2
                  go_wp2_with (at_builtin; go_must (refine wpList_appRow tyInt _ rfl _ _ rfl w.heap.size ro m c (shL L p k) rfl (unhide HL3) hws (by omega) wr.heap.size (k : Int) 1 rfl (unhide HG) ?_); intro g' cap' w4 hL hK hBg hat; have HL2 := hide hL; have HK := hide hK; clear hL hK hat)
                  go_roundg (L.length - (k + 1))
                  case measure => omega
                  case rel =>
                    refine ⟨k + 1, m + 1, cap', _, by omega, rfl, by go_num, rfl, by omega, ?_, onRow_below (unhide HW3) (unhide HL3) (by decide) hws (unhide HK)⟩
                    rw [unhide EH]
                    exact unhide HL2
                · have f1 : decide (p < to) = false := by simp; omega
                  rw [f1] at EM
                  replace EM := hide (unhide EM rfl)
                  clear EH
                  go_wp2
                  go_roundg (L.length - (k + 1))
                  case measure => omega
                  case rel => exact ⟨k + 1, m, c, ro, by omega, rfl, by go_num, rfl, by omega, by rw [unhide EM]; exact unhide HL3, unhide HW3⟩
        · have hki : ¬ (k : Int) < L.length := by omega
          have HL1 : Hid (OwnSl w.heap.size wr (.slice ro m c) (shV L p)) := by
            have h := (unhide HL).sl
            rw [show k = L.length by omega] at h
            rw [unhide E2]
            exact h
          clear HL
          go_wp2
          refine bodyPost_ret (v := .tuple #[.slice ro m c, .bool true]) (by simp [results, Try.results33, go_sem]) rfl ⟨ro, m, c, by rw [unhide E], unhide HL1, unhide HW⟩

end Go.Proofs.Ytdkfleodgdpckaa

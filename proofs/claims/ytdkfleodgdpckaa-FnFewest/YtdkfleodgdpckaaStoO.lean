/- Stowage: overstows counted: the program's. Written by wip/mksto2.py. -/
import Derived.Test.YtdkfleodgdpckaaStoN
import Derived.Test.YtdkfleodgdpckaaStoI
namespace Go.Proofs.Ytdkfleodgdpckaa
open Go.RowKit

set_option maxRecDepth 10000 in
set_option maxHeartbeats 12800000 in
theorem overstows_any (v : Value) (L : List StowT) (w : World) (h : RStow w v L) (hl40 : L.length ≤ 40) :
    Calls Try.prog 78 #[v] w fun e w' => e = .returned (.int .i64 (over L : Int)) ∧ Below w.heap.size w w' := by
  obtain ⟨ao, cap, rfl, hl, hm, hc⟩ := h
  unfold maxLen at hm
  have HC := hide hc
  clear hc
  have EOV : Hid (over L = ovS L L.length) := rfl
  go_enter Try.func78, Try.ntmps78
  go_wp2
  go_loopg [3, 10] L.length (fun g nv iv wr => ∃ (i n : Nat), i ≤ L.length ∧ g = L.length - i ∧ iv = .int .i64 i ∧ nv = .int .i64 (n : Int) ∧ n ≤ i * 40 ∧ Hid (n = ovS L i) ∧ Hid (Below w.heap.size w wr))
  case atStart => exact ⟨0, 0, Nat.zero_le _, rfl, rfl, rfl, Nat.zero_le _, rfl, Below.refl _ _⟩
  case round =>
    obtain ⟨i, n, hi, rfl, rfl, rfl, hn, EN, HW⟩ := hrel
    by_cases hin : i < L.length
    · have hii : (i : Int) < L.length := by omega
      have ES : Hid (ovS L (i + 1) = n + cntTo (ovB L i) L.length) := by show _ = _; rw [ovS, ← unhide EN]
      obtain ⟨b, o, n0, wt, cl, co, fr, to, sx, sy, sz, rfl, hc0, hc1, hc2, hc3, hc4, hc5, hc6, hc7, hc8, EX⟩ := recStowAt (unhide HC) hin
      have g0 := ((unhide HW).cell (lt_of_cell hc0)).trans hc0
      have g1 := ((unhide HW).cell (lt_of_cell hc1)).trans hc1
      have g2 := ((unhide HW).cell (lt_of_cell hc2)).trans hc2
      have g3 := ((unhide HW).cell (lt_of_cell hc3)).trans hc3
      have g4 := ((unhide HW).cell (lt_of_cell hc4)).trans hc4
      have g5 := ((unhide HW).cell (lt_of_cell hc5)).trans hc5
      have g6 := ((unhide HW).cell (lt_of_cell hc6)).trans hc6
      have g7 := ((unhide HW).cell (lt_of_cell hc7)).trans hc7
      have g8 := ((unhide HW).cell (lt_of_cell hc8)).trans hc8
      have ESP : Hid (ssp (stO L i) = (sx, sy, sz)) := by show _ = _; unfold stO; rw [unhide EX]; rfl
      have EBX : Hid (sbx (stO L i) = (n0, wt, cl, co, fr, to)) := by show _ = _; unfold stO; rw [unhide EX]; rfl
      clear hc0 hc1 hc2 hc3 hc4 hc5 hc6 hc7 hc8
      have ETO : Hid (toS (stO L i) = to) := by show _ = _; unfold toS stO; rw [unhide EX]
      have hA := Below.alloc1 wr (.cells #[.string n0, .int .i64 wt, .int .i64 cl, .bool co, .int .i64 fr, .int .i64 to, .int .i64 sx, .int .i64 sy, .int .i64 sz] 44)
      have HX := hide (ownV_alloc wr #[.string n0, .int .i64 wt, .int .i64 cl, .bool co, .int .i64 fr, .int .i64 to, .int .i64 sx, .int .i64 sy, .int .i64 sz] 44)
      have HW1 := hide (Below.step (unhide HW) hA)
      clear EN EX EBX hA HW
      obtain ⟨gx, egx⟩ : ∃ g, g = wr.heap.size := ⟨_, rfl⟩
      rw [← egx] at HX
      go_wp2
      rw [← egx]
      clear egx
      generalize wr.alloc (.cells #[.string n0, .int .i64 wt, .int .i64 cl, .bool co, .int .i64 fr, .int .i64 to, .int .i64 sx, .int .i64 sy, .int .i64 sz] 44) = w2 at *
      go_loopg [3, 16] L.length (fun g nv qv wr => ∃ (q c : Nat), q ≤ L.length ∧ g = L.length - q ∧ qv = .int .i64 q ∧ nv = .int .i64 (c : Int) ∧ c ≤ i * 40 + q ∧ Hid (c = n + cntTo (ovB L i) q) ∧ Hid (Below w.heap.size w wr) ∧ Hid (OwnV wr gx [.string n0, .int .i64 wt, .int .i64 cl, .bool co, .int .i64 fr, .int .i64 to, .int .i64 sx, .int .i64 sy, .int .i64 sz]))
      case atStart => exact ⟨0, n, Nat.zero_le _, rfl, rfl, rfl, hn, rfl, unhide HW1, unhide HX⟩
      case round =>
        clear HW1 HX
        obtain ⟨q, c, hq, rfl, rfl, rfl, hc, EC, HW, HX⟩ := hrel
        by_cases hqn : q < L.length
        · have HH : Hid (ovB L i q = true → c + 1 = n + cntTo (ovB L i) (q + 1)) := fun h => by rw [cntTo_hit h, unhide EC]; omega
          have HM : Hid (ovB L i q = false → c = n + cntTo (ovB L i) (q + 1)) := fun h => by rw [cntTo_miss h, unhide EC]
          obtain ⟨b', o', n0', wt', cl', co', fr', to', sx', sy', sz', eBO, hc0, hc1, hc2, hc3, hc4, hc5, hc6, hc7, hc8, EX'⟩ := recStowAt (unhide HC) hqn
          simp only [Option.some.injEq, Addr.mk.injEq, and_true] at eBO
          obtain ⟨rfl, rfl⟩ := eBO
          have e0 := ((unhide HW).cell (lt_of_cell hc0)).trans hc0
          have e1 := ((unhide HW).cell (lt_of_cell hc1)).trans hc1
          have e2 := ((unhide HW).cell (lt_of_cell hc2)).trans hc2
          have e3 := ((unhide HW).cell (lt_of_cell hc3)).trans hc3
          have e4 := ((unhide HW).cell (lt_of_cell hc4)).trans hc4
          have e5 := ((unhide HW).cell (lt_of_cell hc5)).trans hc5
          have e6 := ((unhide HW).cell (lt_of_cell hc6)).trans hc6
          have e7 := ((unhide HW).cell (lt_of_cell hc7)).trans hc7
          have e8 := ((unhide HW).cell (lt_of_cell hc8)).trans hc8
          have ESP' : Hid (ssp (stO L q) = (sx', sy', sz')) := by show _ = _; unfold stO; rw [unhide EX']; rfl
          have EBX' : Hid (sbx (stO L q) = (n0', wt', cl', co', fr', to')) := by show _ = _; unfold stO; rw [unhide EX']; rfl
          clear hc0 hc1 hc2 hc3 hc4 hc5 hc6 hc7 hc8
          have ETO' : Hid (toS (stO L q) = to') := by show _ = _; unfold toS stO; rw [unhide EX']
          have EO : Hid (ovB L i q = decide (sx = sx' ∧ sy = sy' ∧ sz' < sz ∧ to' < to)) := by show _ = _; unfold ovB; rw [unhide ESP, unhide ESP', unhide ETO, unhide ETO']
          rw [unhide EO] at HH HM
          have hqi : (q : Int) < L.length := by omega
          have hA := Below.alloc1 wr (.cells #[.string n0', .int .i64 wt', .int .i64 cl', .bool co', .int .i64 fr', .int .i64 to', .int .i64 sx', .int .i64 sy', .int .i64 sz'] 44)
          have HW1 := hide (Below.step (unhide HW) hA)
          have HX1 := hide ((unhide HX).step hA)
          have x5 := (unhide HX1).cell (i := 5) rfl
          have x6 := (unhide HX1).cell (i := 6) rfl
          have x7 := (unhide HX1).cell (i := 7) rfl
          have x8 := (unhide HX1).cell (i := 8) rfl
          clear EX' EBX' ESP' ETO' EO EC hA HW HX
          by_cases ht : to' < to
          · have f1 : decide (to' < to) = true := by simp [ht]
            have ET : Hid (decide (sx = sx' ∧ sy = sy' ∧ sz' < sz ∧ to' < to) = decide (sx = sx' ∧ sy = sy' ∧ sz' < sz)) := by show _ = _; simp [ht]
            rw [unhide ET] at HH HM
            have QT := hide fun V => isOnTopOf_any sx sy sz sx' sy' sz' V
            unfold v3 at QT
            clear ET
            generalize decide (sx = sx' ∧ sy = sy' ∧ sz' < sz) = r at *
            go_wp2_with fail
            refine (unhide QT _).mono ?_
            rintro e w3 ⟨rfl, hb⟩
            replace HW1 := hide (Below.step (unhide HW1) hb)
            replace HX1 := hide ((unhide HX1).step hb)
            clear hb QT x5 x6 x7 x8
            cases r with
            | true =>
              replace HH := hide (unhide HH rfl)
              clear HM
              go_wp2
              go_roundg (L.length - (q + 1))
              case measure => omega
              case rel => exact ⟨q + 1, c + 1, by omega, rfl, by go_num, by go_num, by omega, unhide HH, unhide HW1, unhide HX1⟩
            | false =>
              replace HM := hide (unhide HM rfl)
              clear HH
              go_wp2
              go_roundg (L.length - (q + 1))
              case measure => omega
              case rel => exact ⟨q + 1, c, by omega, rfl, by go_num, rfl, by omega, unhide HM, unhide HW1, unhide HX1⟩
          · have f1 : decide (to' < to) = false := by simp; omega
            replace HM := hide (unhide HM (by rw [decide_eq_false_iff_not]; exact fun h => ht h.2.2.2))
            clear HH
            go_wp2
            go_roundg (L.length - (q + 1))
            case measure => omega
            case rel => exact ⟨q + 1, c, by omega, rfl, by go_num, rfl, by omega, unhide HM, unhide HW1, unhide HX1⟩
        · have hqi : ¬ (q : Int) < L.length := by omega
          have EC2 : Hid (c = ovS L (i + 1)) := by
            have h := unhide EC
            rw [show q = L.length by omega] at h
            rw [unhide ES]
            exact h
          clear EC ES
          go_wp2
          go_roundg (L.length - (i + 1))
          case measure => omega
          case rel => exact ⟨i + 1, c, by omega, rfl, by go_num, rfl, by omega, unhide EC2, unhide HW⟩
    · have hii : ¬ (i : Int) < L.length := by omega
      have EN2 : Hid (n = over L) := by
        have h := unhide EN
        rw [show i = L.length by omega] at h
        rw [unhide EOV]
        exact h
      clear EN EOV
      go_wp2
      go_ret
      exact ⟨by rw [← unhide EN2]; rfl, unhide HW⟩

end Go.Proofs.Ytdkfleodgdpckaa

/- Stowage: overstows counted: the specification's. Written by wip/mksto2.py. -/
import Derived.Test.YtdkfleodgdpckaaStoN
import Derived.Test.YtdkfleodgdpckaaStoI
namespace Go.Proofs.Ytdkfleodgdpckaa
open Go.RowKit

set_option maxRecDepth 10000 in
set_option maxHeartbeats 12800000 in
theorem l12Over_any (v : Value) (L : List StowT) (w : World) (h : RStow w v L) (hl40 : L.length ≤ 40) :
    Calls Try.prog 113 #[v] w fun e w' => e = .returned (.int .i64 (over L : Int)) ∧ Below w.heap.size w w' := by
  obtain ⟨ao, cap, rfl, hl, hm, hc⟩ := h
  unfold maxLen at hm
  have HC := hide hc
  clear hc
  have EOV : Hid (over L = ovS L L.length) := rfl
  go_enter Try.func113, Try.ntmps113
  go_wp2
  go_loopg [3, 4] L.length (fun g nv iv wr => ∃ (i n : Nat), i ≤ L.length ∧ g = L.length - i ∧ iv = .int .i64 i ∧ nv = .int .i64 (n : Int) ∧ n ≤ i * 40 ∧ Hid (n = ovS L i) ∧ Hid (Below w.heap.size w wr))
  case atStart => exact ⟨0, 0, Nat.zero_le _, rfl, rfl, rfl, Nat.zero_le _, rfl, Below.refl _ _⟩
  case round =>
    obtain ⟨i, n, hi, rfl, rfl, rfl, hn, EN, HW⟩ := hrel
    by_cases hin : i < L.length
    · have hii : (i : Int) < L.length := by omega
      have ES : Hid (ovS L (i + 1) = n + cntTo (ovB L i) L.length) := by show _ = _; rw [ovS, ← unhide EN]
      clear EN
      go_wp2
      generalize wr = w2 at *
      go_loopg [3, 5] L.length (fun g nv qv wr => ∃ (q c : Nat), q ≤ L.length ∧ g = L.length - q ∧ qv = .int .i64 q ∧ nv = .int .i64 (c : Int) ∧ c ≤ i * 40 + q ∧ Hid (c = n + cntTo (ovB L i) q) ∧ Hid (Below w.heap.size w wr))
      case atStart => exact ⟨0, n, Nat.zero_le _, rfl, rfl, rfl, hn, rfl, unhide HW⟩
      case round =>
        clear HW
        obtain ⟨q, c, hq, rfl, rfl, rfl, hc, EC, HW⟩ := hrel
        by_cases hqn : q < L.length
        · have HH : Hid (ovB L i q = true → c + 1 = n + cntTo (ovB L i) (q + 1)) := fun h => by rw [cntTo_hit h, unhide EC]; omega
          have HM : Hid (ovB L i q = false → c = n + cntTo (ovB L i) (q + 1)) := fun h => by rw [cntTo_miss h, unhide EC]
          obtain ⟨b, o, n0, wt, cl, co, fr, to, sx, sy, sz, rfl, hc0, hc1, hc2, hc3, hc4, hc5, hc6, hc7, hc8, EX⟩ := recStowAt (unhide HC) hin
          have g0 := ((unhide HW).cell (lt_of_cell hc0)).trans hc0
          have g1 := ((unhide HW).cell (lt_of_cell hc1)).trans hc1
          have g2 := ((unhide HW).cell (lt_of_cell hc2)).trans hc2
          have g3 := ((unhide HW).cell (lt_of_cell hc3)).trans hc3
          have g4 := ((unhide HW).cell (lt_of_cell hc4)).trans hc4
          have g5 := ((unhide HW).cell (lt_of_cell hc5)).trans hc5
          have g6 := ((unhide HW).cell (lt_of_cell hc6)).trans hc6
          have g7 := ((unhide HW).cell (lt_of_cell hc7)).trans hc7
          have g8 := ((unhide HW).cell (lt_of_cell hc8)).trans hc8
          have ESP : Hid (ssp (stO L i) = (sx, sy, sz)) := by show _ = _; unfold stO; rw [unhide EX]; rfl
          have EBX : Hid (sbx (stO L i) = (n0, wt, cl, co, fr, to)) := by show _ = _; unfold stO; rw [unhide EX]; rfl
          clear hc0 hc1 hc2 hc3 hc4 hc5 hc6 hc7 hc8
          obtain ⟨b', o', n0', wt', cl', co', fr', to', sx', sy', sz', eBO, hc0, hc1, hc2, hc3, hc4, hc5, hc6, hc7, hc8, EX'⟩ := recStowAt (unhide HC) hqn
          simp only [Option.some.injEq, Addr.mk.injEq, and_true] at eBO
          obtain ⟨rfl, rfl⟩ := eBO
          have e0 := ((unhide HW).cell (lt_of_cell hc0)).trans hc0
          have e1 := ((unhide HW).cell (lt_of_cell hc1)).trans hc1
          have e2 := ((unhide HW).cell (lt_of_cell hc2)).trans hc2
          have e3 := ((unhide HW).cell (lt_of_cell hc3)).trans hc3
          have e4 := ((unhide HW).cell (lt_of_cell hc4)).trans hc4
          have e5 := ((unhide HW).cell (lt_of_cell hc5)).trans hc5
          have e6 := ((unhide HW).cell (lt_of_cell hc6)).trans hc6
          have e7 := ((unhide HW).cell (lt_of_cell hc7)).trans hc7
          have e8 := ((unhide HW).cell (lt_of_cell hc8)).trans hc8
          have ESP' : Hid (ssp (stO L q) = (sx', sy', sz')) := by show _ = _; unfold stO; rw [unhide EX']; rfl
          have EBX' : Hid (sbx (stO L q) = (n0', wt', cl', co', fr', to')) := by show _ = _; unfold stO; rw [unhide EX']; rfl
          clear hc0 hc1 hc2 hc3 hc4 hc5 hc6 hc7 hc8
          have ETO : Hid (toS (stO L i) = to) := by show _ = _; unfold toS stO; rw [unhide EX]
          have ETO' : Hid (toS (stO L q) = to') := by show _ = _; unfold toS stO; rw [unhide EX']
          have EO : Hid (ovB L i q = decide (sx = sx' ∧ sy = sy' ∧ sz' < sz ∧ to' < to)) := by show _ = _; unfold ovB; rw [unhide ESP, unhide ESP', unhide ETO, unhide ETO']
          rw [unhide EO] at HH HM
          have hqi : (q : Int) < L.length := by omega
          have qz0 : ∀ o1, (wr.alloc o1).cell? ⟨b, o + i * 9, none⟩ = some (.string n0) := fun o1 => ((Below.alloc1 wr o1).cell (lt_of_cell g0)).trans g0
          have qy0 : ∀ o1 o2, ((wr.alloc o1).alloc o2).cell? ⟨b, o + i * 9, none⟩ = some (.string n0) := fun o1 o2 => ((Below.step (Below.alloc1 wr o1) (Below.alloc1 _ o2)).cell (lt_of_cell g0)).trans g0
          have qz1 : ∀ o1, (wr.alloc o1).cell? ⟨b, o + i * 9 + 1, none⟩ = some (.int .i64 wt) := fun o1 => ((Below.alloc1 wr o1).cell (lt_of_cell g1)).trans g1
          have qy1 : ∀ o1 o2, ((wr.alloc o1).alloc o2).cell? ⟨b, o + i * 9 + 1, none⟩ = some (.int .i64 wt) := fun o1 o2 => ((Below.step (Below.alloc1 wr o1) (Below.alloc1 _ o2)).cell (lt_of_cell g1)).trans g1
          have qz2 : ∀ o1, (wr.alloc o1).cell? ⟨b, o + i * 9 + 2, none⟩ = some (.int .i64 cl) := fun o1 => ((Below.alloc1 wr o1).cell (lt_of_cell g2)).trans g2
          have qy2 : ∀ o1 o2, ((wr.alloc o1).alloc o2).cell? ⟨b, o + i * 9 + 2, none⟩ = some (.int .i64 cl) := fun o1 o2 => ((Below.step (Below.alloc1 wr o1) (Below.alloc1 _ o2)).cell (lt_of_cell g2)).trans g2
          have qz3 : ∀ o1, (wr.alloc o1).cell? ⟨b, o + i * 9 + 3, none⟩ = some (.bool co) := fun o1 => ((Below.alloc1 wr o1).cell (lt_of_cell g3)).trans g3
          have qy3 : ∀ o1 o2, ((wr.alloc o1).alloc o2).cell? ⟨b, o + i * 9 + 3, none⟩ = some (.bool co) := fun o1 o2 => ((Below.step (Below.alloc1 wr o1) (Below.alloc1 _ o2)).cell (lt_of_cell g3)).trans g3
          have qz4 : ∀ o1, (wr.alloc o1).cell? ⟨b, o + i * 9 + 4, none⟩ = some (.int .i64 fr) := fun o1 => ((Below.alloc1 wr o1).cell (lt_of_cell g4)).trans g4
          have qy4 : ∀ o1 o2, ((wr.alloc o1).alloc o2).cell? ⟨b, o + i * 9 + 4, none⟩ = some (.int .i64 fr) := fun o1 o2 => ((Below.step (Below.alloc1 wr o1) (Below.alloc1 _ o2)).cell (lt_of_cell g4)).trans g4
          have qz5 : ∀ o1, (wr.alloc o1).cell? ⟨b, o + i * 9 + 5, none⟩ = some (.int .i64 to) := fun o1 => ((Below.alloc1 wr o1).cell (lt_of_cell g5)).trans g5
          have qy5 : ∀ o1 o2, ((wr.alloc o1).alloc o2).cell? ⟨b, o + i * 9 + 5, none⟩ = some (.int .i64 to) := fun o1 o2 => ((Below.step (Below.alloc1 wr o1) (Below.alloc1 _ o2)).cell (lt_of_cell g5)).trans g5
          have qz6 : ∀ o1, (wr.alloc o1).cell? ⟨b, o + i * 9 + 6, none⟩ = some (.int .i64 sx) := fun o1 => ((Below.alloc1 wr o1).cell (lt_of_cell g6)).trans g6
          have qy6 : ∀ o1 o2, ((wr.alloc o1).alloc o2).cell? ⟨b, o + i * 9 + 6, none⟩ = some (.int .i64 sx) := fun o1 o2 => ((Below.step (Below.alloc1 wr o1) (Below.alloc1 _ o2)).cell (lt_of_cell g6)).trans g6
          have qz7 : ∀ o1, (wr.alloc o1).cell? ⟨b, o + i * 9 + 7, none⟩ = some (.int .i64 sy) := fun o1 => ((Below.alloc1 wr o1).cell (lt_of_cell g7)).trans g7
          have qy7 : ∀ o1 o2, ((wr.alloc o1).alloc o2).cell? ⟨b, o + i * 9 + 7, none⟩ = some (.int .i64 sy) := fun o1 o2 => ((Below.step (Below.alloc1 wr o1) (Below.alloc1 _ o2)).cell (lt_of_cell g7)).trans g7
          have qz8 : ∀ o1, (wr.alloc o1).cell? ⟨b, o + i * 9 + 8, none⟩ = some (.int .i64 sz) := fun o1 => ((Below.alloc1 wr o1).cell (lt_of_cell g8)).trans g8
          have qy8 : ∀ o1 o2, ((wr.alloc o1).alloc o2).cell? ⟨b, o + i * 9 + 8, none⟩ = some (.int .i64 sz) := fun o1 o2 => ((Below.step (Below.alloc1 wr o1) (Below.alloc1 _ o2)).cell (lt_of_cell g8)).trans g8
          have rz0 : ∀ o1, (wr.alloc o1).cell? ⟨b, o + q * 9, none⟩ = some (.string n0') := fun o1 => ((Below.alloc1 wr o1).cell (lt_of_cell e0)).trans e0
          have ry0 : ∀ o1 o2, ((wr.alloc o1).alloc o2).cell? ⟨b, o + q * 9, none⟩ = some (.string n0') := fun o1 o2 => ((Below.step (Below.alloc1 wr o1) (Below.alloc1 _ o2)).cell (lt_of_cell e0)).trans e0
          have rz1 : ∀ o1, (wr.alloc o1).cell? ⟨b, o + q * 9 + 1, none⟩ = some (.int .i64 wt') := fun o1 => ((Below.alloc1 wr o1).cell (lt_of_cell e1)).trans e1
          have ry1 : ∀ o1 o2, ((wr.alloc o1).alloc o2).cell? ⟨b, o + q * 9 + 1, none⟩ = some (.int .i64 wt') := fun o1 o2 => ((Below.step (Below.alloc1 wr o1) (Below.alloc1 _ o2)).cell (lt_of_cell e1)).trans e1
          have rz2 : ∀ o1, (wr.alloc o1).cell? ⟨b, o + q * 9 + 2, none⟩ = some (.int .i64 cl') := fun o1 => ((Below.alloc1 wr o1).cell (lt_of_cell e2)).trans e2
          have ry2 : ∀ o1 o2, ((wr.alloc o1).alloc o2).cell? ⟨b, o + q * 9 + 2, none⟩ = some (.int .i64 cl') := fun o1 o2 => ((Below.step (Below.alloc1 wr o1) (Below.alloc1 _ o2)).cell (lt_of_cell e2)).trans e2
          have rz3 : ∀ o1, (wr.alloc o1).cell? ⟨b, o + q * 9 + 3, none⟩ = some (.bool co') := fun o1 => ((Below.alloc1 wr o1).cell (lt_of_cell e3)).trans e3
          have ry3 : ∀ o1 o2, ((wr.alloc o1).alloc o2).cell? ⟨b, o + q * 9 + 3, none⟩ = some (.bool co') := fun o1 o2 => ((Below.step (Below.alloc1 wr o1) (Below.alloc1 _ o2)).cell (lt_of_cell e3)).trans e3
          have rz4 : ∀ o1, (wr.alloc o1).cell? ⟨b, o + q * 9 + 4, none⟩ = some (.int .i64 fr') := fun o1 => ((Below.alloc1 wr o1).cell (lt_of_cell e4)).trans e4
          have ry4 : ∀ o1 o2, ((wr.alloc o1).alloc o2).cell? ⟨b, o + q * 9 + 4, none⟩ = some (.int .i64 fr') := fun o1 o2 => ((Below.step (Below.alloc1 wr o1) (Below.alloc1 _ o2)).cell (lt_of_cell e4)).trans e4
          have rz5 : ∀ o1, (wr.alloc o1).cell? ⟨b, o + q * 9 + 5, none⟩ = some (.int .i64 to') := fun o1 => ((Below.alloc1 wr o1).cell (lt_of_cell e5)).trans e5
          have ry5 : ∀ o1 o2, ((wr.alloc o1).alloc o2).cell? ⟨b, o + q * 9 + 5, none⟩ = some (.int .i64 to') := fun o1 o2 => ((Below.step (Below.alloc1 wr o1) (Below.alloc1 _ o2)).cell (lt_of_cell e5)).trans e5
          have rz6 : ∀ o1, (wr.alloc o1).cell? ⟨b, o + q * 9 + 6, none⟩ = some (.int .i64 sx') := fun o1 => ((Below.alloc1 wr o1).cell (lt_of_cell e6)).trans e6
          have ry6 : ∀ o1 o2, ((wr.alloc o1).alloc o2).cell? ⟨b, o + q * 9 + 6, none⟩ = some (.int .i64 sx') := fun o1 o2 => ((Below.step (Below.alloc1 wr o1) (Below.alloc1 _ o2)).cell (lt_of_cell e6)).trans e6
          have rz7 : ∀ o1, (wr.alloc o1).cell? ⟨b, o + q * 9 + 7, none⟩ = some (.int .i64 sy') := fun o1 => ((Below.alloc1 wr o1).cell (lt_of_cell e7)).trans e7
          have ry7 : ∀ o1 o2, ((wr.alloc o1).alloc o2).cell? ⟨b, o + q * 9 + 7, none⟩ = some (.int .i64 sy') := fun o1 o2 => ((Below.step (Below.alloc1 wr o1) (Below.alloc1 _ o2)).cell (lt_of_cell e7)).trans e7
          have rz8 : ∀ o1, (wr.alloc o1).cell? ⟨b, o + q * 9 + 8, none⟩ = some (.int .i64 sz') := fun o1 => ((Below.alloc1 wr o1).cell (lt_of_cell e8)).trans e8
          have ry8 : ∀ o1 o2, ((wr.alloc o1).alloc o2).cell? ⟨b, o + q * 9 + 8, none⟩ = some (.int .i64 sz') := fun o1 o2 => ((Below.step (Below.alloc1 wr o1) (Below.alloc1 _ o2)).cell (lt_of_cell e8)).trans e8
          clear EX EX' EBX EBX' ESP ESP' ETO ETO' EO EC
          by_cases t0 : sx = sx'
          case neg =>
            have d0 : (sx == sx') = false := by simp [t0]
            have f0 : decide (sx = sx') = false := by simp [t0]
            replace HM := hide (unhide HM (by rw [decide_eq_false_iff_not]; exact fun h => t0 h.1))
            clear HH
            go_wp2
            go_region
            all_goals (
              go_wp2
              go_roundg (L.length - (q + 1))
              case measure => omega
              case rel => exact ⟨q + 1, c, by omega, rfl, by go_num, rfl, by omega, unhide HM, (Below.step (Below.step (unhide HW) (Below.alloc1 _ _)) (Below.alloc1 _ _)).drew⟩)
          have d0 : (sx == sx') = true := by simp [t0]
          have f0 : decide (sx = sx') = true := by simp [t0]
          by_cases t1 : sy = sy'
          case neg =>
            have d1 : (sy == sy') = false := by simp [t1]
            have f1 : decide (sy = sy') = false := by simp [t1]
            replace HM := hide (unhide HM (by rw [decide_eq_false_iff_not]; exact fun h => t1 h.2.1))
            clear HH
            go_wp2
            go_region
            all_goals (
              go_wp2
              go_roundg (L.length - (q + 1))
              case measure => omega
              case rel => exact ⟨q + 1, c, by omega, rfl, by go_num, rfl, by omega, unhide HM, (Below.step (Below.step (unhide HW) (Below.alloc1 _ _)) (Below.alloc1 _ _)).drew⟩)
          have d1 : (sy == sy') = true := by simp [t1]
          have f1 : decide (sy = sy') = true := by simp [t1]
          by_cases t2 : sz' < sz
          case neg =>
            have f2 : decide (sz' < sz) = false := by simp; omega
            replace HM := hide (unhide HM (by rw [decide_eq_false_iff_not]; exact fun h => t2 h.2.2.1))
            clear HH
            go_wp2
            go_region
            all_goals (
              go_wp2
              go_roundg (L.length - (q + 1))
              case measure => omega
              case rel => exact ⟨q + 1, c, by omega, rfl, by go_num, rfl, by omega, unhide HM, (Below.step (Below.step (unhide HW) (Below.alloc1 _ _)) (Below.alloc1 _ _)).drew⟩)
          have f2 : decide (sz' < sz) = true := by simp [t2]
          by_cases t3 : to' < to
          case neg =>
            have f3 : decide (to' < to) = false := by simp; omega
            replace HM := hide (unhide HM (by rw [decide_eq_false_iff_not]; exact fun h => t3 h.2.2.2))
            clear HH
            go_wp2
            go_region
            all_goals (
              go_wp2
              go_roundg (L.length - (q + 1))
              case measure => omega
              case rel => exact ⟨q + 1, c, by omega, rfl, by go_num, rfl, by omega, unhide HM, (Below.step (Below.step (unhide HW) (Below.alloc1 _ _)) (Below.alloc1 _ _)).drew⟩)
          have f3 : decide (to' < to) = true := by simp [t3]
          replace HH := hide (unhide HH (by rw [decide_eq_true_iff]; exact ⟨t0, t1, t2, t3⟩))
          clear HM
          go_wp2
          go_region
          all_goals (
            go_wp2
            go_roundg (L.length - (q + 1))
            case measure => omega
            case rel => exact ⟨q + 1, c + 1, by omega, rfl, by go_num, by go_num, by omega, unhide HH, (Below.step (Below.step (unhide HW) (Below.alloc1 _ _)) (Below.alloc1 _ _)).drew⟩)
        · have hqi : ¬ (q : Int) < L.length := by omega
          have EC2 : Hid (c = ovS L (i + 1)) := by
            have h := unhide EC
            rw [show q = L.length by omega] at h
            rw [unhide ES]
            exact h
          clear EC ES
          go_wp2
          go_roundg (L.length - (i + 1))
          case measure => omega
          case rel => exact ⟨i + 1, c, by omega, rfl, by go_num, rfl, by omega, unhide EC2, unhide HW⟩
    · have hii : ¬ (i : Int) < L.length := by omega
      have EN2 : Hid (n = over L) := by
        have h := unhide EN
        rw [show i = L.length by omega] at h
        rw [unhide EOV]
        exact h
      clear EN EOV
      go_wp2
      go_ret
      exact ⟨by rw [← unhide EN2]; rfl, unhide HW⟩

end Go.Proofs.Ytdkfleodgdpckaa

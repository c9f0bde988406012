/- Contracts of the specification's l10Split and RestCode. -/
import Derived.Test.YtblkbonedgofiaaEnB
namespace Go.Proofs.Ytblkbonedgofiaa
open Go.RowKit

set_option maxRecDepth 10000 in
set_option maxHeartbeats 4000000 in
theorem l10Split_any (v : Value) (L : List I2) (a b : Int) (w : World) (h : R2 w v L) (hS : Sp L) (ha0 : 0 ≤ a) (ha1 : a ≤ 100000000) (hb0 : 0 ≤ b) (hb1 : b ≤ 100000000) :
    Calls Try.prog 54 #[v, .int .i64 a, .int .i64 b] w fun e w' => e = .returned (.bool (splitB L a b)) ∧ Below w.heap.size w w' := by
  obtain ⟨ao, cap, rfl, hl, hm, hc⟩ := h
  unfold maxLen at hm
  have HC := hide hc
  have HS := hide hS
  have hn := hS.1
  clear hc hS
  go_enter Try.func54, Try.ntmps54
  go_wp2
  go_loopg [7, 8] L.length (fun g fv i wr => Hid (Below w.heap.size w wr) ∧ ∃ (k : Nat) (f : Int), k ≤ L.length ∧ g = L.length - k ∧ i = .int .i64 k ∧ fv = .int .i64 f ∧ Hid (SpI L a b k f))
  case atStart => exact ⟨Below.refl _ _, 0, a, Nat.zero_le _, rfl, rfl, rfl, SpI.start ha1⟩
  case round =>
    obtain ⟨HW, k, f, hk, rfl, rfl, rfl, HI⟩ := hrel
    have hf0 := (unhide HI).lo
    have hf1 := (unhide HI).hi
    by_cases hkn : k < L.length
    · obtain ⟨b1, o, x, y, rfl, hx, hy, EX⟩ := rec2At (unhide HC) hkn
      have g0 := ((unhide HW).cell (lt_of_cell hx)).trans hx
      have g1 := ((unhide HW).cell (lt_of_cell hy)).trans hy
      have hki : (k : Int) < L.length := by omega
      have EF : Hid (fr L k = x) := by show _ = _; unfold fr; rw [unhide EX]
      have ET : Hid (tw L k = y) := by show _ = _; unfold tw; rw [unhide EX]
      obtain ⟨hx0, hxy, hy1, -⟩ := (unhide HS).2 k hkn
      rw [unhide EF] at hx0 hxy
      rw [unhide ET] at hxy hy1
      clear hx hy EX
      by_cases h1 : y ≤ a
      · have HN : Hid (SpI L a b (k + 1) f) := (unhide HI).pass (by rw [unhide ET]; exact h1)
        go_wp2
        go_roundg (L.length - (k + 1))
        case measure => omega
        case rel => exact ⟨unhide HW, k + 1, f, by omega, rfl, by go_num, rfl, HN⟩
      · by_cases h2 : b ≤ x
        · have HF : Hid (splitB L a b = decide (360 ≤ b - f)) := (unhide HI).done fun j h3 h4 => by
            by_cases e : j = k
            · rw [e, unhide EF]; exact h2
            · have h5 := (unhide HS).chain (i := k) (j := j) (by omega) h4
              rw [unhide ET] at h5
              omega
          go_wp2
          go_ret
          exact ⟨ret_bool (unhide HF).symm, unhide HW⟩
        · by_cases h3 : 360 ≤ x - f
          · have HF : Hid (splitB L a b = true) := (unhide HI).found (unhide HS) hkn (by rw [unhide EF]; omega) (by rw [unhide EF]; exact h3)
            go_wp2
            go_ret
            exact ⟨ret_bool (unhide HF).symm, unhide HW⟩
          · have HN : Hid (SpI L a b (k + 1) y) := by
              have := (unhide HI).next (unhide HS) hkn (by rw [unhide ET]; omega) (by rw [unhide EF]; omega)
              rw [unhide ET] at this
              exact this
            go_wp2
            go_roundg (L.length - (k + 1))
            case measure => omega
            case rel => exact ⟨unhide HW, k + 1, y, by omega, rfl, by go_num, rfl, HN⟩
    · have HF : Hid (splitB L a b = decide (360 ≤ b - f)) := (unhide HI).done fun j h3 h4 => by omega
      go_wp2
      go_ret
      exact ⟨ret_bool (unhide HF).symm, unhide HW⟩

theorem restV_not {L : List I2} {u : Int} (h : ¬ watchOk L u) : restV L u = (1, -1) := if_neg h
theorem ret_two {p : Int × Int} {a b : Int} (h : p = (a, b)) : Ending.returned (.tuple #[.int .i64 a, .int .i64 b]) = Ending.returned (.tuple #[.int .i64 p.1, .int .i64 p.2]) := by rw [h]

set_option maxRecDepth 10000 in
set_option maxHeartbeats 8000000 in
theorem specRestCode_any (v : Value) (L : List I2) (u : Int) (w : World) (h : R2 w v L) :
    Calls Try.prog 34 #[v, .int .i64 u] w fun e w' => e = .returned (.tuple #[.int .i64 (restV L u).1, .int .i64 (restV L u).2]) ∧ Below w.heap.size w w' := by
  have HV := hide h
  obtain ⟨ao, cap, rfl, hl, hm, hc⟩ := h
  unfold maxLen at hm
  have HC := hide hc
  clear hc
  have HQ := hide fun V (hV : Below w.heap.size w V) => specSpellsOk_any _ L V ((unhide HV).below hV)
  have HK := hide fun a b V (hV : Below w.heap.size w V) hS => l10Work_any _ L a b V ((unhide HV).below hV) hS
  have HP := hide fun a b V (hV : Below w.heap.size w V) hS => l10Split_any _ L a b V ((unhide HV).below hV) hS
  cases hsp : spB L with
  | false =>
    rw [hsp] at HQ
    have HF : Hid (restV L u = (1, -1)) := restV_not fun h => spB_not hsp h.1
    clear hsp
    go_enter Try.func34, Try.ntmps34
    go_wp2_with fail
    refine (unhide HQ _ (Below.refl _ _)).mono ?_
    rintro e w1 ⟨rfl, hb1⟩
    have HW := hide hb1
    clear hb1
    go_wp2
    go_loopg [6, 7] 0 (fun _ bv i wr => wr = w1 ∧ bv = .bool true ∧ i = .int .i64 0)
    case atStart => exact ⟨rfl, rfl, rfl⟩
    case round =>
      obtain ⟨rfl, rfl, rfl⟩ := hrel
      go_wp2
      all_goals refine bodyPost_ret (v := .tuple #[.int .i64 1, .int .i64 (-1)]) (by simp [results, Try.results34, go_sem]) rfl ⟨ret_two (unhide HF), unhide HW⟩
  | true =>
    rw [hsp] at HQ
    have HS := hide (spB_iff.1 hsp)
    clear hsp
    have Q1 := hide fun V => l1In_any u 0 30000 V
    cases hu : inB u 0 30000 with
    | false =>
      rw [hu] at Q1
      have HF : Hid (restV L u = (1, -1)) := restV_not fun h => by
        have : ¬ (0 ≤ u ∧ u ≤ 30000) := by simpa [inB] using hu
        exact this ⟨h.2.1, h.2.2.1⟩
      clear hu
      go_enter Try.func34, Try.ntmps34
      go_wp2_with fail
      refine (unhide HQ _ (Below.refl _ _)).mono ?_
      rintro e w1 ⟨rfl, hb1⟩
      have HW := hide hb1
      clear hb1
      go_wp2_with fail
      refine (unhide Q1 _).mono ?_
      rintro e w' ⟨rfl, h9⟩
      have h8 := h9.symm
      subst h8
      clear h9
      go_wp2
      go_loopg [6, 7] 0 (fun _ bv i wr => wr = w1 ∧ bv = .bool true ∧ i = .int .i64 0)
      case atStart => exact ⟨rfl, rfl, rfl⟩
      case round =>
        obtain ⟨rfl, rfl, rfl⟩ := hrel
        go_wp2
        all_goals refine bodyPost_ret (v := .tuple #[.int .i64 1, .int .i64 (-1)]) (by simp [results, Try.results34, go_sem]) rfl ⟨ret_two (unhide HF), unhide HW⟩
    | true =>
      rw [hu] at Q1
      have hu2 : 0 ≤ u ∧ u ≤ 30000 := by simpa [inB] using hu
      obtain ⟨hu0, hu1⟩ := hu2
      clear hu
      go_enter Try.func34, Try.ntmps34
      go_wp2_with fail
      refine (unhide HQ _ (Below.refl _ _)).mono ?_
      rintro e w1 ⟨rfl, hb1⟩
      have HW1 := hide hb1
      clear hb1
      go_wp2_with fail
      refine (unhide Q1 _).mono ?_
      rintro e w' ⟨rfl, h9⟩
      have h8 := h9.symm
      subst h8
      clear h9
      go_wp2
      go_loopg [6, 7] (L.length + 1) (fun g bv i wr => Hid (Below w.heap.size w wr) ∧ ∃ (k : Nat) (bb : Bool), k ≤ L.length ∧ g = L.length + 1 - k ∧ i = .int .i64 k ∧ bv = .bool bb ∧ (bb = true → Hid (restV L u = (1, -1))) ∧ (bb = false → Hid (∀ r, r < k → tw L r ≤ 30000)))
      case atStart => exact ⟨unhide HW1, 0, false, Nat.zero_le _, rfl, rfl, rfl, (fun h => by cases h), fun _ r hr => by omega⟩
      case round =>
        clear HW1
        obtain ⟨HW, k, bb, hk, rfl, rfl, rfl, H1, H2⟩ := hrel
        cases bb with
        | true =>
          have HF := H1 rfl
          clear H1 H2
          by_cases hkn : k < L.length
          · have hki : (k : Int) < L.length := by omega
            go_wp2
            refine bodyPost_ret (v := .tuple #[.int .i64 1, .int .i64 (-1)]) (by simp [results, Try.results34, go_sem]) rfl ⟨ret_two (unhide HF), unhide HW⟩
          · have hki : ¬ (k : Int) < L.length := by omega
            go_wp2
            refine bodyPost_ret (v := .tuple #[.int .i64 1, .int .i64 (-1)]) (by simp [results, Try.results34, go_sem]) rfl ⟨ret_two (unhide HF), unhide HW⟩
        | false =>
          have HD := H2 rfl
          clear H1 H2
          by_cases hkn : k < L.length
          · obtain ⟨b1, o, x, y, rfl, hx, hy, EX⟩ := rec2At (unhide HC) hkn
            have g1 := ((unhide HW).cell (lt_of_cell hy)).trans hy
            have hki : (k : Int) < L.length := by omega
            have ET : Hid (tw L k = y) := by show _ = _; unfold tw; rw [unhide EX]
            clear hx hy EX
            have HX1 : Hid (decide (30000 < y) = true → restV L u = (1, -1)) := fun h => restV_not fun h' => by
              have := h'.2.2.2 k hkn
              rw [unhide ET] at this
              simp at h
              omega
            have HX2 : Hid (decide (30000 < y) = false → ∀ r, r < k + 1 → tw L r ≤ 30000) := fun h r hr => by
              by_cases e : r = k
              · rw [e, unhide ET]; simp at h; exact h
              · exact (unhide HD) r (by omega)
            go_wp2
            go_roundg (L.length + 1 - (k + 1))
            case measure => omega
            case rel => exact ⟨unhide HW, k + 1, _, by omega, rfl, by go_num, rfl, fun h => unhide HX1 h, fun h => unhide HX2 h⟩
          · obtain rfl : k = L.length := by omega
            have HO := hide (show watchOk L u from ⟨unhide HS, hu0, hu1, unhide HD⟩)
            clear HD
            have HW2 := HW
            go_wp2
            by_cases hu3 : u < 1440
            · have HF := hide (restV_early (unhide HO) hu3)
              go_loopg [8] 0 (fun _ i wr => Hid (Below w.heap.size w wr) ∧ i = .int .i64 1440)
              case atStart => exact ⟨unhide HW2, rfl⟩
              case round =>
                clear HW2
                obtain ⟨HW3, rfl⟩ := hrel
                go_wp2
                refine bodyPost_ret (v := .tuple #[.int .i64 0, .int .i64 (-1)]) (by simp [results, Try.results34, go_sem]) rfl ⟨ret_two (unhide HF), unhide HW3⟩
            · have HR := hide (restV_from (unhide HO) (by omega))
              go_loopg [8] (u - 1439).toNat (fun g i wr => Hid (Below w.heap.size w wr) ∧ ∃ t : Int, 1440 ≤ t ∧ t ≤ u + 1 ∧ g = (u + 1 - t).toNat ∧ i = .int .i64 t ∧ Hid (restV L u = firstF (faultC L) t (u + 1 - t).toNat))
              case atStart => exact ⟨unhide HW2, 1440, by omega, by omega, by rw [show u + 1 - 1440 = u - 1439 by omega], rfl, by show _ = _; rw [unhide HR, show (u + 1 - 1440).toNat = (u - 1439).toNat by omega]⟩
              case round =>
                clear HW2 HR
                obtain ⟨HW3, t, ht0, ht1, rfl, rfl, HN⟩ := hrel
                by_cases htu : t ≤ u
                case neg =>
                  have HF : Hid (restV L u = (0, -1)) := by
                    show _ = _
                    rw [unhide HN, show (u + 1 - t).toNat = 0 by omega]; rfl
                  go_wp2
                  refine bodyPost_ret (v := .tuple #[.int .i64 0, .int .i64 (-1)]) (by simp [results, Try.results34, go_sem]) rfl ⟨ret_two (unhide HF), unhide HW3⟩
                case pos =>
                  have HNOW : Hid (faultC L t ≠ 0 → restV L u = (faultC L t, t)) := fun h => by rw [unhide HN]; exact firstF_now h (by omega)
                  have HNX : Hid (faultC L t = 0 → restV L u = firstF (faultC L) (t + 1) (u + 1 - (t + 1)).toNat) := fun h => by
                    rw [unhide HN, firstF_next h (by omega), show (u + 1 - t).toNat - 1 = (u + 1 - (t + 1)).toNat by omega]
                  have EFT : Hid (faultC L t = if 840 < wk L (t - 1440) t L.length then 2 else if 10080 ≤ t ∧ 5460 < wk L (t - 10080) t L.length then 3 else if splitB L (t - 1440) t = false then 4 else 0) := by show _ = _; rw [faultC, if_neg (by omega)]
                  generalize faultC L t = FC at HNOW HNX EFT
                  clear HN
                  have HA := hide (unhide HK (t - 1440) t)
                  have HB := hide (unhide HK (t - 10080) t)
                  have HSP := hide (unhide HP (t - 1440) t)
                  generalize wk L (t - 1440) t L.length = A at HA EFT
                  generalize wk L (t - 10080) t L.length = B at HB EFT
                  generalize splitB L (t - 1440) t = PP at HSP EFT
                  go_wp2_with fail
                  refine (unhide HA _ (unhide HW3) (unhide HS) (by omega) (by omega) (by omega) (by omega)).mono ?_
                  rintro e w2 ⟨rfl, hb⟩
                  replace HW3 := hide (Below.step (unhide HW3) hb)
                  clear hb
                  by_cases hA : 840 < A
                  · have HF : Hid (restV L u = (2, t)) := by
                      have e : FC = 2 := by rw [unhide EFT, if_pos hA]
                      have := unhide HNOW (by rw [e]; omega)
                      rw [e] at this
                      exact this
                    go_wp2
                    refine bodyPost_ret (v := .tuple #[.int .i64 2, .int .i64 t]) (by simp [results, Try.results34, go_sem]) rfl ⟨ret_two (unhide HF), unhide HW3⟩
                  have EFT2 : Hid (FC = if 10080 ≤ t ∧ 5460 < B then 3 else if PP = false then 4 else 0) := by show _ = _; rw [unhide EFT, if_neg hA]
                  clear EFT
                  have HEND : Hid (∀ V, Below w.heap.size w V → (10080 ≤ t ∧ 5460 < B → False) → Calls Try.prog 54 #[.slice ao L.length cap, .int .i64 (t - 1440), .int .i64 t] V fun e w' => e = .returned (.bool PP) ∧ Below V.heap.size V w') := fun V hV _ => unhide HSP V hV (unhide HS) (by omega) (by omega) (by omega) (by omega)
                  by_cases h1 : 10080 ≤ t
                  · go_wp2_with fail
                    refine (unhide HB _ (unhide HW3) (unhide HS) (by omega) (by omega) (by omega) (by omega)).mono ?_
                    rintro e w3 ⟨rfl, hb⟩
                    replace HW3 := hide (Below.step (unhide HW3) hb)
                    clear hb
                    by_cases hB : 5460 < B
                    · have HF : Hid (restV L u = (3, t)) := by
                        have e : FC = 3 := by rw [unhide EFT2, if_pos ⟨h1, hB⟩]
                        have := unhide HNOW (by rw [e]; omega)
                        rw [e] at this
                        exact this
                      go_wp2
                      refine bodyPost_ret (v := .tuple #[.int .i64 3, .int .i64 t]) (by simp [results, Try.results34, go_sem]) rfl ⟨ret_two (unhide HF), unhide HW3⟩
                    have EF3 : Hid (FC = if PP = false then 4 else 0) := by show _ = _; rw [unhide EFT2, if_neg (fun h => hB h.2)]
                    clear EFT2
                    go_wp2_with fail
                    refine (unhide HEND _ (unhide HW3) (fun h => by omega)).mono ?_
                    rintro e w4 ⟨rfl, hb⟩
                    replace HW3 := hide (Below.step (unhide HW3) hb)
                    clear hb
                    cases PP with
                    | false =>
                      have HF : Hid (restV L u = (4, t)) := by
                        have e : FC = 4 := by rw [unhide EF3, if_pos rfl]
                        have := unhide HNOW (by rw [e]; omega)
                        rw [e] at this
                        exact this
                      go_wp2
                      refine bodyPost_ret (v := .tuple #[.int .i64 4, .int .i64 t]) (by simp [results, Try.results34, go_sem]) rfl ⟨ret_two (unhide HF), unhide HW3⟩
                    | true =>
                      have HF := hide (unhide HNX (by rw [unhide EF3]; rfl))
                      go_wp2
                      go_roundg (u + 1 - (t + 1)).toNat
                      case measure => omega
                      case rel => exact ⟨unhide HW3, t + 1, by omega, by omega, rfl, by go_num, unhide HF⟩
                  · have EF3 : Hid (FC = if PP = false then 4 else 0) := by show _ = _; rw [unhide EFT2, if_neg (fun h => h1 h.1)]
                    clear EFT2
                    go_wp2_with fail
                    refine (unhide HEND _ (unhide HW3) (fun h => by omega)).mono ?_
                    rintro e w4 ⟨rfl, hb⟩
                    replace HW3 := hide (Below.step (unhide HW3) hb)
                    clear hb
                    cases PP with
                    | false =>
                      have HF : Hid (restV L u = (4, t)) := by
                        have e : FC = 4 := by rw [unhide EF3, if_pos rfl]
                        have := unhide HNOW (by rw [e]; omega)
                        rw [e] at this
                        exact this
                      go_wp2
                      refine bodyPost_ret (v := .tuple #[.int .i64 4, .int .i64 t]) (by simp [results, Try.results34, go_sem]) rfl ⟨ret_two (unhide HF), unhide HW3⟩
                    | true =>
                      have HF := hide (unhide HNX (by rw [unhide EF3]; rfl))
                      go_wp2
                      go_roundg (u + 1 - (t + 1)).toNat
                      case measure => omega
                      case rel => exact ⟨unhide HW3, t + 1, by omega, by omega, rfl, by go_num, unhide HF⟩

end Go.Proofs.Ytblkbonedgofiaa

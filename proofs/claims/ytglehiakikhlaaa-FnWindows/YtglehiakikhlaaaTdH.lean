/- Contract of the specification's WindowFor. -/
import Derived.Test.YtglehiakikhlaaaTdG
namespace Go.Proofs.Ytglehiakikhlaaa
open Go.RowKit

def wfAt (p : I2) (f : Int) : Int := if p.1 < f then f else p.1
def wfGo (L : List I2) (f m : Int) : Nat → Nat → Int × Bool
  | 0, _ => (-1, false)
  | n + 1, k => if wfAt (L.getD k default) f + m - 1 ≤ (L.getD k default).2 then (wfAt (L.getD k default) f, true) else wfGo L f m n (k + 1)
def wfArgs (L : List I2) (f m : Int) : Bool := winsB L && inB f 0 1500 && inB m 1 1500
def windowFor (L : List I2) (f m : Int) : Int × Bool := if wfArgs L f m = true then wfGo L f m L.length 0 else (-1, false)

set_option maxRecDepth 10000 in
set_option maxHeartbeats 8000000 in
theorem specWindowFor_any (v : Value) (L : List I2) (f m : Int) (w : World) (h : R2 w v L) :
    Calls Try.prog 36 #[v, .int .i64 f, .int .i64 m] w fun e w' => e = .returned (.tuple #[.int .i64 (windowFor L f m).1, .bool (windowFor L f m).2]) ∧ Below w.heap.size w w' := by
  have HV := hide h
  obtain ⟨ao, cap, rfl, hl, hm, hc⟩ := h
  unfold maxLen at hm
  have HC := hide hc
  clear hc
  have H5 := hide (l5Windows_any _ L w (unhide HV))
  obtain ⟨R, eR⟩ : ∃ R, R = windowFor L f m := ⟨_, rfl⟩
  rw [← eR]
  have ER := hide eR
  clear eR
  cases h1 : winsB L with
  | false =>
    have EN : Hid (R = (-1, false)) := by show _ = _; rw [unhide ER, windowFor, if_neg (by rw [wfArgs, h1]; simp)]
    rw [h1] at H5
    go_enter Try.func36, Try.ntmps36
    go_wp2_with fail
    refine (unhide H5).mono ?_
    rintro e w1 ⟨rfl, hb⟩
    have HB := hide hb
    clear hb H5 HV ER
    go_wp2
    refine bodyPost_ret (v := .tuple #[.int .i64 (-1), .bool false]) (by simp [results, Try.results36, go_sem]) rfl ⟨by rw [unhide EN], unhide HB⟩
  | true =>
    rw [h1] at H5
    cases h2 : inB f 0 1500 with
    | false =>
      have EN : Hid (R = (-1, false)) := by show _ = _; rw [unhide ER, windowFor, if_neg (by rw [wfArgs, h2]; simp)]
      go_enter Try.func36, Try.ntmps36
      go_wp2_with fail
      refine (unhide H5).mono ?_
      rintro e w1 ⟨rfl, hb⟩
      have HB := hide hb
      clear hb H5 HV ER
      go_wp2_with (go_at_call 58; refine (l1In_any _ _ _ _).mono ?_; rintro e w' ⟨rfl, rfl⟩)
      refine bodyPost_ret (v := .tuple #[.int .i64 (-1), .bool false]) (by simp [results, Try.results36, go_sem]) rfl ⟨by rw [unhide EN], unhide HB⟩
    | true =>
      cases h3 : inB m 1 1500 with
      | false =>
        have EN : Hid (R = (-1, false)) := by show _ = _; rw [unhide ER, windowFor, if_neg (by rw [wfArgs, h3]; simp)]
        go_enter Try.func36, Try.ntmps36
        go_wp2_with fail
        refine (unhide H5).mono ?_
        rintro e w1 ⟨rfl, hb⟩
        have HB := hide hb
        clear hb H5 HV ER
        go_wp2_with (go_at_call 58; refine (l1In_any _ _ _ _).mono ?_; rintro e w' ⟨rfl, rfl⟩)
        refine bodyPost_ret (v := .tuple #[.int .i64 (-1), .bool false]) (by simp [results, Try.results36, go_sem]) rfl ⟨by rw [unhide EN], unhide HB⟩
      | true =>
        have EG : Hid (R = wfGo L f m L.length 0) := by show _ = _; rw [unhide ER, windowFor, if_pos (by rw [wfArgs, h1, h2, h3]; rfl)]
        have hf : 0 ≤ f ∧ f ≤ 1500 := by simpa [inB] using h2
        have hmm : 1 ≤ m ∧ m ≤ 1500 := by simpa [inB] using h3
        obtain ⟨hf1, hf2⟩ := hf
        obtain ⟨hm1, hm2⟩ := hmm
        have HOK := hide h1
        clear ER h1
        go_enter Try.func36, Try.ntmps36
        go_wp2_with fail
        refine (unhide H5).mono ?_
        rintro e w1 ⟨rfl, hb⟩
        have HW := hide hb
        clear hb H5 HV
        go_wp2_with (go_at_call 58; refine (l1In_any _ _ _ _).mono ?_; rintro e w' ⟨rfl, rfl⟩)
        clear h2 h3
        go_loopg [8] L.length (fun g i wr => Hid (Below w.heap.size w wr) ∧ ∃ k : Nat, k ≤ L.length ∧ g = L.length - k ∧ i = .int .i64 k ∧ Hid (R = wfGo L f m (L.length - k) k))
        case atStart => exact ⟨HW, 0, Nat.zero_le _, rfl, rfl, EG⟩
        case round =>
          clear EG HW
          obtain ⟨HW, k, hk, rfl, rfl, EG⟩ := hrel
          by_cases hkn : k < L.length
          · obtain ⟨b, o, x, y, rfl, hx, hy, EX⟩ := rec2At (unhide HC) hkn
            have g0 := ((unhide HW).cell (lt_of_cell hx)).trans hx
            have g1 := ((unhide HW).cell (lt_of_cell hy)).trans hy
            have hb := wiB_b (winsB_at (unhide HOK) hkn)
            rw [unhide EX] at hb
            obtain ⟨hb1, hb2, hb3⟩ := hb
            dsimp only at hb1 hb2 hb3
            have hki : (k : Int) < L.length := by omega
            have EG' : Hid (R = if wfAt (x, y) f + m - 1 ≤ y then (wfAt (x, y) f, true) else wfGo L f m (L.length - (k + 1)) (k + 1)) := by
              show _ = _
              rw [unhide EG, show L.length - k = (L.length - (k + 1)) + 1 by omega, wfGo, unhide EX]
            clear hx hy EX EG
            by_cases h1 : x < f
            · have EA : Hid (wfAt (x, y) f = f) := by show _ = _; rw [wfAt, if_pos h1]
              rw [unhide EA] at EG'
              by_cases h2 : f + m - 1 ≤ y
              · have EN : Hid (R = (f, true)) := by show _ = _; rw [unhide EG', if_pos h2]
                have d2 : decide (f + m - 1 ≤ y) = true := by simp; omega
                clear EG'
                go_wp2
                refine bodyPost_ret (v := .tuple #[.int .i64 f, .bool true]) (by simp [results, Try.results36, go_sem]) rfl ⟨by rw [unhide EN], unhide HW⟩
              · have EN : Hid (R = wfGo L f m (L.length - (k + 1)) (k + 1)) := by show _ = _; rw [unhide EG', if_neg h2]
                have d2 : decide (f + m - 1 ≤ y) = false := by simp; omega
                clear EG'
                go_wp2
                go_roundg (L.length - (k + 1))
                case measure => omega
                case rel => exact ⟨HW, k + 1, by omega, rfl, by go_num, EN⟩
            · have EA : Hid (wfAt (x, y) f = x) := by show _ = _; rw [wfAt, if_neg h1]
              rw [unhide EA] at EG'
              by_cases h2 : x + m - 1 ≤ y
              · have EN : Hid (R = (x, true)) := by show _ = _; rw [unhide EG', if_pos h2]
                have d2 : decide (x + m - 1 ≤ y) = true := by simp; omega
                clear EG'
                go_wp2
                refine bodyPost_ret (v := .tuple #[.int .i64 x, .bool true]) (by simp [results, Try.results36, go_sem]) rfl ⟨by rw [unhide EN], unhide HW⟩
              · have EN : Hid (R = wfGo L f m (L.length - (k + 1)) (k + 1)) := by show _ = _; rw [unhide EG', if_neg h2]
                have d2 : decide (x + m - 1 ≤ y) = false := by simp; omega
                clear EG'
                go_wp2
                go_roundg (L.length - (k + 1))
                case measure => omega
                case rel => exact ⟨HW, k + 1, by omega, rfl, by go_num, EN⟩
          · have hkk : k = L.length := by omega
            have EN : Hid (R = (-1, false)) := by show _ = _; rw [unhide EG, hkk, Nat.sub_self]; rfl
            have hki : (L.length : Int) ≤ k := by omega
            clear EG hkk
            go_wp2
            refine bodyPost_ret (v := .tuple #[.int .i64 (-1), .bool false]) (by simp [results, Try.results36, go_sem]) rfl ⟨by rw [unhide EN], unhide HW⟩

end Go.Proofs.Ytglehiakikhlaaa

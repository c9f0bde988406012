/- Stowage: the specification's StowCode. Written by wip/mksto2.py. -/
import Derived.Test.YtnfdokcpjcnknaaStoC
namespace Go.Proofs.Ytnfdokcpjcnknaa
open Go.RowKit

theorem failC4_f3 {H : List HatchT} {L : List StowT} {c : Nat} (hc : 3 < c) (hp : ∀ d, 1 ≤ d → d < c → ∀ r, r < L.length → failC H L d r = false) {i : Nat} (hi : i < L.length) : f3 H L i = false := hp 3 (by omega) hc i hi

theorem l12Fails_any (bv lv : Value) (H : List HatchT) (L : List StowT) (c i : Nat) (w : World) (hH : RHatch w bv H) (hL : RStow w lv L) (hi : i < L.length) (hh : hatB H = true) (hc : 1 ≤ c) (hc7 : c ≤ 7) (hp : ∀ d, 1 ≤ d → d < c → ∀ r, r < L.length → failC H L d r = false) :
    Calls Try.prog 28 #[bv, lv, .int .i64 (i : Int), .int .i64 (c : Int)] w fun e w' => e = .returned (.bool (failC H L c i)) ∧ Below w.heap.size w w' := by
  have hcc : c = 1 ∨ c = 2 ∨ c = 3 ∨ c = 4 ∨ c = 5 ∨ c = 6 ∨ c = 7 := by omega
  rcases hcc with rfl | rfl | rfl | rfl | rfl | rfl | rfl
  · exact l12Fails1_any bv lv H L i w hH hL hi
  · exact l12Fails2_any bv lv H L i w hH hL hi
  · exact l12Fails3_any bv lv H L i w hH hL hi hh
  · exact l12Fails4_any bv lv H L i w hH hL hi hh (failC4_f3 (by omega) hp hi)
  · exact l12Fails5_any bv lv H L i w hH hL hi hh (failC4_f3 (by omega) hp hi)
  · exact l12Fails6_any bv lv H L i w hH hL hi hh (failC4_f3 (by omega) hp hi)
  · exact l12Fails7_any bv lv H L i w hH hL hi

set_option maxRecDepth 10000 in
set_option maxHeartbeats 6400000 in
theorem specStowCode_any (bv lv : Value) (H : List HatchT) (L : List StowT) (w : World) (hH : RHatch w bv H) (hL : RStow w lv L) :
    Calls Try.prog 8 #[bv, lv] w fun e w' => e = .returned (.tuple #[.int .i64 (stowC H L).1, .int .i64 (stowC H L).2]) ∧ Below w.heap.size w w' := by
  have HRL := hide hL
  have HRH := hide hH
  obtain ⟨ao, cap, rfl, hl, hm, hc⟩ := hL
  obtain ⟨ho, hcap, rfl, hhl, hhm, hhc⟩ := hH
  unfold maxLen at hm hhm
  clear hc hhc
  have QH := hide fun V (hV : RHatch V (.slice ho H.length hcap) H) => specHatchesOk_any _ H V hV
  have EBad := hide (stowC_bad (H := H) (L := L))
  have EHit := hide fun c i hh hl => stowC_hit (H := H) (L := L) (c := c) (i := i) hh hl
  have EWell := hide (stowC_well (H := H) (L := L))
  go_enter Try.func8, Try.ntmps8
  go_wp2_with fail
  refine (unhide QH _ (unhide HRH)).mono ?_
  rintro e w1 ⟨rfl, hb⟩
  have HW := hide hb
  clear hb QH
  cases hh : hatB H with
  | false =>
    have E := hide (unhide EBad (Or.inl hh))
    go_wp2
    refine bodyPost_ret (v := .tuple #[.int .i64 1, .int .i64 0]) (by simp [results, Try.results8, go_sem]) rfl ⟨by rw [unhide E], unhide HW⟩
  | true =>
  by_cases h40 : 40 < L.length
  · have E := hide (unhide EBad (Or.inr h40))
    have h40i : (40 : Int) < L.length := by omega
    go_wp2
    refine bodyPost_ret (v := .tuple #[.int .i64 1, .int .i64 0]) (by simp [results, Try.results8, go_sem]) rfl ⟨by rw [unhide E], unhide HW⟩
  have h40i : ¬ (40 : Int) < L.length := by omega
  have hl40 : L.length ≤ 40 := by omega
  have HHT := hide hh
  replace EHit := hide fun c i => unhide EHit c i hh hl40
  replace EWell := hide (unhide EWell hh hl40)
  clear hh EBad
  go_wp2
  go_loopg [6, 7] 7 (fun g cv iv wr => ∃ c : Nat, 1 ≤ c ∧ c ≤ 8 ∧ g = 8 - c ∧ cv = .int .i64 c ∧ Hid (∀ d, 1 ≤ d → d < c → ∀ r, r < L.length → failC H L d r = false) ∧ Hid (Below w.heap.size w wr))
  case atStart => exact ⟨1, Nat.le_refl _, by omega, rfl, rfl, fun d h1 h2 => by omega, unhide HW⟩
  case round =>
    clear HW
    obtain ⟨c, hc1, hc8, rfl, rfl, HP, HW⟩ := hrel
    by_cases hc7 : c ≤ 7
    · have hci : (c : Int) ≤ 7 := by omega
      have QF := hide fun i V (hi : i < L.length) h1 h2 => l12Fails_any (.slice ho H.length hcap) (.slice ao L.length cap) H L c i V h1 h2 hi (unhide HHT) hc1 hc7 (unhide HP)
      replace EHit := hide fun i => unhide EHit c i hc1 hc7
      clear EWell HHT
      go_wp2
      generalize wr = w2 at *
      go_loopg [7] L.length (fun g iv wr => ∃ k : Nat, k ≤ L.length ∧ g = L.length - k ∧ iv = .int .i64 k ∧ Hid (∀ r, r < k → failC H L c r = false) ∧ Hid (Below w.heap.size w wr))
      case atStart => exact ⟨0, Nat.zero_le _, rfl, rfl, fun r hr => by omega, unhide HW⟩
      case round =>
        clear HW
        obtain ⟨k, hk, rfl, rfl, HA, HW⟩ := hrel
        by_cases hkn : k < L.length
        · have hki : (k : Int) < L.length := by omega
          replace EHit := hide fun h => unhide EHit k hkn h (unhide HA) (unhide HP)
          replace QF := hide fun V => unhide QF k V hkn
          have HA1 : Hid (failC H L c k = false → ∀ r, r < k + 1 → failC H L c r = false) := fun h r hr => by
            by_cases e : r = k
            · rw [e]; exact h
            · exact unhide HA r (by omega)
          generalize failC H L c k = r at *
          go_wp2_with fail
          refine (unhide QF _ ((unhide HRH).below (unhide HW)) ((unhide HRL).below (unhide HW))).mono ?_
          rintro e w3 ⟨rfl, hb⟩
          replace HW := hide (Below.step (unhide HW) hb)
          clear hb QF
          cases r with
          | true =>
            have E := hide (unhide EHit rfl)
            go_wp2
            refine bodyPost_ret (v := .tuple #[.int .i64 (c : Int), .int .i64 (k : Int)]) (by simp [results, Try.results8, go_sem]) rfl ⟨by rw [unhide E], unhide HW⟩
          | false =>
            replace HA1 := hide (unhide HA1 rfl)
            go_wp2
            go_roundg (L.length - (k + 1))
            case measure => omega
            case rel => exact ⟨k + 1, by omega, rfl, by go_num, unhide HA1, unhide HW⟩
        · have hki : ¬ (k : Int) < L.length := by omega
          have hkk : k = L.length := by omega
          have HP1 : Hid (∀ d, 1 ≤ d → d < c + 1 → ∀ r, r < L.length → failC H L d r = false) := fun d h1 h2 r hr => by
            by_cases e : d = c
            · rw [e]; exact unhide HA r (by omega)
            · exact unhide HP d h1 (by omega) r hr
          clear hkk
          go_wp2
          go_roundg (8 - (c + 1))
          case measure => omega
          case rel => exact ⟨c + 1, by omega, by omega, rfl, by go_num, unhide HP1, unhide HW⟩
    · have hci : ¬ (c : Int) ≤ 7 := by omega
      have E := hide (unhide EWell (fun d h1 h2 => unhide HP d h1 (by omega)))
      go_wp2
      refine bodyPost_ret (v := .tuple #[.int .i64 0, .int .i64 0]) (by simp [results, Try.results8, go_sem]) rfl ⟨by rw [unhide E], unhide HW⟩

end Go.Proofs.Ytnfdokcpjcnknaa

/- Contract of the program's RestCode. -/
import Derived.Test.YtblkbonedgofiaaEnD
namespace Go.Proofs.Ytblkbonedgofiaa
open Go.RowKit

set_option maxRecDepth 10000 in
set_option maxHeartbeats 8000000 in
theorem implRestCode_any (v : Value) (L : List I2) (u : Int) (w : World) (h : R2 w v L) :
    Calls Try.prog 16 #[v, .int .i64 u] w fun e w' => e = .returned (.tuple #[.int .i64 (restV L u).1, .int .i64 (restV L u).2]) ∧ Below w.heap.size w w' := by
  have HV := hide h
  obtain ⟨ao, cap, rfl, hl, hm, hc⟩ := h
  unfold maxLen at hm
  clear hc
  have HQ := hide fun V (hV : Below w.heap.size w V) => implSpellsOk_any _ L V ((unhide HV).below hV)
  have HLT := hide fun V (hV : Below w.heap.size w V) => lastTo_any _ L V ((unhide HV).below hV)
  have HWK := hide fun V (hV : Below w.heap.size w V) hS hT => workedAhead_any _ L V ((unhide HV).below hV) hS hT
  cases hsp : spB L with
  | false =>
    rw [hsp] at HQ
    have HF : Hid (restV L u = (1, -1)) := restV_not fun h => spB_not hsp h.1
    clear hsp
    go_enter Try.func16, Try.ntmps16
    go_wp2_with fail
    refine (unhide HQ _ (Below.refl _ _)).mono ?_
    rintro e w1 ⟨rfl, hb1⟩
    have HW := hide hb1
    clear hb1
    go_wp2
    refine bodyPost_ret (v := .tuple #[.int .i64 1, .int .i64 (-1)]) (by simp [results, Try.results16, go_sem]) rfl ⟨ret_two (unhide HF), unhide HW⟩
  | true =>
    rw [hsp] at HQ
    have HS := hide (spB_iff.1 hsp)
    clear hsp
    have Q1 := hide fun V => within_any u 0 30000 V
    cases hu : inB u 0 30000 with
    | false =>
      rw [hu] at Q1
      have HF : Hid (restV L u = (1, -1)) := restV_not fun h => by
        have : ¬ (0 ≤ u ∧ u ≤ 30000) := by simpa [inB] using hu
        exact this ⟨h.2.1, h.2.2.1⟩
      clear hu
      go_enter Try.func16, Try.ntmps16
      go_wp2_with fail
      refine (unhide HQ _ (Below.refl _ _)).mono ?_
      rintro e w1 ⟨rfl, hb1⟩
      have HW := hide hb1
      clear hb1
      go_wp2_with fail
      refine (unhide Q1 _).mono ?_
      rintro e w' ⟨rfl, h9⟩
      have h8 := h9.symm
      subst h8
      clear h9
      go_wp2
      refine bodyPost_ret (v := .tuple #[.int .i64 1, .int .i64 (-1)]) (by simp [results, Try.results16, go_sem]) rfl ⟨ret_two (unhide HF), unhide HW⟩
    | true =>
      rw [hu] at Q1
      have hu2 : 0 ≤ u ∧ u ≤ 30000 := by simpa [inB] using hu
      obtain ⟨hu0, hu1⟩ := hu2
      clear hu
      have HLW := hide (lastOf_watch (u := u) (unhide HS) hu0 hu1)
      obtain ⟨la, ela⟩ : ∃ z, z = lastOf L := ⟨_, rfl⟩
      rw [← ela] at HLT HLW
      clear ela
      go_enter Try.func16, Try.ntmps16
      go_wp2_with fail
      refine (unhide HQ _ (Below.refl _ _)).mono ?_
      rintro e w1 ⟨rfl, hb1⟩
      have HW := hide hb1
      clear hb1
      go_wp2_with fail
      refine (unhide Q1 _).mono ?_
      rintro e w' ⟨rfl, h9⟩
      have h8 := h9.symm
      subst h8
      clear h9
      go_wp2_with fail
      refine (unhide HLT _ (unhide HW)).mono ?_
      rintro e w' ⟨rfl, h9⟩
      have h8 := h9.symm
      subst h8
      clear h9
      by_cases hla : 30000 < la
      · have HF : Hid (restV L u = (1, -1)) := restV_not fun h => by have := (unhide HLW).2 h; omega
        go_wp2
        refine bodyPost_ret (v := .tuple #[.int .i64 1, .int .i64 (-1)]) (by simp [results, Try.results16, go_sem]) rfl ⟨ret_two (unhide HF), unhide HW⟩
      have HO := hide ((unhide HLW).1 (by omega))
      go_wp2_with fail
      refine (unhide HWK _ (unhide HW) (unhide HS) (unhide HO).2.2.2).mono ?_
      rintro e w2 ⟨N, g, xs, hN, rfl, hOw, hWS, hb⟩
      replace HW := hide (Below.step (unhide HW) hb)
      have HX := hide hOw
      have HWS := hide hWS
      have HN := hide hN
      have hN1 : (30000 : Int) < N := by omega
      have HR0 : Hid (restV L u = firstF (faultC L) 360 (u - 359).toNat) := if_pos (unhide HO)
      clear hb hOw hWS hN HQ Q1 HLT HWK HLW
      go_wp2
      go_loopg [7, 8] (u + 1 - 360).toNat (fun gh rv i wr => Hid (Below w.heap.size w wr) ∧ ∃ (T : Nat) (r : Int), 360 ≤ (T : Int) ∧ gh = (u + 1 - T).toNat ∧ i = .int .i64 T ∧ rv = .int .i64 r ∧ 0 ≤ r ∧ r ≤ 30000 ∧ Hid (Rested L ((T : Int) - 1) r) ∧ Hid (OwnV wr g (ints xs)) ∧ Hid (restV L u = firstF (faultC L) T (u + 1 - T).toNat))
      case atStart => exact ⟨unhide HW, 360, 0, by omega, by rw [show ((360 : Nat) : Int) = 360 from rfl], rfl, rfl, by omega, by omega, Rested.start L, unhide HX, by show _ = _; rw [unhide HR0, show (u + 1 - ((360 : Nat) : Int)).toNat = (u - 359).toNat by omega]; rfl⟩
      case round =>
        clear HW HX HR0
        obtain ⟨HW, T, r, hT0, rfl, rfl, rfl, hr0, hr1, HR, HX, HN2⟩ := hrel
        by_cases htu : (T : Int) ≤ u
        case neg =>
          have HF : Hid (restV L u = (0, -1)) := by
            show _ = _
            rw [unhide HN2, show (u + 1 - (T : Int)).toNat = 0 by omega]; rfl
          go_wp2
          refine bodyPost_ret (v := .tuple #[.int .i64 0, .int .i64 (-1)]) (by simp [results, Try.results16, go_sem]) rfl ⟨ret_two (unhide HF), unhide HW⟩
        case pos =>
          have HNOW : Hid (faultC L T ≠ 0 → restV L u = (faultC L T, (T : Int))) := fun h => by rw [unhide HN2]; exact firstF_now h (by omega)
          have HNX : Hid (faultC L T = 0 → restV L u = firstF (faultC L) ((T + 1 : Nat) : Int) (u + 1 - ((T + 1 : Nat) : Int)).toNat) := fun h => by
            rw [unhide HN2, firstF_next h (by omega), show (u + 1 - (T : Int)).toNat - 1 = (u + 1 - ((T + 1 : Nat) : Int)).toNat by omega]; rfl
          have HRF := hide fun r V (hO : OwnV V g (ints xs)) h0 h1 => restFault_any L N g T r xs V (unhide HS) (unhide HN) hO (unhide HWS) (by omega) h0 h1
          obtain ⟨P, hP⟩ : ∃ P : Nat, (P : Int) = (T : Int) - 360 := ⟨T - 360, by omega⟩
          have hlen := (unhide HWS).len
          have cT := (unhide HX).cell (ints_get xs (show T < xs.length by omega))
          have cP := (unhide HX).cell (ints_get xs (show P < xs.length by omega))
          rw [(unhide HWS).sum T (by omega)] at cT
          rw [(unhide HWS).sum P (by omega)] at cP
          have qP : IntKind.i64.wrap ((T : Int) - 360) = (P : Int) := by rw [IntKind.wrap_i64]; omega
          have hiT : (T : Int) < N := by omega
          have hiP : (P : Int) < N := by omega
          obtain ⟨A, eA⟩ : ∃ A, A = cw L T L.length := ⟨_, rfl⟩
          obtain ⟨B, eB⟩ : ∃ B, B = cw L P L.length := ⟨_, rfl⟩
          rw [← eA] at cT
          rw [← eB] at cP
          have HHIT : Hid (A = B → Rested L T T) := fun h => Rested.hit hT0 (by rw [← eA, h, eB, hP])
          have HMISS : Hid (A ≠ B → Rested L T r) := fun h => (unhide HR).miss (by rw [← eA, ← hP, ← eB]; exact h)
          clear HN2 HR hlen eA eB hP
          by_cases hAB : A = B
          · have HRT := hide (unhide HHIT hAB)
            have hd : (A == B) = true := by rw [hAB]; simp
            have HAB := hide hAB
            have HFC := hide (faultR_eq (unhide HS) (unhide HRT))
            have HRF1 := hide fun V hO => unhide HRF (T : Int) V hO (by omega) (by omega)
            rw [unhide HFC] at HRF1
            generalize faultC L T = FC at HNOW HNX HFC HRF1
            clear hAB HHIT HMISS HRF HFC
            go_wp2
            go_quiet (fail)
            go_wp2_with fail
            refine (unhide HRF1 _ (OwnV.step (unhide HX) (below_drewN (Below.refl _ _) _))).mono ?_
            rintro e w3 ⟨rfl, hb⟩
            replace HW := hide (Below.step (below_drewN (unhide HW) _) hb)
            replace HX := hide (OwnV.step (OwnV.step (unhide HX) (below_drewN (Below.refl _ _) _)) hb)
            clear hb
            by_cases hFC : FC = 0
            · have HF := hide (unhide HNX hFC)
              have hd2 : (FC != 0) = false := by rw [hFC]; rfl
              clear hFC
              go_wp2
              go_roundg (u + 1 - ((T + 1 : Nat) : Int)).toNat
              case measure => omega
              case rel => exact ⟨unhide HW, T + 1, T, by omega, rfl, by go_num, rfl, by omega, by omega, by rw [show ((T + 1 : Nat) : Int) - 1 = (T : Int) by omega]; exact unhide HRT, unhide HX, unhide HF⟩
            · have HF := hide (unhide HNOW hFC)
              have hd2 : (FC != 0) = true := by simpa using hFC
              clear hFC
              go_wp2
              refine bodyPost_ret (v := .tuple #[.int .i64 FC, .int .i64 T]) (by simp [results, Try.results16, go_sem]) rfl ⟨ret_two (unhide HF), unhide HW⟩
          · have HRT := hide (unhide HMISS hAB)
            have hd : (A == B) = false := by simpa using hAB
            have HAB := hide hAB
            have HFC := hide (faultR_eq (unhide HS) (unhide HRT))
            have HRF1 := hide fun V hO => unhide HRF r V hO hr0 hr1
            rw [unhide HFC] at HRF1
            generalize faultC L T = FC at HNOW HNX HFC HRF1
            clear hAB HHIT HMISS HRF HFC
            go_wp2
            go_quiet (fail)
            go_wp2_with fail
            refine (unhide HRF1 _ (OwnV.step (unhide HX) (below_drewN (Below.refl _ _) _))).mono ?_
            rintro e w3 ⟨rfl, hb⟩
            replace HW := hide (Below.step (below_drewN (unhide HW) _) hb)
            replace HX := hide (OwnV.step (OwnV.step (unhide HX) (below_drewN (Below.refl _ _) _)) hb)
            clear hb
            by_cases hFC : FC = 0
            · have HF := hide (unhide HNX hFC)
              have hd2 : (FC != 0) = false := by rw [hFC]; rfl
              clear hFC
              go_wp2
              go_roundg (u + 1 - ((T + 1 : Nat) : Int)).toNat
              case measure => omega
              case rel => exact ⟨unhide HW, T + 1, r, by omega, rfl, by go_num, rfl, hr0, hr1, by rw [show ((T + 1 : Nat) : Int) - 1 = (T : Int) by omega]; exact unhide HRT, unhide HX, unhide HF⟩
            · have HF := hide (unhide HNOW hFC)
              have hd2 : (FC != 0) = true := by simpa using hFC
              clear hFC
              go_wp2
              refine bodyPost_ret (v := .tuple #[.int .i64 FC, .int .i64 T]) (by simp [results, Try.results16, go_sem]) rfl ⟨ret_two (unhide HF), unhide HW⟩

end Go.Proofs.Ytblkbonedgofiaa

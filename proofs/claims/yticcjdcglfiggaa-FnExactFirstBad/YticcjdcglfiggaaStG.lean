/- The contract of the specification's RoomsOk. -/
import Derived.Test.YticcjdcglfiggaaStF
namespace Go.Proofs.Yticcjdcglfiggaa
open Go.RowKit

theorem roomB_eq (n : Nat) (x y z : Int) : roomB n (x, y, z) = (inB x 0 ((n : Int) - 1) && inB y x ((n : Int) - 1) && inB z 0 100) := by
  unfold roomB inB
  rw [Bool.eq_iff_iff]
  simp only [Bool.and_eq_true, decide_eq_true_eq]
  omega

set_option maxHeartbeats 1600000 in
theorem specRoomsOk_any (step rise : Int) (v : Value) (R : List (List Int)) (u : Value) (L : List I3) (w : World) (h : RowsIn w v R) (hL : R3 w u L) :
    Calls Try.prog 76 #[hullV step rise v, u] w fun e w' => e = .returned (.bool (roomsB step rise R L)) ∧ Below w.heap.size w w' := by
  have HV := hide h
  have HU := hide hL
  obtain ⟨ao, cap, rfl, hl, hm, hc⟩ := h
  obtain ⟨ao1, cap1, rfl, hl1, hm1, hc1⟩ := hL
  unfold maxLen at hm hm1
  have HC := hide hc1
  clear hc hc1
  unfold hullV
  have HW0 := hide (Below.alloc1 w (.cells #[.int .i64 step, .int .i64 rise, .slice ao R.length cap] 26))
  have HB0 := hide (ownV_alloc w #[.int .i64 step, .int .i64 rise, .slice ao R.length cap] 26)
  go_enter Try.func76, Try.ntmps76
  go_wp2_with fail
  refine (specHullOk_any step rise _ R _ ((unhide HV).below (unhide HW0))).mono ?_
  rintro e w1 ⟨rfl, hb⟩
  have HW1 := hide (Below.step (unhide HW0) hb)
  have HB1 := hide (OwnV.step (unhide HB0) hb)
  clear hb HW0 HB0
  cases hok : hullOk step rise R with
  | false =>
    have HF := hide (roomsB_hull (L := L) hok)
    clear hok
    go_wp2
    go_ret
    exact ⟨ret_bool (unhide HF).symm, unhide HW1⟩
  | true =>
  by_cases hlen : L.length ≤ 8
  case neg =>
    have HF := hide (roomsB_long (step := step) (rise := rise) (R := R) hlen)
    clear hok
    go_wp2
    go_ret
    exact ⟨ret_bool (unhide HF).symm, unhide HW1⟩
  have HK := hide hok
  have hR12 := (hullOk_right hok).len2
  have hR2 := (hullOk_right hok).len1
  clear hok
  go_wp2
  go_loopg [5] L.length (fun g i wr => (Below w.heap.size w wr ∧ OwnV wr w.heap.size [.int .i64 step, .int .i64 rise, .slice ao R.length cap]) ∧ ∃ k : Nat, k ≤ L.length ∧ g = L.length - k ∧ i = .int .i64 k ∧ Hid (∀ r, r < k → roomAt R.length L r = true))
  case atStart => exact ⟨⟨unhide HW1, unhide HB1⟩, 0, Nat.zero_le _, rfl, rfl, fun r hr => by omega⟩
  case round =>
    obtain ⟨⟨hW, hO⟩, k, hk, rfl, rfl, HD⟩ := hrel
    clear HW1 HB1
    by_cases hkn : k < L.length
    · obtain ⟨b, o, x, y, z, rfl, hc0, hc1, hc2, EX⟩ := rec3At (unhide HC) hkn
      have g0 := wcell3 hc0 hW
      have g1 := wcell3 hc1 hW
      have g2 := wcell3 hc2 hW
      have b2 := OwnV.cell hO (i := 2) rfl
      have hz := hO.lt
      have A2 := Below.alloc1 wr (.cells #[.int .i64 x, .int .i64 y, .int .i64 z] 37)
      have HR2 := hide (ownV_alloc wr #[.int .i64 x, .int .i64 y, .int .i64 z] 37)
      have HO2 := hide (OwnV.step hO A2)
      have HW2 := hide (Below.step hW A2)
      have HF : Hid (roomAt R.length L k = (roomB R.length (x, y, z) && !((L.take k).any (meetB (x, y, z))))) := by show _ = _; rw [roomAt, unhide EX]
      rw [roomB_eq] at HF
      clear hc0 hc1 hc2 hW hO EX A2
      by_cases hall : (inB x 0 ((R.length : Int) - 1) && inB y x ((R.length : Int) - 1) && inB z 0 100) = true
      · rw [hall] at HF
        simp only [Bool.and_eq_true] at hall
        obtain ⟨⟨h1, h2⟩, h3⟩ := hall
        go_wp2_with (go_at_call 77; refine (l1In_any _ _ _ _).mono ?_; rintro e w' ⟨rfl, rfl⟩)
        clear h1 h2 h3 g0 g1 g2 b2
        obtain ⟨W2, eW2⟩ : ∃ W, W = wr.alloc (.cells #[.int .i64 x, .int .i64 y, .int .i64 z] 37) := ⟨_, rfl⟩
        rw [← eW2] at HR2 HO2 HW2 ⊢
        clear eW2
        go_loopg [7] k (fun g i w3 => Below W2.heap.size W2 w3 ∧ ∃ j : Nat, j ≤ k ∧ g = k - j ∧ i = .int .i64 j ∧ Hid (∀ r, r < j → meetB (x, y, z) (L.getD r default) = false))
        case atStart => exact ⟨Below.refl _ _, 0, Nat.zero_le _, rfl, rfl, fun r hr => by omega⟩
        case round =>
          obtain ⟨hb, j, hj, rfl, rfl, HE⟩ := hrel
          by_cases hjk : j < k
          · obtain ⟨b', o', x', y', z', eb, hd0, hd1, _, EY⟩ := rec3At (unhide HC) (show j < L.length by omega)
            simp only [Option.some.injEq, Addr.mk.injEq, and_true] at eb
            obtain ⟨rfl, rfl⟩ := eb
            have g0 := wcell3 (wcell3 hd0 (unhide HW2)) hb
            have g1 := wcell3 (wcell3 hd1 (unhide HW2)) hb
            have c0 := wcell3 (OwnV.cell (unhide HR2) (i := 0) rfl) hb
            have c1 := wcell3 (OwnV.cell (unhide HR2) (i := 1) rfl) hb
            have HG : Hid (meetB (x, y, z) (L.getD j default) = (decide (x ≤ y') && decide (x' ≤ y))) := by show _ = _; rw [unhide EY]; rfl
            have HB := hide hb
            clear hd0 hd1 EY hb
            cases h1 : decide (x ≤ y')
            case false =>
              rw [h1] at HG
              go_wp2
              go_quiet (fail)
              go_wp2
              go_roundg (k - (j + 1))
              case measure => omega
              case rel => exact ⟨below_drewN (unhide HB) _, j + 1, by omega, rfl, by go_num, fun r hr => by
                by_cases e : r = j
                · subst e; rw [unhide HG]; rfl
                · exact HE.out r (by omega)⟩
            cases h2 : decide (x' ≤ y)
            case false =>
              rw [h1, h2] at HG
              go_wp2
              go_quiet (fail)
              go_wp2
              go_roundg (k - (j + 1))
              case measure => omega
              case rel => exact ⟨below_drewN (unhide HB) _, j + 1, by omega, rfl, by go_num, fun r hr => by
                by_cases e : r = j
                · subst e; rw [unhide HG]; rfl
                · exact HE.out r (by omega)⟩
            rw [h1, h2] at HG
            have HA : Hid (roomsB step rise R L = false) := roomsB_not hkn (by
              rw [unhide HF, any_true (d := default) (i := j) (by rw [List.length_take]; omega) (by
                rw [show (L.take k).getD j default = L.getD j default by simp [List.getD, hjk], unhide HG]; rfl)]; rfl)
            go_wp2
            go_quiet (fail)
            go_wp2
            go_ret
            exact ⟨ret_bool (unhide HA).symm, Below.step (unhide HW2) (below_drewN (unhide HB) _)⟩
          · have hjj : j = k := by omega
            subst hjj
            have HT : Hid (roomAt R.length L j = true) := by
              show _ = _
              rw [unhide HF, any_false (d := default) (fun r hr => by
                rw [List.length_take] at hr
                rw [show (L.take j).getD r default = L.getD r default by simp [List.getD, show r < j by omega]]
                exact HE.out r (by omega))]; rfl
            have HW4 := hide (Below.step (unhide HW2) hb)
            have HO4 := hide (OwnV.step (unhide HO2) hb)
            clear hb
            go_wp2
            go_roundg (L.length - (j + 1))
            case measure => omega
            case rel => exact ⟨⟨unhide HW4, unhide HO4⟩, j + 1, by omega, rfl, by go_num, fun r hr => by
              by_cases e : r = j
              · subst e; exact unhide HT
              · exact HD.out r (by omega)⟩
      · rw [show (inB x 0 ((R.length : Int) - 1) && inB y x ((R.length : Int) - 1) && inB z 0 100) = false by simpa using hall] at HF
        have HA : Hid (roomsB step rise R L = false) := roomsB_not hkn (by rw [unhide HF]; rfl)
        have HX : Hid ((inB x 0 ((R.length : Int) - 1) && inB y x ((R.length : Int) - 1) && inB z 0 100) = false) := hide (by simpa using hall)
        clear hall HD HF
        cases h1 : inB x 0 ((R.length : Int) - 1) <;> cases h2 : inB y x ((R.length : Int) - 1) <;> cases h3 : inB z 0 100
        all_goals rw [h1, h2, h3] at HX
        case true.true.true => exact absurd (unhide HX) (by simp)
        all_goals
          clear HX
          go_wp2_with (go_at_call 77; refine (l1In_any _ _ _ _).mono ?_; rintro e w' ⟨rfl, rfl⟩)
          go_ret
          exact ⟨ret_bool (unhide HA).symm, unhide HW2⟩
    · have HA : Hid (roomsB step rise R L = true) := roomsB_mk (unhide HK) hlen (fun r hr => HD.out r (by omega))
      go_wp2
      go_ret
      exact ⟨ret_bool (unhide HA).symm, hW⟩

end Go.Proofs.Yticcjdcglfiggaa

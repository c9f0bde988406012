/- The contract of the specification's Section. -/
import Derived.Test.YtliodmahbdmcbaaSgP
import Derived.Deep.RegionHeld3
namespace Go.Proofs.Ytliodmahbdmcbaa
open Go.RowKit

set_option maxRecDepth 10000 in
set_option maxHeartbeats 3200000 in
theorem specSection_any (v : Value) (L : List I3) (w : World) (h : R3 w v L) :
    Calls Try.prog 34 #[v] w fun e w' => e = .returned (.tuple #[v2 (secV L), .int .i64 (secN L), .bool (secOk L)]) ∧ Below w.heap.size w w' := by
  have HV := hide h
  obtain ⟨ao, cap, rfl, hl, hm, hc⟩ := h
  unfold maxLen at hm
  have HC := hide hc
  clear hc
  have HBad : Hid (secOk L = false → secV L = (0, 0) ∧ secN L = 0 ∧ secOk L = false) := fun hok => by simp [secV, secN, hok]
  go_enter Try.func34, Try.ntmps34
  go_wp2
  go_loopg [5, 6, 7, 8] L.length (fun g av mv sv i wr => Ans2 w wr ∧ ∃ k : Nat, k ≤ L.length ∧ g = L.length - k ∧ i = .int .i64 k ∧ av = .int .i64 (arT L k) ∧ mv = .int .i64 (moT L k) ∧ sv = .int .i64 (inT L k) ∧ (L.length ≤ 20 ∨ k = 0) ∧ Hid (∀ r, r < k → plB (L.getD r default) = true))
  case atStart => exact ⟨Ans2.start _ _, 0, Nat.zero_le _, rfl, rfl, rfl, rfl, rfl, Or.inr rfl, fun r hr => by omega⟩
  case round =>
    obtain ⟨hA, k, hk, rfl, rfl, rfl, rfl, rfl, h20, HD⟩ := hrel
    by_cases hkn : k < L.length
    · obtain ⟨bb, o, x, y, z, rfl, hc0, hc1, hc2, EX⟩ := rec3At (unhide HC) hkn
      have g0 := wcell3 hc0 hA.below
      have g1 := wcell3 hc1 hA.below
      have g2 := wcell3 hc2 hA.below
      have HF : Hid (plB (L.getD k default) = (inB x 1 1000 && inB y 1 1000 && inB z 0 10000)) := by show _ = _; rw [unhide EX]; rfl
      have HA1 := hide (hA.alloc (.cells #[.int .i64 x, .int .i64 y, .int .i64 z] 41))
      have c0 := OwnV.cell (unhide HA1).ans (i := 0) rfl
      have c1 := OwnV.cell (unhide HA1).ans (i := 1) rfl
      have f0 := (unhide HA1).ans.frozen
      have d0 := OwnV.cell hA.ans (i := 0) rfl
      have d1 := OwnV.cell hA.ans (i := 1) rfl
      have e0 := hA.ans.frozen
      have hlt := hA.ans.lt
      have hX := ((hA.ans.set 0 (.int .i64 0) (by simp)).set 1 (.int .i64 0) (by simp)).alloc (.cells #[.int .i64 x, .int .i64 y, .int .i64 z] 41)
      have t0 := hX.cell (i := 0) rfl
      have t1 := hX.cell (i := 1) rfl
      have HO := hide (Below.step ((hA.below.setCell (p := ⟨w.heap.size, 0, none⟩) (Nat.le_refl _) (.int .i64 0)).setCell (p := ⟨w.heap.size, 1, none⟩) (Nat.le_refl _) (.int .i64 0)) (Below.alloc1 _ (.cells #[.int .i64 x, .int .i64 y, .int .i64 z] 41)))
      clear hX
      by_cases hall : plB (L.getD k default) = true
      · have HP := hide hall
        rw [hall] at HF
        have h3 := unhide HF
        symm at h3
        simp only [Bool.and_eq_true] at h3
        obtain ⟨⟨h1, h2⟩, h3⟩ := h3
        by_cases hl20 : L.length ≤ 20
        · have HD' : Hid (∀ r, r < k + 1 → plB (L.getD r default) = true) := fun r hr => by
            by_cases e : r = k
            · subst e; exact unhide HP
            · exact HD.out r (by omega)
          have b := arT_bd' k HD.out
          have hp := plB_bd hall
          rw [unhide EX] at hp
          replace hp : 1 ≤ x ∧ x ≤ 1000 ∧ 1 ≤ y ∧ y ≤ 1000 ∧ 0 ≤ z ∧ z ≤ 10000 := hp
          have pb := plate_bd hp
          have E1 : Hid (arT L (k + 1) = arT L k + x * y) := by show arT L k + arF L k = _; rw [arF, unhide EX]
          have E2 : Hid (moT L (k + 1) = moT L k + x * y * z) := by show moT L k + moF L k = _; rw [moF, unhide EX]
          have E3 : Hid (inT L (k + 1) = inT L k + x * y * (y * y + 12 * z * z)) := by show inT L k + inF L k = _; rw [inF, unhide EX]
          clear hc0 hc1 hc2 hA EX
          generalize arT L k = a at *
          generalize moT L k = m at *
          generalize inT L k = s at *
          obtain ⟨b1, b2, b3, b4, b5, b6, b7⟩ := b
          obtain ⟨⟨p1, p2⟩, ⟨p3, p4⟩, ⟨p5, p6⟩, ⟨p7, p8⟩, ⟨p9, p10⟩, p11⟩ := pb
          obtain ⟨k1, k2, k3, k4, k5, k6⟩ := hp
          have w1' : IntKind.i64.wrap (x * y) = x * y := by rw [IntKind.wrap_i64]; omega
          have w2' : IntKind.i64.wrap (a + x * y) = a + x * y := by rw [IntKind.wrap_i64]; omega
          have w3' : IntKind.i64.wrap (x * y * z) = x * y * z := by rw [IntKind.wrap_i64]; omega
          have w4' : IntKind.i64.wrap (m + x * y * z) = m + x * y * z := by rw [IntKind.wrap_i64]; omega
          have w5' : IntKind.i64.wrap (y * y) = y * y := by rw [IntKind.wrap_i64]; omega
          have w6' : IntKind.i64.wrap (12 * z) = 12 * z := by rw [IntKind.wrap_i64]; omega
          have w7' : IntKind.i64.wrap (12 * z * z) = 12 * z * z := by rw [IntKind.wrap_i64]; omega
          have w8' : IntKind.i64.wrap (y * y + 12 * z * z) = y * y + 12 * z * z := by rw [IntKind.wrap_i64]; omega
          have w9' : IntKind.i64.wrap (x * y * (y * y + 12 * z * z)) = x * y * (y * y + 12 * z * z) := by rw [IntKind.wrap_i64]; omega
          have w10' : IntKind.i64.wrap (s + x * y * (y * y + 12 * z * z)) = s + x * y * (y * y + 12 * z * z) := by rw [IntKind.wrap_i64]; omega
          clear HD HF hall HP c0 c1 f0 d0 d1 e0 t0 t1 HO
          go_wp2_with (go_at_call 59; refine (l1In_any _ _ _ _).mono ?_; rintro e w9 ⟨rfl, h9⟩; have h8 := h9.symm; subst h8; clear h9)
          go_roundg (L.length - (k + 1))
          case measure => omega
          case rel => exact ⟨unhide HA1, k + 1, by omega, rfl, by go_num, by rw [unhide E1], by rw [unhide E2], by rw [unhide E3], Or.inl hl20, HD'⟩
        · have HB := hide (unhide HBad (by rw [secOk, inB_not (by omega)]; rfl))
          clear HD HF hall HP EX h20 hc0 hc1 hc2 hA
          go_wp2_with (go_at_call 59; refine (l1In_any _ _ _ _).mono ?_; rintro e w9 ⟨rfl, h9⟩; have h8 := h9.symm; subst h8; clear h9)
          refine bodyPost_ret (v := .tuple #[v2 (0, 0), .int .i64 0, .bool false]) (by simp [results, Try.results34, go_sem, t0, t1]) rfl ⟨by rw [(unhide HB).1, (unhide HB).2.1, (unhide HB).2.2], ?_⟩
          exact unhide HO
      · have HB := hide (unhide HBad (by rw [secOk, all_false hkn (d := default) (by simpa using hall)]; simp))
        rw [show plB (L.getD k default) = false by simpa using hall] at HF
        clear HD hall EX h20 hc0 hc1 hc2 hA
        cases h1 : inB x 1 1000 <;> cases h2 : inB y 1 1000 <;> cases h3 : inB z 0 10000
        all_goals rw [h1, h2, h3] at HF
        case true.true.true => exact absurd (unhide HF) (by simp)
        all_goals
          clear HF
          go_wp2_with (go_at_call 59; refine (l1In_any _ _ _ _).mono ?_; rintro e w9 ⟨rfl, h9⟩; have h8 := h9.symm; subst h8; clear h9)
          refine bodyPost_ret (v := .tuple #[v2 (0, 0), .int .i64 0, .bool false]) (by simp [results, Try.results34, go_sem, t0, t1]) rfl ⟨by rw [(unhide HB).1, (unhide HB).2.1, (unhide HB).2.2], ?_⟩
          exact unhide HO
    · have hkk : k = L.length := by omega
      have c0 := OwnV.cell hA.ans (i := 0) rfl
      have c1 := OwnV.cell hA.ans (i := 1) rfl
      have f0 := hA.ans.frozen
      by_cases hz : L.length = 0
      · have HB := hide (unhide HBad (by rw [secOk, inB_not (by omega)]; rfl))
        have e1 : ((L.length : Int) == 0) = true := by rw [beq_iff_eq]; omega
        clear hkk hz HD h20
        go_wp2
        refine bodyPost_ret (v := .tuple #[v2 (0, 0), .int .i64 0, .bool false]) (by simp [results, Try.results34, go_sem, c0, c1]) rfl ⟨by rw [(unhide HB).1, (unhide HB).2.1, (unhide HB).2.2], ?_⟩
        exact (hA.below.setCell (Nat.le_refl _) _).setCell (Nat.le_refl _) _
      · have e1 : ((L.length : Int) == 0) = false := by rw [beq_eq_false_iff_ne]; omega
        have hok : secOk L = true := by
          rw [secOk, inB_mk (by omega) (by omega), all_true (d := default) (fun r hr => HD.out r (by omega))]; rfl
        have HF : Hid (secV L = lowV (moT L L.length) (arT L L.length) ∧ secN L = inLess (arT L L.length) (moT L L.length) (inT L L.length) ∧ secOk L = true) := by show _ ∧ _ ∧ _; simp [secV, secN, hok]
        have HR := hide (secOk_r hok)
        clear hok hz HD h20
        obtain ⟨a, m, s, ea, em, es, a1, a2, m1, m2, s1, s2, q1, q2, r1, r2, ⟨p1, p2⟩, ⟨p3, p4⟩, u1, u2⟩ := sec_bd (unhide HR)
        rw [← ea, ← em, ← es] at HF
        have EK : Hid (arT L k = a ∧ moT L k = m ∧ inT L k = s) := by show _ ∧ _ ∧ _; rw [hkk]; exact ⟨ea.symm, em.symm, es.symm⟩
        rw [(unhide EK).1, (unhide EK).2.1, (unhide EK).2.2]
        have HN : Hid (inLess a m s = s - 12 * (m / a) * (m + m % a) - (12 * (m % a) * (m % a) + a - 1) / a) := hide rfl
        have HAr := hide hA
        have hw1 : IntKind.i64.wrap (m.tdiv a) = m / a := by rw [Int.tdiv_eq_ediv_of_nonneg m1, IntKind.wrap_i64]; omega
        have hq1 : m.tdiv a = m / a := Int.tdiv_eq_ediv_of_nonneg m1
        have hq2 : m.tmod a = m % a := Int.tmod_eq_emod_of_nonneg m1
        have hu1 : IntKind.i64.wrap ((12 * (m % a) * (m % a) + a - 1).tdiv a) = (12 * (m % a) * (m % a) + a - 1) / a := by rw [Int.tdiv_eq_ediv_of_nonneg (by omega), IntKind.wrap_i64]; omega
        have hu2 : (12 * (m % a) * (m % a) + a - 1).tdiv a = (12 * (m % a) * (m % a) + a - 1) / a := Int.tdiv_eq_ediv_of_nonneg (by omega)
        clear hkk ea em es EK hA c0 c1 f0
        have hne : ¬ a = 0 := by omega
        obtain ⟨q, eq⟩ : ∃ q, q = m / a := ⟨_, rfl⟩
        obtain ⟨r, er⟩ : ∃ r, r = m % a := ⟨_, rfl⟩
        rw [← eq, ← er] at HN
        rw [← er] at p3 p4 r1 r2 u1 u2 hq2 hu1 hu2
        rw [← eq] at q1 q2 hw1 hq1
        rw [← eq, ← er] at p1 p2
        clear eq er
        have y1 : IntKind.i64.wrap (12 * q) = 12 * q := by rw [IntKind.wrap_i64]; omega
        have y2 : IntKind.i64.wrap (m + r) = m + r := by rw [IntKind.wrap_i64]; omega
        have y3 : IntKind.i64.wrap (12 * q * (m + r)) = 12 * q * (m + r) := by rw [IntKind.wrap_i64]; omega
        have y4 : IntKind.i64.wrap (12 * r) = 12 * r := by rw [IntKind.wrap_i64]; omega
        have y5 : IntKind.i64.wrap (12 * r * r) = 12 * r * r := by rw [IntKind.wrap_i64]; omega
        have y6 : IntKind.i64.wrap (12 * r * r + a) = 12 * r * r + a := by rw [IntKind.wrap_i64]; omega
        have y8 : IntKind.i64.wrap (12 * r * r + a - 1) = 12 * r * r + a - 1 := by rw [IntKind.wrap_i64]; omega
        generalize hu : (12 * r * r + a - 1) / a = u at *
        clear hu
        have y7 : IntKind.i64.wrap (12 * q * (m + r) + u) = 12 * q * (m + r) + u := by rw [IntKind.wrap_i64]; omega
        have y9 : IntKind.i64.wrap (s - (12 * q * (m + r) + u)) = s - (12 * q * (m + r) + u) := by rw [IntKind.wrap_i64]; omega
        go_wp2
        go_quiet (fail)
        go_wp2_with fail
        refine (l2Frac_any m a _ (by omega) (by omega) (by omega) (by omega)).mono ?_
        rintro e w4 ⟨rfl, hb⟩
        have HA4 := hide ((unhide HAr).step (Below.step (below_drewN (Below.refl _ _) _) hb))
        clear hb
        have c0 := OwnV.cell (unhide HA4).ans (i := 0) rfl
        have c1 := OwnV.cell (unhide HA4).ans (i := 1) rfl
        have f0 := (unhide HA4).ans.frozen
        go_wp2
        refine bodyPost_ret (v := .tuple #[v2 (lowV m a), .int .i64 (s - (12 * q * (m + r) + u)), .bool true]) (by simp [results, Try.results34, go_sem, c0, c1]) rfl ⟨?_, ?_⟩
        · rw [(unhide HF).1, (unhide HF).2.1, (unhide HF).2.2, unhide HN, show s - (12 * q * (m + r) + u) = s - 12 * q * (m + r) - u by omega]
        · exact ((unhide HA4).below.setCell (Nat.le_refl _) _).setCell (Nat.le_refl _) _

end Go.Proofs.Ytliodmahbdmcbaa

/- The contract of the program's Section. -/
import Derived.Test.YtliodmahbdmcbaaSgP
import Derived.Deep.RegionHeld3
namespace Go.Proofs.Ytliodmahbdmcbaa
open Go.RowKit

set_option maxHeartbeats 1600000 in
theorem implSection_any (v : Value) (L : List I3) (w : World) (h : R3 w v L) :
    Calls Try.prog 24 #[v] w fun e w' => e = .returned (.tuple #[v2 (secV L), .int .i64 (secN L), .bool (secOk L)]) ∧ Below w.heap.size w w' := by
  have HV := hide h
  obtain ⟨ao, cap, rfl, hl, hm, hc⟩ := h
  unfold maxLen at hm
  have HC := hide hc
  clear hc
  have HA := hide (Ans2.start w 43)
  go_enter Try.func24, Try.ntmps24
  go_wp2_with fail
  refine (platesOk_any _ L _ ((unhide HV).below (unhide HA).below)).mono ?_
  rintro e w1 ⟨rfl, hb⟩
  replace HA := hide ((unhide HA).step hb)
  clear hb
  have c0 := OwnV.cell (unhide HA).ans (i := 0) rfl
  have c1 := OwnV.cell (unhide HA).ans (i := 1) rfl
  have f0 := (unhide HA).ans.frozen
  cases hok : secOk L with
  | false =>
    have HF : Hid (secV L = (0, 0) ∧ secN L = 0 ∧ secOk L = false) := by show _ ∧ _ ∧ _; simp [secV, secN, hok]
    clear hok
    go_wp2
    refine bodyPost_ret (v := .tuple #[v2 (0, 0), .int .i64 0, .bool false]) (by simp [results, Try.results24, go_sem, c0, c1]) rfl ⟨by rw [(unhide HF).1, (unhide HF).2.1, (unhide HF).2.2], ?_⟩
    exact (((unhide HA).below.setCell (Nat.le_refl _) _).setCell (Nat.le_refl _) _)
  | true =>
    have HF : Hid (secV L = lowV (moT L L.length) (arT L L.length) ∧ secN L = inLess (arT L L.length) (moT L L.length) (inT L L.length) ∧ secOk L = true) := by show _ ∧ _ ∧ _; simp [secV, secN, hok]
    have hR := secOk_r hok
    have l1 := hR.len1
    have l2 := hR.len2
    have HR := hide hR
    clear hok hR c0 c1 f0
    go_wp2
    go_loopg [5, 6, 7, 19] L.length (fun g av mv sv i wr => Ans2 w wr ∧ Below w1.heap.size w1 wr ∧ ∃ k : Nat, k ≤ L.length ∧ g = L.length - k ∧ i = .int .i64 k ∧ av = .int .i64 (arT L k) ∧ mv = .int .i64 (moT L k) ∧ sv = .int .i64 (inT L k))
    case atStart => exact ⟨unhide HA, Below.refl _ _, 0, Nat.zero_le _, rfl, rfl, rfl, rfl, rfl⟩
    case round =>
      obtain ⟨hA, hB, k, hk, rfl, rfl, rfl, rfl, rfl⟩ := hrel
      have b := arT_bd (unhide HR).pl k hk
      by_cases hkn : k < L.length
      · obtain ⟨bb, o, x, y, z, rfl, hc0, hc1, hc2, EX⟩ := rec3At (unhide HC) hkn
        have g0 := wcell3 hc0 hA.below
        have g1 := wcell3 hc1 hA.below
        have g2 := wcell3 hc2 hA.below
        have hp := plB_bd ((unhide HR).pl k hkn)
        rw [unhide EX] at hp
        replace hp : 1 ≤ x ∧ x ≤ 1000 ∧ 1 ≤ y ∧ y ≤ 1000 ∧ 0 ≤ z ∧ z ≤ 10000 := hp
        have pb := plate_bd hp
        have E1 : Hid (arT L (k + 1) = arT L k + x * y) := by show arT L k + arF L k = _; rw [arF, unhide EX]
        have E2 : Hid (moT L (k + 1) = moT L k + x * y * z) := by show moT L k + moF L k = _; rw [moF, unhide EX]
        have E3 : Hid (inT L (k + 1) = inT L k + x * y * (y * y + 12 * z * z)) := by show inT L k + inF L k = _; rw [inF, unhide EX]
        have HA1 := hide (hA.alloc (.cells #[.int .i64 x, .int .i64 y, .int .i64 z] 41))
        have HB1 := hide (Below.step hB (Below.alloc1 wr (.cells #[.int .i64 x, .int .i64 y, .int .i64 z] 41)))
        clear hc0 hc1 hc2 hA hB EX
        generalize arT L k = a at *
        generalize moT L k = m at *
        generalize inT L k = s at *
        obtain ⟨b1, b2, b3, b4, b5, b6, b7⟩ := b
        obtain ⟨⟨p1, p2⟩, ⟨p3, p4⟩, ⟨p5, p6⟩, ⟨p7, p8⟩, ⟨p9, p10⟩, p11⟩ := pb
        obtain ⟨h1, h2, h3, h4, h5, h6⟩ := hp
        have w1' : IntKind.i64.wrap (x * y) = x * y := by rw [IntKind.wrap_i64]; omega
        have w2' : IntKind.i64.wrap (a + x * y) = a + x * y := by rw [IntKind.wrap_i64]; omega
        have w3' : IntKind.i64.wrap (x * y * z) = x * y * z := by rw [IntKind.wrap_i64]; omega
        have w4' : IntKind.i64.wrap (m + x * y * z) = m + x * y * z := by rw [IntKind.wrap_i64]; omega
        have w5' : IntKind.i64.wrap (y * y) = y * y := by rw [IntKind.wrap_i64]; omega
        have w6' : IntKind.i64.wrap (12 * z) = 12 * z := by rw [IntKind.wrap_i64]; omega
        have w7' : IntKind.i64.wrap (12 * z * z) = 12 * z * z := by rw [IntKind.wrap_i64]; omega
        have w8' : IntKind.i64.wrap (y * y + 12 * z * z) = y * y + 12 * z * z := by rw [IntKind.wrap_i64]; omega
        have w9' : IntKind.i64.wrap (x * y * (y * y + 12 * z * z)) = x * y * (y * y + 12 * z * z) := by rw [IntKind.wrap_i64]; omega
        have w10' : IntKind.i64.wrap (s + x * y * (y * y + 12 * z * z)) = s + x * y * (y * y + 12 * z * z) := by rw [IntKind.wrap_i64]; omega
        go_wp2
        go_roundg (L.length - (k + 1))
        case measure => omega
        case rel => exact ⟨unhide HA1, unhide HB1, k + 1, by omega, rfl, by go_num, by rw [unhide E1], by rw [unhide E2], by rw [unhide E3]⟩
      · have hkk : k = L.length := by omega
        have HK := hide hkk
        obtain ⟨a, m, s, ea, em, es, a1, a2, m1, m2, s1, s2, q1, q2, r1, r2, ⟨p1, p2⟩, ⟨p3, p4⟩, u1, u2⟩ := sec_bd (unhide HR)
        rw [← ea, ← em, ← es] at HF
        have EK : Hid (arT L k = a ∧ moT L k = m ∧ inT L k = s) := by show _ ∧ _ ∧ _; rw [hkk]; exact ⟨ea.symm, em.symm, es.symm⟩
        rw [(unhide EK).1, (unhide EK).2.1, (unhide EK).2.2]
        have HN : Hid (inLess a m s = s - 12 * (m / a) * (m + m % a) - (12 * (m % a) * (m % a) + a - 1) / a) := hide rfl
        have HAr := hide hA
        have HDn := hide fun W => down_any (-12 * (m % a) * (m % a)) (12 * (m % a) * (m % a)) a W (by rw [Int.neg_mul, Int.neg_mul]) p3 (by omega) (by omega) (by omega)
        have hw1 : IntKind.i64.wrap (m.tdiv a) = m / a := by rw [Int.tdiv_eq_ediv_of_nonneg m1, IntKind.wrap_i64]; omega
        have hq1 : m.tdiv a = m / a := Int.tdiv_eq_ediv_of_nonneg m1
        have hq2 : m.tmod a = m % a := Int.tmod_eq_emod_of_nonneg m1
        clear hkk ea em es EK b hA hB HK
        have hne : ¬ a = 0 := by omega
        obtain ⟨q, eq⟩ : ∃ q, q = m / a := ⟨_, rfl⟩
        obtain ⟨r, er⟩ : ∃ r, r = m % a := ⟨_, rfl⟩
        rw [← eq, ← er] at HN
        rw [← er] at HDn p3 p4 r1 r2 u1 u2 hq2
        rw [← eq] at q1 q2 hw1 hq1
        rw [← eq, ← er] at p1 p2
        clear eq er
        have y1 : IntKind.i64.wrap (12 * q) = 12 * q := by rw [IntKind.wrap_i64]; omega
        have y2 : IntKind.i64.wrap (m + r) = m + r := by rw [IntKind.wrap_i64]; omega
        have y3 : IntKind.i64.wrap (12 * q * (m + r)) = 12 * q * (m + r) := by rw [IntKind.wrap_i64]; omega
        have y4 : IntKind.i64.wrap (s - 12 * q * (m + r)) = s - 12 * q * (m + r) := by rw [IntKind.wrap_i64]; omega
        have y5 : IntKind.i64.wrap (-12 * r) = -12 * r := by rw [IntKind.wrap_i64]; omega
        have y6' : -12 * r * r = -(12 * r * r) := by rw [Int.neg_mul, Int.neg_mul]
        have y6 : IntKind.i64.wrap (-12 * r * r) = -12 * r * r := by rw [IntKind.wrap_i64]; omega
        clear y6'
        generalize hu : (12 * r * r + a - 1) / a = u at *
        clear hu
        have y7 : IntKind.i64.wrap (s - 12 * q * (m + r) + -u) = s - 12 * q * (m + r) + -u := by rw [IntKind.wrap_i64]; omega
        go_wp2
        go_quiet (fail)
        go_wp2_with fail
        refine (lowest_any m a _ (by omega) (by omega) (by omega) (by omega)).mono ?_
        rintro e w4 ⟨rfl, hb⟩
        have HA4 := hide ((unhide HAr).step (Below.step (below_drewN (Below.refl _ _) _) hb))
        clear hb
        go_wp2_with fail
        refine (unhide HDn _).mono ?_
        rintro e w5 ⟨rfl, rfl⟩
        have c0 := OwnV.cell (unhide HA4).ans (i := 0) rfl
        have c1 := OwnV.cell (unhide HA4).ans (i := 1) rfl
        have f0 := (unhide HA4).ans.frozen
        go_wp2
        refine bodyPost_ret (v := .tuple #[v2 (lowV m a), .int .i64 (s - 12 * q * (m + r) + -u), .bool true]) (by simp [results, Try.results24, go_sem, c0, c1]) rfl ⟨?_, ?_⟩
        · rw [(unhide HF).1, (unhide HF).2.1, (unhide HF).2.2, unhide HN, show s - 12 * q * (m + r) + -u = s - 12 * q * (m + r) - u by omega]
        · exact ((unhide HA4).below.setCell (Nat.le_refl _) _).setCell (Nat.le_refl _) _

end Go.Proofs.Ytliodmahbdmcbaa

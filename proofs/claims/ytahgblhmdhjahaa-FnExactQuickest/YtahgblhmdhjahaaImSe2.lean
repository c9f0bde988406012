/- Contracts of slices.Index and slices.Contains at []int, and of the program's isShut. Written by wip/mkimse2.py. -/
import Derived.Test.YtahgblhmdhjahaaImSe1
namespace Go.Proofs.Ytahgblhmdhjahaa
open Go.RowKit

set_option maxHeartbeats 1600000 in
theorem slIndex_any (v : Value) (L : List Int) (x : Int) (w : World) (h : IntsIn w v L) :
    Calls Try.prog 73 #[v, .int .i64 x] w fun e w' => ∃ r, e = .returned (.int .i64 r) ∧ L.contains x = decide (0 ≤ r) ∧ w = w' := by
  obtain ⟨ao, cap, rfl, hl, hm, hc⟩ := h
  unfold maxLen at hm
  have HC := hide hc
  clear hc
  go_enter Try.func73, Try.ntmps73
  go_wp2
  go_loopg [8] L.length (fun g i wr => w = wr ∧ ∃ k : Nat, k ≤ L.length ∧ g = L.length - k ∧ i = .int .i64 k ∧ Hid (∀ r, r < k → L.getD r 0 ≠ x))
  case atStart => exact ⟨rfl, 0, Nat.zero_le _, rfl, rfl, fun r hr => by omega⟩
  case round =>
    obtain ⟨rfl, k, hk, rfl, rfl, HN⟩ := hrel
    by_cases hkn : k < L.length
    · obtain ⟨b, o, rfl, hcell⟩ := unhide HC k hkn
      have hki : (k : Int) < L.length := by omega
      by_cases hx : L.getD k 0 = x
      · have HT : Hid (L.contains x = true) := by
          show _ = _
          rw [List.contains_iff_mem, ← hx, getD_lt hkn]
          exact List.getElem_mem _
        rw [hx] at hcell
        clear HN
        go_wp2
        go_ret
        exact ⟨_, rfl, by rw [unhide HT]; simp, rfl⟩
      · have HN' : Hid (∀ r, r < k + 1 → L.getD r 0 ≠ x) := fun r hr => by
          by_cases e : r = k
          · rw [e]; exact hx
          · exact unhide HN r (by omega)
        clear HN
        generalize L.getD k 0 = y at *
        have d1 : (x == y) = false := by simp; omega
        go_wp2
        go_roundg (L.length - (k + 1))
        case measure => omega
        case rel => exact ⟨rfl, k + 1, by omega, rfl, by go_num, HN'⟩
    · have HF : Hid (L.contains x = false) := by
        show _ = _
        rw [Bool.eq_false_iff]
        intro hc
        rw [List.contains_iff_mem] at hc
        obtain ⟨i, hi, e⟩ := List.mem_iff_getElem.1 hc
        exact unhide HN i (by omega) (by rw [getD_lt hi]; exact e)
      have hki : ¬ (k : Int) < L.length := by omega
      clear HN
      go_wp2
      go_ret
      refine ⟨_, rfl, ?_, rfl⟩
      have h := unhide HF
      rw [Bool.eq_false_iff, ne_eq, List.contains_iff_mem] at h
      first | exact ⟨fun h' => absurd h' h, fun h' => by omega⟩ | (rw [unhide HF]; simp)

theorem slContains_any (v : Value) (L : List Int) (x : Int) (w : World) (h : IntsIn w v L) :
    Calls Try.prog 53 #[v, .int .i64 x] w fun e w' => e = .returned (.bool (L.contains x)) ∧ w = w' := by
  have HI := hide (slIndex_any v L x w h)
  clear h
  go_enter Try.func53, Try.ntmps53
  go_wp2_with fail
  refine (unhide HI).mono ?_
  rintro e w' ⟨r, rfl, hr, rfl⟩
  have HR := hide hr
  clear hr HI
  go_wp2
  go_ret
  exact ⟨ret_bool (unhide HR).symm, rfl⟩

set_option maxRecDepth 10000 in
set_option maxHeartbeats 8000000 in
theorem isShut_any (s : Se) (p step : Int) (dv : Value) (fao : Option Addr) (fn fc : Nat) (w : World) (hn : SeaN s) (hF : RClosed w (.slice fao fn fc) s.F) (hp0 : 0 ≤ p) (hp1 : p < s.D.length) :
    Calls Try.prog 56 #[vSea s.wd s.hg dv (.slice fao fn fc), .int .i64 p, .int .i64 step] w fun e w' => e = .returned (.bool (shutB s p step)) ∧ Below w.heap.size w w' := by
  have A := Below.alloc1 w (.cells #[.int .i64 s.wd, .int .i64 s.hg, dv, .slice fao fn fc] 27)
  have O := ownV_alloc w #[.int .i64 s.wd, .int .i64 s.hg, dv, .slice fao fn fc] 27
  have hle := hn.le
  have hw0 := hn.w0
  have hw1 := hn.w1
  have hfl := hn.shut
  obtain ⟨a1, a2, a3, a4⟩ := mod_bd hp0 hw0
  obtain ⟨fao', fc', eF, hfc1, hfm, hfc⟩ := hF
  simp only [Value.slice.injEq] at eF
  obtain ⟨rfl, rfl, rfl⟩ := eF
  have HFC := hide hfc
  have HW := hide A
  have HO := hide O
  clear A O hfc hn
  unfold vSea shutB
  obtain ⟨wd, hg, D, F⟩ := s
  dsimp only at *
  have t1 : Int.tmod p wd = p % wd := Int.tmod_eq_emod_of_nonneg hp0
  have t3 : Int.tdiv p wd = p / wd := Int.tdiv_eq_ediv_of_nonneg hp0
  have hwz : (wd == 0) = false := by simp; omega
  have hwn : wd ≠ 0 := by omega
  generalize p % wd = x at *
  generalize p / wd = y at *
  have u1 : IntKind.i64.wrap x = x := by rw [IntKind.wrap_i64]; omega
  have u3 : IntKind.i64.wrap y = y := by rw [IntKind.wrap_i64]; omega
  have hflI : (F.length : Int) ≤ 10 := by omega
  go_enter Try.func56, Try.ntmps56
  go_wp2
  go_quiet (fail)
  obtain ⟨W0, eW⟩ : ∃ z, z = (w.alloc (.cells #[.int .i64 wd, .int .i64 hg, dv, .slice fao F.length fc] 27)).drewN nq := ⟨_, rfl⟩
  replace HW := hide (below_drewN (unhide HW) nq)
  replace HO := hide (OwnV.step (unhide HO) (below_drewN (Below.refl _ _) nq))
  rw [← eW] at HW HO ⊢
  clear eW
  have b3 := (unhide HO).cell (i := 3) rfl
  go_wp2
  clear b3
  go_loopg [22] F.length (fun g i wr => Below W0.heap.size W0 wr ∧ ∃ k : Nat, k ≤ F.length ∧ g = F.length - k ∧ i = .int .i64 k ∧ Hid (∀ r, r < k → shut1 x y step (F.getD r default) = false))
  case atStart => exact ⟨Below.refl _ _, 0, Nat.zero_le _, rfl, rfl, fun r hr => by omega⟩
  case round =>
    obtain ⟨hWq, k, hk, rfl, rfl, HFF⟩ := hrel
    have hA := Below.step (unhide HW) hWq
    by_cases hkn : k < F.length
    · obtain ⟨b, o, x0, x1, x2, x3, x4, x5, rfl, hc0, hc1, hc2, hc3, hc4, hc5, EX⟩ := recClosedAt (unhide HFC) hkn
      have g0 := wcell3 hc0 hA
      have g1 := wcell3 hc1 hA
      have g2 := wcell3 hc2 hA
      have g3 := wcell3 hc3 hA
      have g4 := wcell3 hc4 hA
      have g5 := wcell3 hc5 hA
      have HWA := hide (Below.step hWq (Below.alloc1 wr (.cells #[.int .i64 x0, .int .i64 x1, .int .i64 x2, .int .i64 x3, .int .i64 x4, .int .i64 x5] 86)))
      have hkF : (k : Int) < F.length := by omega
      have HYES : Hid (shut1 x y step (x0, x1, x2, x3, x4, x5) = true → F.any (shut1 x y step) = true) := fun h => any_t (d := default) hkn (by rw [unhide EX]; exact h)
      have HNO : Hid (shut1 x y step (x0, x1, x2, x3, x4, x5) = false → ∀ r, r < k + 1 → shut1 x y step (F.getD r default) = false) := fun h r hr => by
        by_cases e : r = k
        · rw [e, unhide EX]; exact h
        · exact (unhide HFF) r (by omega)
      clear hc0 hc1 hc2 hc3 hc4 hc5 hWq hA EX HFF
      unfold shut1 at HYES HNO
      dsimp only at HYES HNO
      cases h1 : inB x x0 x2
      · have HFF := hide (unhide HNO (by rw [h1]; rfl))
        clear HYES HNO
        go_wp2_with (go_at_call 47; refine (within_any _ _ _ _).mono ?_; rintro e w' ⟨rfl, h9⟩; have h8 := h9.symm; subst h8; clear h9)
        go_roundg (F.length - (k + 1))
        case measure => omega
        case rel => exact ⟨unhide HWA, k + 1, by omega, rfl, by go_num, HFF⟩
      cases h2 : inB y x1 x3
      · have HFF := hide (unhide HNO (by rw [h1, h2]; rfl))
        clear HYES HNO
        go_wp2_with (go_at_call 47; refine (within_any _ _ _ _).mono ?_; rintro e w' ⟨rfl, h9⟩; have h8 := h9.symm; subst h8; clear h9)
        go_roundg (F.length - (k + 1))
        case measure => omega
        case rel => exact ⟨unhide HWA, k + 1, by omega, rfl, by go_num, HFF⟩
      cases h3 : inB step x4 x5
      · have HFF := hide (unhide HNO (by rw [h1, h2, h3]; rfl))
        clear HYES HNO
        go_wp2_with (go_at_call 47; refine (within_any _ _ _ _).mono ?_; rintro e w' ⟨rfl, h9⟩; have h8 := h9.symm; subst h8; clear h9)
        go_roundg (F.length - (k + 1))
        case measure => omega
        case rel => exact ⟨unhide HWA, k + 1, by omega, rfl, by go_num, HFF⟩
      · have HT := hide (unhide HYES (by rw [h1, h2, h3]; rfl))
        clear HYES HNO
        go_wp2_with (go_at_call 47; refine (within_any _ _ _ _).mono ?_; rintro e w' ⟨rfl, h9⟩; have h8 := h9.symm; subst h8; clear h9)
        go_ret
        exact ⟨ret_bool (unhide HT).symm, Below.step (unhide HW) (unhide HWA)⟩
    · have HAF := hide (any_f (xs := F) (d := default) (p := shut1 x y step) (fun r hr => unhide HFF r (by omega)))
      have hkF : ¬ (k : Int) < F.length := by omega
      have HA := hide hA
      clear HFF hA hWq
      go_wp2
      go_ret
      exact ⟨ret_bool (unhide HAF).symm, unhide HA⟩

end Go.Proofs.Ytahgblhmdhjahaa

/- FnAverage, walked: drawn shares come to the loss, each within one unit of its part. Written by wip/mkly.py. -/
import Derived.Test.YticminoejikdfaaAvH
import Derived.Test.YticminoejikdfaaAvX
import Derived.Test.YticminoejikdfaaAtFix
import Derived.Test.YticminoejikdfaaWalkQ
namespace Go.Proofs.Yticminoejikdfaa
open Go.RowKit

theorem smA_snoc {C : List Int} {x : Int} {i : Nat} (h : C.length = i) : smA (C ++ [x]) (i + 1) = smA C i + x := by
  subst h
  have e : smA (C ++ [x]) (C.length + 1) = smA (C ++ [x]) C.length + ix (C ++ [x]) C.length := rfl
  rw [e]
  have e1 : smA (C ++ [x]) C.length = smA C C.length := sumTo_cong fun j hj => by show ix (C ++ [x]) j = ix C j; unfold ix; simp [List.getD, List.getElem?_append_left hj]
  have e2 : ix (C ++ [x]) C.length = x := by unfold ix; simp [List.getD]
  rw [e1, e2]
theorem ix_snoc {C : List Int} {x : Int} {i j : Nat} (h : C.length = i) (hj : j < i + 1) (hC : ∀ j, j < i → 0 ≤ ix C j ∧ ix C j ≤ 765) (hx : 0 ≤ x ∧ x ≤ 765) : 0 ≤ ix (C ++ [x]) j ∧ ix (C ++ [x]) j ≤ 765 := by
  subst h
  by_cases e : j < C.length
  · have : ix (C ++ [x]) j = ix C j := by unfold ix; simp [List.getD, List.getElem?_append_left e]
    rw [this]; exact hC j e
  · have : ix (C ++ [x]) j = x := by rw [show j = C.length by omega]; unfold ix; simp [List.getD]
    rw [this]; exact hx
theorem sm_small {C : List Int} {i : Nat} (h : ∀ j, j < i → 0 ≤ ix C j ∧ ix C j ≤ 765) : 0 ≤ smA C i ∧ smA C i ≤ (i : Int) * 765 := sumTo_bd (f := fun i => ix C i) (B := 765) (n := i) (fun j hj => h j hj) i (Nat.le_refl _)

set_option maxRecDepth 10000 in
set_option maxHeartbeats 16000000 in
theorem fnAverage_any (v : Value) (n : Nat) (w : World) (h : BytesIn w.heap.size w v n) : Calls Try.prog 4 #[v] w fun e w' => e = .returned (.bool true) ∧ Below w.heap.size w w' := by
  have HV := hide h
  obtain ⟨ao, cap, rfl, -⟩ := h
  by_cases hbig : 1048576 < (n : Int)
  · go_enter Try.func4, Try.ntmps4
    go_wp2_with (go_at_call 11; refine (big_any _ _ _ _).mono ?_; rintro e w' ⟨rfl, rfl⟩)
    go_ret
    exact ⟨rfl, Below.refl _ _⟩
  have hn : n ≤ 1048576 := by omega
  obtain ⟨y0, y00, y01, A0⟩ := at_fix _ n 0 w (unhide HV) hn (by omega)
  obtain ⟨yc, yc0, yc1, AC⟩ := at_fix _ n 12 w (unhide HV) hn (by omega)
  have HA0 := hide A0
  have HAC := hide AC
  have HAI := hide fun (c : Int) V (hV : Below w.heap.size w V) h0 h1 => at_i _ n w.heap.size c V ((unhide HV).below hV (Nat.le_refl _)) hn h0 h1
  obtain ⟨N, eN⟩ : ∃ N : Nat, (N : Int) = 1 + y0 % 10 := ⟨(1 + y0 % 10).toNat, by omega⟩
  have k1 : y0.tmod 10 = (N : Int) - 1 := by rw [Int.tmod_eq_emod_of_nonneg y00]; omega
  have k2 : y0 % 10 = (N : Int) - 1 := by omega
  have hN1 : 1 ≤ N := by omega
  have hN2 : N ≤ 10 := by omega
  clear A0 AC eN
  have HR0 := hide (rowB_new 3 1 eI w w.heap.size (Nat.le_refl _))
  have HB0 := hide (Below.alloc1 w (.cells #[] 3))
  go_enter Try.func4, Try.ntmps4
  go_wp2_with (go_at_call 11; refine (big_any _ _ _ _).mono ?_; rintro e w' ⟨rfl, rfl⟩)
  go_loopg [3, 4, 5] N (fun gg cv xv iv wr => ∃ (i g c : Nat) (C : List Int) (sm : Int), i ≤ N ∧ gg = N - i ∧ iv = .int .i64 i ∧ xv = .int .i64 sm ∧ cv = .slice (some ⟨g, 0, none⟩) i c ∧ Hid (RowB 3 1 eI w.heap.size wr (some ⟨g, 0, none⟩) i c C) ∧ Hid (sm = smA C i) ∧ Hid (∀ j, j < i → 0 ≤ ix C j ∧ ix C j ≤ 765) ∧ Hid (Below w.heap.size w wr))
  case atStart => exact ⟨0, w.heap.size, 0, [], 0, Nat.zero_le _, rfl, rfl, rfl, rfl, HR0, rfl, fun j hj => by omega, HB0⟩
  case round =>
    clear HR0 HB0
    obtain ⟨i, g, c, C, sm, hi, rfl, rfl, rfl, rfl, HR, ES, HD, HW⟩ := hrel
    have hsm := sm_small (unhide HD)
    rw [← unhide ES] at hsm
    obtain ⟨sm0, sm1⟩ := hsm
    have hCL := (unhide HR).len (by omega)
    have HCL := hide hCL
    clear hCL
    by_cases hiN : i < N
    · have hiNi : (i : Int) < N := by omega
      have d0 : decide ((i : Int) < 1 + ((N : Int) - 1)) = true := by rw [decide_eq_true_eq]; omega
      go_wp2_with fail
      refine (unhide HA0 _ (unhide HW)).mono ?_
      rintro e w9 ⟨rfl, h9⟩
      have h8 := h9.symm
      subst h8
      clear h9
      go_wp2_with fail
      refine (unhide HAI ((i : Int) + 1) _ (unhide HW) (by omega) (by omega)).mono ?_
      rintro e w' ⟨y, rfl, hy0, hy1, rfl⟩
      have A1 := Below.alloc1 wr (.cells #[.int .i64 (y * 3)] 3)
      have HG := hide (ownV_alloc wr #[.int .i64 (y * 3)] 3)
      have HRa := hide ((unhide HR).below A1)
      have HWa := hide (Below.step (unhide HW) A1)
      have ES2 : Hid (sm + y * 3 = smA (C ++ [y * 3]) (i + 1)) := by show _ = _; rw [smA_snoc (unhide HCL), unhide ES]
      have HD2 : Hid (∀ j, j < i + 1 → 0 ≤ ix (C ++ [y * 3]) j ∧ ix (C ++ [y * 3]) j ≤ 765) := fun j hj => ix_snoc (unhide HCL) hj (unhide HD) ⟨by omega, by omega⟩
      have hgb := (unhide HRa).ownI.2.2.2.2.2
      clear A1
      go_upto_region 10 with (at_builtin; go_must (refine wpList_appRow tyI _ rfl (.tmp 30) (.tmp 32) rfl w.heap.size (some ⟨g, 0, none⟩) i c C rfl (unhide HRa) (unhide HWa).size (by omega) wr.heap.size (y * 3) 1 rfl (unhide HG) ?_); intro g2 c2 wb hL hKp hBg hat; have HL1 := hide hL; have HKP := hide hKp; clear hL hKp hat)
      have HW2 : Hid (Below w.heap.size w wb) := (unhide HWa).trans ((unhide HKP).below (unhide HWa).size (fun b e => by simp only [Option.some.injEq, Addr.mk.injEq, and_true] at e; omega))
      clear HKP HRa HWa HG HR HW
      go_wp2
      go_roundg (N - (i + 1))
      case measure => omega
      case rel => exact ⟨i + 1, g2, c2, C ++ [y * 3], sm + y * 3, by omega, rfl, by go_num, rfl, rfl, HL1, ES2, HD2, HW2⟩
    · obtain rfl : i = N := by omega
      have d0 : decide ((i : Int) < 1 + ((i : Int) - 1)) = false := by rw [decide_eq_false_iff_not]; omega
      have ho := (unhide HR).ownI
      obtain ⟨ho1, ho2, ho3, ho4, -, -⟩ := ho
      have HOC := hide ho1
      have HIN : Hid (IntsIn wr (.slice (some ⟨g, 0, none⟩) i c) C) := by
        have h1 := OwnV.intsIn (cap := c) ho1 (by rw [unhide HCL]; exact ho2) ho3
        rw [unhide HCL] at h1
        exact h1
      have hG : avG C := ⟨by rw [unhide HCL]; omega, fun j hj => by have := unhide HD j (by rw [← unhide HCL]; exact hj); omega⟩
      have HQ := hide (implAverage_ans _ C (yc * 5) wr (unhide HIN))
      have ESC : Hid (smA C C.length = sm) := by show _ = _; rw [unhide HCL, unhide ES]
      unfold maxLen at ho3
      clear ho1 HIN HR
      go_wp2_with fail
      refine (unhide HA0 _ (unhide HW)).mono ?_
      rintro e w9 ⟨rfl, h9⟩
      have h8 := h9.symm
      subst h8
      clear h9
      go_wp2_with fail
      refine (unhide HAC _ (unhide HW)).mono ?_
      rintro e w9 ⟨rfl, h9⟩
      have h8 := h9.symm
      subst h8
      clear h9
      by_cases hok : avOk C (yc * 5)
      case neg =>
        rw [avV_not hok] at HQ
        go_wp2_with fail
        refine (unhide HQ).mono ?_
        rintro e w2 ⟨a, m, cp, rfl, hs, hb⟩
        obtain ⟨a', c', e', -⟩ := hs
        simp only [Value.slice.injEq, List.length_nil] at e'
        obtain ⟨rfl, rfl, rfl⟩ := e'
        have HW2 := hide (Below.step (unhide HW) hb)
        clear hb HQ
        by_cases hz : sm = 0
        · have dz : (sm == 0) = true := by simp [hz]
          have HZ := hide hz
          clear hz
          go_wp2
          go_ret
          exact ⟨rfl, unhide HW2⟩
        · have dz : (sm == 0) = false := by simp [hz]
          have hlt : sm < yc * 5 := by
            refine Int.not_le.1 fun hle => hok ⟨hG, by rw [unhide ESC]; omega, ⟨by omega, by omega⟩, by rw [unhide ESC]; exact hle⟩
          have dl : decide (sm < yc * 5) = true := by simpa using hlt
          go_wp2
          go_ret
          exact ⟨rfl, unhide HW2⟩
      have hS := hok.2.1
      have hxS := hok.2.2.2
      rw [unhide ESC] at hS hxS
      have HOK := hide hok
      have HU := hide (av_units hok)
      have HNR := hide fun j hj => av_near hok (i := j) hj
      have HBD := hide fun (t j : Nat) hj => avS_bd hok (t := t) (i := j) hj
      rw [avV_yes hok] at HQ
      rw [unhide ESC] at HNR
      rw [unhide HCL] at HU HNR HBD
      obtain ⟨t, et⟩ : ∃ t : Nat, t = (avl C (yc * 5) C.length).toNat := ⟨_, rfl⟩
      rw [← et] at HQ
      have eti : (avl C (yc * 5) i).toNat = t := by rw [et, unhide HCL]
      rw [eti] at HU HNR
      have hAl : (avS C (yc * 5) t).length = i := by rw [avS_len, unhide HCL]
      clear hok et eti
      have HBO : Hid (∀ j, j < i → 0 ≤ ix (avS C (yc * 5) t) j ∧ ix (avS C (yc * 5) t) j ≤ 1276) := fun j hj => by have := unhide HBD t j hj; omega
      clear HBD
      generalize avS C (yc * 5) t = O at *
      have HOL := hide hAl
      clear hAl
      have dz : (sm == 0) = false := by simp; omega
      have dl : decide (sm < yc * 5) = false := by simp; omega
      go_wp2_with fail
      refine (unhide HQ).mono ?_
      rintro e w2 ⟨a, m, cp, rfl, hs, hb⟩
      obtain ⟨a', c', e', hs1, hs2, hs3⟩ := hs
      simp only [Value.slice.injEq] at e'
      obtain ⟨rfl, e2, rfl⟩ := e'
      rw [unhide HOL] at e2 hs1
      subst e2
      dsimp only at hs3
      obtain ⟨go, rfl, hgo, hoo⟩ := hs3 (fun e => by have := unhide HOL; rw [e] at this; simp at this; omega)
      have HOO := hide hoo
      replace HOC := hide ((unhide HOC).step hb)
      replace HW := hide (Below.step (unhide HW) hb)
      have hnn : ((m : Int) != (m : Int)) = false := by simp
      unfold maxLen at hs2
      clear hb HQ hoo
      generalize w2 = wo at *
      go_wp2
      go_loopg [7, 10] m (fun gg lv iv wr => Hid (wr = wo) ∧ ∃ (k : Nat) (lf : Int), k ≤ m ∧ gg = m - k ∧ iv = .int .i64 (k : Int) ∧ lv = .int .i64 lf ∧ Hid (lf = yc * 5 - sumTo (fun i => ix O i) k) ∧ -20000 ≤ lf + 2000 * (m : Int) - 2000 * ((m : Int) - k) ∧ lf ≤ 1275)
      case atStart => exact ⟨rfl, 0, yc * 5, Nat.zero_le _, rfl, rfl, rfl, by show _ = _; simp [sumTo], by omega, by omega⟩
      case round =>
        obtain ⟨HWW, k, lf, hk, rfl, rfl, rfl, HLF, hl0, hl1⟩ := hrel
        have hww := (unhide HWW).symm
        subst hww
        clear HWW
        by_cases hkm : k < m
        · have hkI : (k : Int) < m := by omega
          have co := (unhide HOO).cell (ints_atA (M := O) (p := k) (by rw [unhide HOL]; exact hkm))
          have HLF2 : Hid (lf - ix O k = yc * 5 - sumTo (fun i => ix O i) (k + 1)) := by show _ = yc * 5 - (sumTo (fun i => ix O i) k + ix O k); rw [unhide HLF]; omega
          have hov2 := unhide HBO k hkm
          generalize ix O k = ov at *
          obtain ⟨v0, v1⟩ := hov2
          have w1 : IntKind.i64.wrap (lf - ov) = lf - ov := by rw [IntKind.wrap_i64]; omega
          go_wp2
          go_roundg (m - (k + 1))
          case measure => omega
          case rel => exact ⟨rfl, k + 1, lf - ov, by omega, rfl, by go_num, rfl, HLF2, by omega, by omega⟩
        · obtain rfl : k = m := by omega
          have hlf : lf = 0 := by have h1 := unhide HLF; rw [unhide HU] at h1; omega
          subst hlf
          clear HLF hl0 hl1
          go_wp2_with fail
          refine (unhide HAC _ (unhide HW)).mono ?_
          rintro e w9 ⟨rfl, h9⟩
          have h8 := h9.symm
          subst h8
          clear h9
          go_wp2
          go_loopg [12] k (fun gg iv wr => Hid (Below wo.heap.size wo wr) ∧ ∃ j : Nat, j ≤ k ∧ gg = k - j ∧ iv = .int .i64 (j : Int))
          case atStart => exact ⟨Below.refl _ _, 0, Nat.zero_le _, rfl, rfl⟩
          case round =>
            obtain ⟨HWW, j, hj, rfl, rfl⟩ := hrel
            by_cases hjk : j < k
            · have hjI : (j : Int) < k := by omega
              have co := ((unhide HOO).step (unhide HWW)).cell (ints_atA (M := O) (p := j) (by rw [unhide HOL]; exact hjk))
              have cc := ((unhide HOC).step (unhide HWW)).cell (ints_atA (M := C) (p := j) (by rw [unhide HCL]; exact hjk))
              have hnr := unhide HNR j hjk
              have hcv := unhide HD j hjk
              have hov2 := unhide HBO j hjk
              generalize ix O j = ov at *
              generalize ix C j = xv at *
              have m1 : 0 ≤ ov * sm ∧ ov * sm ≤ 1276 * 7650 := ⟨Int.mul_nonneg hov2.1 sm0, Int.mul_le_mul hov2.2 (by omega) sm0 (by omega)⟩
              have m2 : 0 ≤ yc * 5 * xv ∧ yc * 5 * xv ≤ 1275 * 765 := ⟨Int.mul_nonneg (by omega) hcv.1, Int.mul_le_mul (by omega) hcv.2 hcv.1 (by omega)⟩
              obtain ⟨p1, ep1⟩ : ∃ p, p = ov * sm := ⟨_, rfl⟩
              obtain ⟨p2, ep2⟩ : ∃ p, p = yc * 5 * xv := ⟨_, rfl⟩
              rw [← ep1, ← ep2] at hnr
              rw [← ep1] at m1
              rw [← ep2] at m2
              obtain ⟨m10, m11⟩ := m1
              obtain ⟨m20, m21⟩ := m2
              have wz1 : IntKind.i64.wrap (ov * sm) = p1 := by rw [← ep1, IntKind.wrap_i64]; omega
              have wz2 : IntKind.i64.wrap (yc * 5 * xv) = p2 := by rw [← ep2, IntKind.wrap_i64]; omega
              have wz3 : IntKind.i64.wrap (p1 - p2) = p1 - p2 := by rw [IntKind.wrap_i64]; omega
              have wz4 : IntKind.i64.wrap (-sm) = -sm := by rw [IntKind.wrap_i64]; omega
              obtain ⟨n1, n2⟩ := hnr
              have dn1 : decide (p1 - p2 ≤ -sm) = false := by simp; omega
              have dn2 : decide (sm ≤ p1 - p2) = false := by simp; omega
              clear ep1 ep2
              go_wp2_with fail
              go_quiet (fail)
              go_wp2
              go_roundg (k - (j + 1))
              case measure => omega
              case rel => exact ⟨below_drewN (unhide HWW) _, j + 1, by omega, rfl, by go_num⟩
            · obtain rfl : j = k := by omega
              go_wp2
              go_ret
              exact ⟨by simp, Below.step (unhide HW) (unhide HWW)⟩


end Go.Proofs.Yticminoejikdfaa

/- FnWindows: whatever the bytes, the windows of drawn depths are apart and hold just the minutes that are deep enough, and a stay told for lies in one. -/
import Derived.Test.YtglehiakikhlaaaFwB
import Derived.Test.YtglehiakikhlaaaDwB
import Derived.Test.YtglehiakikhlaaaAtFix
import Derived.Test.YtglehiakikhlaaaBoA
import Derived.Test.YtglehiakikhlaaaTiF
import Derived.Test.YtglehiakikhlaaaTiH
import Derived.BigRegion
namespace Go.Proofs.Ytglehiakikhlaaa
open Go.RowKit

theorem cov0 (L : List I2) (i : Nat) : cov L 0 (fr L 0) i = false := by
  unfold cov
  by_cases h : fr L 0 ≤ (i : Int)
  · rw [decide_eq_false (show ¬ (i : Int) < fr L 0 by omega)]; simp
  · rw [decide_eq_false h]; simp

theorem made_false (w : World) (n : Nat) : OwnV (w.alloc (.cells (madeCells #[.bool false] n) 4)) w.heap.size (List.replicate n (.bool false)) := by
  have h : (w.alloc (.cells (madeCells #[.bool false] n) 4)).rowIs w.heap.size 4 n (fun _ => .bool false) := (World.rowIs_made w _ n 4).congr (fun j _ => by simp)
  exact rowIs_ownV h (by simp) (fun i hi => by simp [hi])
theorem cov_start (L : List I2) (n : Nat) : (covL L 0 (fr L 0) n).map Value.bool = List.replicate n (.bool false) := by
  apply List.ext_getElem
  · simp [covL]
  · intro i h1 h2
    simp [covL, cov0]

set_option maxRecDepth 10000 in
set_option maxHeartbeats 16000000 in
theorem fnWindows_any (v : Value) (nb : Nat) (w : World) (h : BytesIn w.heap.size w v nb) :
    Calls Try.prog 3 #[v] w fun e w' => e = .returned (.bool true) ∧ Below w.heap.size w w' := by
  have HB := hide h
  obtain ⟨vao, vcap, rfl, hl, hm, _⟩ := h
  unfold maxLen at hm
  by_cases hbig : (1048576 : Int) < (nb : Int)
  · go_enter Try.func3, Try.ntmps3
    go_wp2_with fail
    refine (big_any _ _ _ _).mono ?_
    rintro e w' ⟨rfl, rfl⟩
    go_wp2
    go_ret
    exact ⟨rfl, Below.refl _ _⟩
  have hn : nb ≤ 1048576 := by omega
  obtain ⟨y1, y10, y11, at1⟩ := at_fix _ nb 1 w (unhide HB) hn (by omega)
  obtain ⟨y2, y20, y21, at2⟩ := at_fix _ nb 2 w (unhide HB) hn (by omega)
  have AT1 := hide at1
  have AT2 := hide at2
  have HDR := hide (drawWindowsOf_any _ nb w (unhide HB) hn)
  clear at1 at2
  go_enter Try.func3, Try.ntmps3
  go_wp2_with fail
  refine (big_any _ _ _ _).mono ?_
  rintro e w' ⟨rfl, rfl⟩
  go_wp2_with fail
  refine (unhide HDR).mono ?_
  rintro e w1 ⟨u, xs, need, rfl, hX, hxl, hb⟩
  have HIW := hide (implWindowsOf_any u xs need w1 hX)
  obtain ⟨xao, xcap, rfl, hxc, hxm, hxcell⟩ := hX
  unfold maxLen at hxm
  have HX := hide hxcell
  have HW1 := hide hb
  clear hb hxcell HDR
  go_wp2_with fail
  refine (unhide HIW).mono ?_
  rintro e w2 ⟨la, ln, lc, rfl, ho, hb⟩
  have hR := ho.intsIn
  have HF := hide (winF xs need)
  have hLl := windowsOf_len xs need
  have HX2 : Hid (∀ i, i < xs.length → ∃ b o, xao = some ⟨b, o, none⟩ ∧ w2.cell? ⟨b, o + i, none⟩ = some (.float .f64 (xs.getD i 0))) := fun i hi => by
    obtain ⟨b, o, e1, hc⟩ := unhide HX i hi
    exact ⟨b, o, e1, (hb.cell (lt_of_cell hc)).trans hc⟩
  have HW2 := hide (Below.step (unhide HW1) hb)
  clear hb ho HIW HX HW1
  generalize windowsOf xs need = L at *
  have HR2 := hide hR
  obtain ⟨aw, cw, ew, hw1, hw2, hw3⟩ := hR
  simp only [Value.slice.injEq] at ew
  obtain ⟨rfl, rfl, rfl⟩ := ew
  unfold maxLen at hw2
  have HL := hide hw3
  clear hw3
  have hmk := run_make_row' (P := Try.prog) 30 4 (.bool false) 1 Try.underlying30 Try.infoBool rfl .i64 .i64 xs.length (by omega) (by omega)
  have hO0 := made_false w2 xs.length
  rw [← cov_start L xs.length] at hO0
  have HO0 := hide hO0
  have A := Below.alloc1 w2 (.cells (madeCells #[.bool false] xs.length) 4)
  have HW3 := hide (Below.step (unhide HW2) A)
  have hg : w.heap.size ≤ w2.heap.size := (unhide HW2).size
  have HX3 : Hid (∀ i, i < xs.length → ∃ b o, xao = some ⟨b, o, none⟩ ∧ b < w2.heap.size ∧ (w2.alloc (.cells (madeCells #[.bool false] xs.length) 4)).cell? ⟨b, o + i, none⟩ = some (.float .f64 (xs.getD i 0))) := fun i hi => by
    obtain ⟨b, o, e1, hc⟩ := unhide HX2 i hi
    exact ⟨b, o, e1, lt_of_cell hc, (A.cell (lt_of_cell hc)).trans hc⟩
  have HL3 : Hid (∀ i, i < L.length → ∃ b o, la = some ⟨b, o, none⟩ ∧ b < w2.heap.size ∧ (w2.alloc (.cells (madeCells #[.bool false] xs.length) 4)).cell? ⟨b, o + i * 2, none⟩ = some (.int .i64 (fr L i)) ∧ (w2.alloc (.cells (madeCells #[.bool false] xs.length) 4)).cell? ⟨b, o + i * 2 + 1, none⟩ = some (.int .i64 (til L i))) := fun i hi => by
    obtain ⟨b, o, e1, hc⟩ := unhide HL i hi
    have c0 := hc 0 (by omega)
    have c1 := hc 1 (by omega)
    exact ⟨b, o, e1, lt_of_cell c0, (A.cell (lt_of_cell c0)).trans c0, (A.cell (lt_of_cell c1)).trans c1⟩
  have HR3 := hide ((unhide HR2).below A)
  have hsz3 := A.size
  clear A hO0 HX2 HL HR2 HW2
  go_wp2
  clear hmk
  obtain ⟨W3, e3⟩ : ∃ z, z = w2.alloc (.cells (madeCells #[.bool false] xs.length) 4) := ⟨_, rfl⟩
  rw [← e3] at HO0 HW3 HX3 HL3 HR3 hsz3 ⊢
  clear e3
  generalize w2.heap.size = G at *
  have HK0 := hide (Below.refl G W3)
  go_loopg [7] L.length (fun g iv wr => ∃ i : Nat, i ≤ L.length ∧ g = L.length - i ∧ iv = .int .i64 i ∧ Hid (Below G W3 wr) ∧ Hid (OwnV wr G ((covL L i (fr L i) xs.length).map Value.bool)))
  case atStart => exact ⟨0, Nat.zero_le _, rfl, rfl, HK0, HO0⟩
  case round =>
    clear HK0 HO0
    obtain ⟨i, hiL, rfl, rfl, HK, HO⟩ := hrel
    by_cases hin : i < L.length
    · obtain ⟨b, o, rfl, hbG, hx, hy⟩ := unhide HL3 i hin
      have g0 := ((unhide HK).cell (p := ⟨b, o + i * 2, none⟩) hbG).trans hx
      have g1 := ((unhide HK).cell (p := ⟨b, o + i * 2 + 1, none⟩) hbG).trans hy
      obtain ⟨b1, b2, b3⟩ := (unhide HF).bd i hin
      have hii : (i : Int) < L.length := by omega
      have EFX : Hid (fr L i = fr L i) := rfl
      obtain ⟨x, ex⟩ : ∃ z, z = fr L i := ⟨_, rfl⟩
      obtain ⟨y, ey⟩ : ∃ z, z = til L i := ⟨_, rfl⟩
      replace EFX : Hid (x = fr L i) := ex
      have ETX : Hid (y = til L i) := ey
      rw [← ex] at hx g0 b1 b2 HO
      rw [← ey] at hy g1 b2 b3
      clear ex ey
      have d1 : decide (y < x) = false := by simp; omega
      have d2 : decide (x < 0) = false := by simp; omega
      have d3 : decide ((xs.length : Int) ≤ y) = false := by simp; omega
      have hLb : (i : Int) ≤ 1500 := by omega
      by_cases hi0 : i = 0
      · have d4 : decide ((0 : Int) < (i : Int)) = false := by simp; omega
        have d4' : decide (0 < i) = false := by simp; omega
        clear hi0
        go_wp2
        go_quiet (fail)
        obtain ⟨V1, ev⟩ : ∃ z, z = wr.drewN nq := ⟨_, rfl⟩
        rw [← ev]
        replace HK : Hid (Below G W3 V1) := by show Below _ _ _; rw [ev]; exact (unhide HK).trans (drewN_below G wr nq)
        replace HO : Hid (OwnV V1 G ((covL L i x xs.length).map Value.bool)) := by show OwnV _ _ _; rw [ev]; exact OwnV.drewN (unhide HO) nq
        clear ev g0 g1
        have g0 := ((unhide HK).cell (p := ⟨b, o + i * 2, none⟩) hbG).trans hx
        have g1 := ((unhide HK).cell (p := ⟨b, o + i * 2 + 1, none⟩) hbG).trans hy
        generalize wr = wq at *
        go_wp2
        go_loopg [8] (y + 1 - x).toNat (fun g mv wr => ∃ p : Int, x ≤ p ∧ p ≤ y + 1 ∧ g = (y + 1 - p).toNat ∧ mv = .int .i64 p ∧ Hid (Below G W3 wr) ∧ Hid (OwnV wr G ((covL L i p xs.length).map Value.bool)))
        case atStart => exact ⟨x, Int.le_refl _, by omega, rfl, rfl, HK, HO⟩
        case round =>
          clear HK HO g0 g1
          obtain ⟨p, hp1, hp2, rfl, rfl, HK, HO⟩ := hrel
          have g1 := ((unhide HK).cell (p := ⟨b, o + i * 2 + 1, none⟩) hbG).trans hy
          by_cases hpy : p ≤ y
          · obtain ⟨q, rfl⟩ := Int.eq_ofNat_of_zero_le (show 0 ≤ p by omega)
            have hqn : q < xs.length := by omega
            have c0 := (unhide HO).cell (map_get (E := Value.bool) (covL L i q xs.length) (i := q) (by rw [covL_len]; exact hqn))
            have cf := (unhide HO).frozen
            have hN := (unhide HO).set q (.bool true) (by rw [List.length_map, covL_len]; exact hqn)
            rw [← List.map_set, covL_set L i rfl (by rw [← unhide EFX]; exact hp1)] at hN
            have HN := hide hN
            have hqi : (q : Int) < xs.length := by omega
            clear hN
            generalize (covL L i q xs.length).getD q default = z at *
            go_wp2
            go_roundg (y + 1 - ((q : Int) + 1)).toNat
            case measure => omega
            case rel => exact ⟨(q : Int) + 1, by omega, by omega, rfl, by go_num, (unhide HK).setCell (p := ⟨G, q, none⟩) (Nat.le_refl _) _, HN⟩
          · have hpe : p = y + 1 := by omega
            subst hpe
            have HO2 : Hid (OwnV wr G ((covL L (i + 1) (fr L (i + 1)) xs.length).map Value.bool)) := by
              show OwnV _ _ _
              have := unhide HO
              rw [unhide ETX, covL_close L i xs.length (fr L (i + 1)) (Int.le_refl _)] at this
              exact this
            go_wp2
            go_roundg (L.length - (i + 1))
            case measure => omega
            case rel => exact ⟨i + 1, by omega, rfl, by go_num, HK, HO2⟩
      · obtain ⟨pr, epr⟩ : ∃ z, z = i - 1 := ⟨_, rfl⟩
        obtain ⟨b', o', e', _, _, hy'⟩ := unhide HL3 pr (by omega)
        simp only [Option.some.injEq, Addr.mk.injEq, and_true] at e'
        obtain ⟨rfl, rfl⟩ := e'
        have g2 := ((unhide HK).cell (p := ⟨b, o + pr * 2 + 1, none⟩) hbG).trans hy'
        have hap := (unhide HF).ap pr (by omega)
        have hbd := (unhide HF).bd pr (by omega)
        rw [show pr + 1 = i by omega, ← unhide EFX] at hap
        generalize til L pr = yp at *
        have d4 : decide ((0 : Int) < (i : Int)) = true := by simp; omega
        have d4' : decide (0 < i) = true := by simp; omega
        have d5 : decide (x < yp + 2) = false := by simp; omega
        have q1 : IntKind.i64.wrap ((i : Int) - 1) = (pr : Int) := by rw [IntKind.wrap_i64]; omega
        have q2 : IntKind.i64.wrap (yp + 2) = yp + 2 := by rw [IntKind.wrap_i64]; omega
        have hpi : (pr : Int) < L.length := by omega
        clear hi0 epr hbd
        go_wp2
        go_quiet (fail)
        obtain ⟨V1, ev⟩ : ∃ z, z = wr.drewN nq := ⟨_, rfl⟩
        rw [← ev]
        replace HK : Hid (Below G W3 V1) := by show Below _ _ _; rw [ev]; exact (unhide HK).trans (drewN_below G wr nq)
        replace HO : Hid (OwnV V1 G ((covL L i x xs.length).map Value.bool)) := by show OwnV _ _ _; rw [ev]; exact OwnV.drewN (unhide HO) nq
        clear ev g0 g1 g2
        have g0 := ((unhide HK).cell (p := ⟨b, o + i * 2, none⟩) hbG).trans hx
        have g1 := ((unhide HK).cell (p := ⟨b, o + i * 2 + 1, none⟩) hbG).trans hy
        generalize wr = wq at *
        go_wp2
        go_loopg [8] (y + 1 - x).toNat (fun g mv wr => ∃ p : Int, x ≤ p ∧ p ≤ y + 1 ∧ g = (y + 1 - p).toNat ∧ mv = .int .i64 p ∧ Hid (Below G W3 wr) ∧ Hid (OwnV wr G ((covL L i p xs.length).map Value.bool)))
        case atStart => exact ⟨x, Int.le_refl _, by omega, rfl, rfl, HK, HO⟩
        case round =>
          clear HK HO g0 g1
          obtain ⟨p, hp1, hp2, rfl, rfl, HK, HO⟩ := hrel
          have g1 := ((unhide HK).cell (p := ⟨b, o + i * 2 + 1, none⟩) hbG).trans hy
          by_cases hpy : p ≤ y
          · obtain ⟨q, rfl⟩ := Int.eq_ofNat_of_zero_le (show 0 ≤ p by omega)
            have hqn : q < xs.length := by omega
            have c0 := (unhide HO).cell (map_get (E := Value.bool) (covL L i q xs.length) (i := q) (by rw [covL_len]; exact hqn))
            have cf := (unhide HO).frozen
            have hN := (unhide HO).set q (.bool true) (by rw [List.length_map, covL_len]; exact hqn)
            rw [← List.map_set, covL_set L i rfl (by rw [← unhide EFX]; exact hp1)] at hN
            have HN := hide hN
            have hqi : (q : Int) < xs.length := by omega
            clear hN
            generalize (covL L i q xs.length).getD q default = z at *
            go_wp2
            go_roundg (y + 1 - ((q : Int) + 1)).toNat
            case measure => omega
            case rel => exact ⟨(q : Int) + 1, by omega, by omega, rfl, by go_num, (unhide HK).setCell (p := ⟨G, q, none⟩) (Nat.le_refl _) _, HN⟩
          · have hpe : p = y + 1 := by omega
            subst hpe
            have HO2 : Hid (OwnV wr G ((covL L (i + 1) (fr L (i + 1)) xs.length).map Value.bool)) := by
              show OwnV _ _ _
              have := unhide HO
              rw [unhide ETX, covL_close L i xs.length (fr L (i + 1)) (Int.le_refl _)] at this
              exact this
            go_wp2
            go_roundg (L.length - (i + 1))
            case measure => omega
            case rel => exact ⟨i + 1, by omega, rfl, by go_num, HK, HO2⟩
    · have hie : i = L.length := by omega
      subst hie
      rw [fr_out] at HO
      generalize wr = W4 at *
      have hLi : (L.length : Int) ≤ L.length := Int.le_refl _
      go_wp2
      go_loopg [9] xs.length (fun g mv wr => ∃ m : Nat, m ≤ xs.length ∧ g = xs.length - m ∧ mv = .int .i64 m ∧ (1500 < xs.length → m = 0) ∧ ∃ q, wr = W4.drewN q)
      case atStart => exact ⟨0, Nat.zero_le _, rfl, rfl, fun _ => rfl, 0, rfl⟩
      case round =>
        obtain ⟨m, hmx, rfl, rfl, hbigm, q, hq⟩ := hrel
        have HK5 : Hid (Below G W3 wr) := by show Below _ _ _; rw [hq]; exact (unhide HK).trans (drewN_below G W4 q)
        have HO5 : Hid (OwnV wr G ((covL L L.length 0 xs.length).map Value.bool)) := by show OwnV _ _ _; rw [hq]; exact OwnV.drewN (unhide HO) q
        have HQ := hide hq
        clear hq
        by_cases hgo : m < xs.length ∧ xs.length ≤ 1500
        · obtain ⟨hmn, h15⟩ := hgo
          obtain ⟨b, o, rfl, hbG, hc⟩ := unhide HX3 m hmn
          have g0 := ((unhide HK5).cell (p := ⟨b, o + m, none⟩) hbG).trans hc
          have c0 := (unhide HO5).cell (map_get (E := Value.bool) (covL L L.length 0 xs.length) (i := m) (by rw [covL_len]; exact hmn))
          rw [covL_at L L.length 0 hmn] at c0
          have hiff := ((unhide HF).all h15 m hmn).trans (cov_iff L m 0 (Int.le_refl _)).symm
          have hmi : (m : Int) < xs.length := by omega
          have h15i : (xs.length : Int) ≤ 1500 := by omega
          clear hc
          generalize xs.getD m 0 = x at *
          cases hge : geF x need with
          | true =>
            rw [hiff.1 hge] at c0
            unfold geF at hge
            clear hiff
            go_wp2
            go_quiet (fail)
            go_wp2
            go_roundg (xs.length - (m + 1))
            case measure => omega
            case rel => exact ⟨m + 1, by omega, rfl, by go_num, fun h => by omega, _, by rw [unhide HQ]; exact World.drewN_drewN _ _ _⟩
          | false =>
            have hcf : cov L L.length 0 m = false := by
              cases hc2 : cov L L.length 0 m with
              | false => rfl
              | true => have := hiff.2 hc2; rw [hge] at this; cases this
            rw [hcf] at c0
            unfold geF at hge
            clear hiff
            go_wp2
            go_quiet (fail)
            go_wp2
            go_roundg (xs.length - (m + 1))
            case measure => omega
            case rel => exact ⟨m + 1, by omega, rfl, by go_num, fun h => by omega, _, by rw [unhide HQ]; exact World.drewN_drewN _ _ _⟩
        · generalize wr = V5 at *
          clear HK HO HQ
          by_cases hmn : m < xs.length
          · have h15i : (1500 : Int) < xs.length := by omega
            have hmi : (m : Int) < xs.length := by omega
            have HW5 := hide ((unhide HW3).trans ((unhide HK5).mono hg))
            go_wp2_with fail
            refine (unhide AT1 _ (unhide HW5)).mono ?_
            rintro e w' ⟨rfl, hw'⟩
            have hw2 := hw'.symm
            subst hw2
            clear hw'
            go_wp2_with fail
            refine (unhide AT2 _ (unhide HW5)).mono ?_
            rintro e w' ⟨rfl, hw'⟩
            have hw2 := hw'.symm
            subst hw2
            clear hw'
            obtain ⟨f, ef⟩ : ∃ z, z = y1 % 40 := ⟨_, rfl⟩
            obtain ⟨mn, em⟩ : ∃ z, z = 1 + y2 % 6 := ⟨_, rfl⟩
            have hf0 : 0 ≤ f ∧ f < 40 := by omega
            have hm0 : 1 ≤ mn ∧ mn ≤ 6 := by omega
            have HR5 : Hid (R2 V5 (.slice la L.length lc) L) := ⟨la, lc, rfl, hw1, by unfold maxLen; omega, fun i hi => by
              obtain ⟨b, o, e1, hbG, hx, hy⟩ := unhide HL3 i hi
              refine ⟨b, o, e1, fun j hj => ?_⟩
              match j, hj with
              | 0, _ => exact ((unhide HK5).cell (p := ⟨b, o + i * 2, none⟩) hbG).trans hx
              | 1, _ => exact ((unhide HK5).cell (p := ⟨b, o + i * 2 + 1, none⟩) hbG).trans hy⟩
            have HIF := hide (implWindowFor_any _ L f mn V5 (unhide HR5))
            have HWI := hide fun hh => windowFor_in (L := L) (f := f) (m := mn) hh
            generalize windowFor L f mn = R at *
            obtain ⟨M, okR⟩ := R
            dsimp only at HIF HWI
            rw [ef, em] at HIF
            go_wp2_with fail
            refine (unhide HIF).mono ?_
            rintro e w6 ⟨rfl, hb6⟩
            have HO6 := hide (OwnV.step (unhide HO5) hb6)
            have HWX := hide (Below.step (unhide HW5) hb6)
            clear hb6 HIF HO5 HR5
            rw [← ef, ← em]
            cases okR with
            | false =>
              have hO2 := ownV_alloc w6 #[.int .i64 2, .int .i64 9] 32
              have HI2 := hide (implWindowFor_any _ [(2, 9)] 4 3 (w6.alloc (.cells #[.int .i64 2, .int .i64 9] 32)) (OwnV.recsIn (n := 2) (enc := e2) (L := [(2, 9)]) (g := w6.heap.size) hO2 (Nat.le_refl 1) (by unfold maxLen; omega)))
              rw [windowFor_one] at HI2
              have HWY := hide (Below.step (unhide HWX) (Below.alloc1 w6 (.cells #[.int .i64 2, .int .i64 9] 32)))
              clear hO2
              go_wp2_with fail
              refine (unhide HI2).mono ?_
              rintro e w8 ⟨rfl, hb8⟩
              have HWZ := hide (Below.step (unhide HWY) hb8)
              clear hb8 HI2 HWY
              go_wp2
              go_ret
              exact ⟨rfl, unhide HWZ⟩
            | true =>
              obtain ⟨i, hi, k1, k2, k3⟩ := unhide HWI rfl
              obtain ⟨c1, c2, c3⟩ := (unhide HF).bd i hi
              have hM0 : 0 ≤ M := by omega
              have hMn : M + mn ≤ xs.length := by omega
              have HIW := hide (And.intro hi (And.intro k2 k3))
              clear HWI k2 k3 c1 c2 c3 hi
              have d6 : decide (M < f) = false := by simp; omega
              have d7 : decide ((xs.length : Int) < M + mn) = false := by simp; omega
              have q7 : IntKind.i64.wrap (M + mn) = M + mn := by rw [IntKind.wrap_i64]; omega
              have hxi : (xs.length : Int) ≤ 1501 := by omega
              go_wp2
              generalize w6 = V6 at *
              go_loopg [14] mn.toNat (fun g kv wr => ∃ p : Int, M ≤ p ∧ p ≤ M + mn ∧ g = (M + mn - p).toNat ∧ kv = .int .i64 p ∧ ∃ q, wr = V6.drewN q)
              case atStart => exact ⟨M, Int.le_refl _, by omega, by omega, rfl, 0, rfl⟩
              case round =>
                obtain ⟨p, hp1, hp2, rfl, rfl, q, hq⟩ := hrel
                have HO7 : Hid (OwnV wr G ((covL L L.length 0 xs.length).map Value.bool)) := by show OwnV _ _ _; rw [hq]; exact OwnV.drewN (unhide HO6) q
                have HW7 : Hid (Below w.heap.size w wr) := by show Below _ _ _; rw [hq]; exact (unhide HWX).trans (drewN_below _ V6 q)
                have HQ := hide hq
                clear hq
                by_cases hpm : p < M + mn
                · obtain ⟨k, rfl⟩ := Int.eq_ofNat_of_zero_le (show 0 ≤ p by omega)
                  have hkn : k < xs.length := by omega
                  have c0 := (unhide HO7).cell (map_get (E := Value.bool) (covL L L.length 0 xs.length) (i := k) (by rw [covL_len]; exact hkn))
                  rw [covL_at L L.length 0 hkn, (cov_iff L k 0 (Int.le_refl _)).2 ⟨i, (unhide HIW).1, by have := (unhide HIW).2; unfold inW; omega⟩] at c0
                  have hki : (k : Int) < xs.length := by omega
                  go_wp2
                  go_roundg (M + mn - ((k : Int) + 1)).toNat
                  case measure => omega
                  case rel => exact ⟨(k : Int) + 1, by omega, by omega, rfl, by go_num, _, unhide HQ⟩
                · generalize wr = V7 at *
                  clear HWX HO6 HO7 HQ
                  have HWX := HW7
                  clear HW7
                  have hO2 := ownV_alloc V7 #[.int .i64 2, .int .i64 9] 32
                  have HI2 := hide (implWindowFor_any _ [(2, 9)] 4 3 (V7.alloc (.cells #[.int .i64 2, .int .i64 9] 32)) (OwnV.recsIn (n := 2) (enc := e2) (L := [(2, 9)]) (g := V7.heap.size) hO2 (Nat.le_refl 1) (by unfold maxLen; omega)))
                  rw [windowFor_one] at HI2
                  have HWY := hide (Below.step (unhide HWX) (Below.alloc1 V7 (.cells #[.int .i64 2, .int .i64 9] 32)))
                  clear hO2
                  go_wp2_with fail
                  refine (unhide HI2).mono ?_
                  rintro e w8 ⟨rfl, hb8⟩
                  have HWZ := hide (Below.step (unhide HWY) hb8)
                  clear hb8 HI2 HWY
                  go_wp2
                  go_ret
                  exact ⟨rfl, unhide HWZ⟩
          · have hmi : (xs.length : Int) ≤ m := by omega
            have HW5 := hide ((unhide HW3).trans ((unhide HK5).mono hg))
            go_wp2_with fail
            refine (unhide AT1 _ (unhide HW5)).mono ?_
            rintro e w' ⟨rfl, hw'⟩
            have hw2 := hw'.symm
            subst hw2
            clear hw'
            go_wp2_with fail
            refine (unhide AT2 _ (unhide HW5)).mono ?_
            rintro e w' ⟨rfl, hw'⟩
            have hw2 := hw'.symm
            subst hw2
            clear hw'
            obtain ⟨f, ef⟩ : ∃ z, z = y1 % 40 := ⟨_, rfl⟩
            obtain ⟨mn, em⟩ : ∃ z, z = 1 + y2 % 6 := ⟨_, rfl⟩
            have hf0 : 0 ≤ f ∧ f < 40 := by omega
            have hm0 : 1 ≤ mn ∧ mn ≤ 6 := by omega
            have HR5 : Hid (R2 V5 (.slice la L.length lc) L) := ⟨la, lc, rfl, hw1, by unfold maxLen; omega, fun i hi => by
              obtain ⟨b, o, e1, hbG, hx, hy⟩ := unhide HL3 i hi
              refine ⟨b, o, e1, fun j hj => ?_⟩
              match j, hj with
              | 0, _ => exact ((unhide HK5).cell (p := ⟨b, o + i * 2, none⟩) hbG).trans hx
              | 1, _ => exact ((unhide HK5).cell (p := ⟨b, o + i * 2 + 1, none⟩) hbG).trans hy⟩
            have HIF := hide (implWindowFor_any _ L f mn V5 (unhide HR5))
            have HWI := hide fun hh => windowFor_in (L := L) (f := f) (m := mn) hh
            generalize windowFor L f mn = R at *
            obtain ⟨M, okR⟩ := R
            dsimp only at HIF HWI
            rw [ef, em] at HIF
            go_wp2_with fail
            refine (unhide HIF).mono ?_
            rintro e w6 ⟨rfl, hb6⟩
            have HO6 := hide (OwnV.step (unhide HO5) hb6)
            have HWX := hide (Below.step (unhide HW5) hb6)
            clear hb6 HIF HO5 HR5
            rw [← ef, ← em]
            cases okR with
            | false =>
              have hO2 := ownV_alloc w6 #[.int .i64 2, .int .i64 9] 32
              have HI2 := hide (implWindowFor_any _ [(2, 9)] 4 3 (w6.alloc (.cells #[.int .i64 2, .int .i64 9] 32)) (OwnV.recsIn (n := 2) (enc := e2) (L := [(2, 9)]) (g := w6.heap.size) hO2 (Nat.le_refl 1) (by unfold maxLen; omega)))
              rw [windowFor_one] at HI2
              have HWY := hide (Below.step (unhide HWX) (Below.alloc1 w6 (.cells #[.int .i64 2, .int .i64 9] 32)))
              clear hO2
              go_wp2_with fail
              refine (unhide HI2).mono ?_
              rintro e w8 ⟨rfl, hb8⟩
              have HWZ := hide (Below.step (unhide HWY) hb8)
              clear hb8 HI2 HWY
              go_wp2
              go_ret
              exact ⟨rfl, unhide HWZ⟩
            | true =>
              obtain ⟨i, hi, k1, k2, k3⟩ := unhide HWI rfl
              obtain ⟨c1, c2, c3⟩ := (unhide HF).bd i hi
              have hM0 : 0 ≤ M := by omega
              have hMn : M + mn ≤ xs.length := by omega
              have HIW := hide (And.intro hi (And.intro k2 k3))
              clear HWI k2 k3 c1 c2 c3 hi
              have d6 : decide (M < f) = false := by simp; omega
              have d7 : decide ((xs.length : Int) < M + mn) = false := by simp; omega
              have q7 : IntKind.i64.wrap (M + mn) = M + mn := by rw [IntKind.wrap_i64]; omega
              have hxi : (xs.length : Int) ≤ 1501 := by omega
              go_wp2
              generalize w6 = V6 at *
              go_loopg [14] mn.toNat (fun g kv wr => ∃ p : Int, M ≤ p ∧ p ≤ M + mn ∧ g = (M + mn - p).toNat ∧ kv = .int .i64 p ∧ ∃ q, wr = V6.drewN q)
              case atStart => exact ⟨M, Int.le_refl _, by omega, by omega, rfl, 0, rfl⟩
              case round =>
                obtain ⟨p, hp1, hp2, rfl, rfl, q, hq⟩ := hrel
                have HO7 : Hid (OwnV wr G ((covL L L.length 0 xs.length).map Value.bool)) := by show OwnV _ _ _; rw [hq]; exact OwnV.drewN (unhide HO6) q
                have HW7 : Hid (Below w.heap.size w wr) := by show Below _ _ _; rw [hq]; exact (unhide HWX).trans (drewN_below _ V6 q)
                have HQ := hide hq
                clear hq
                by_cases hpm : p < M + mn
                · obtain ⟨k, rfl⟩ := Int.eq_ofNat_of_zero_le (show 0 ≤ p by omega)
                  have hkn : k < xs.length := by omega
                  have c0 := (unhide HO7).cell (map_get (E := Value.bool) (covL L L.length 0 xs.length) (i := k) (by rw [covL_len]; exact hkn))
                  rw [covL_at L L.length 0 hkn, (cov_iff L k 0 (Int.le_refl _)).2 ⟨i, (unhide HIW).1, by have := (unhide HIW).2; unfold inW; omega⟩] at c0
                  have hki : (k : Int) < xs.length := by omega
                  go_wp2
                  go_roundg (M + mn - ((k : Int) + 1)).toNat
                  case measure => omega
                  case rel => exact ⟨(k : Int) + 1, by omega, by omega, rfl, by go_num, _, unhide HQ⟩
                · generalize wr = V7 at *
                  clear HWX HO6 HO7 HQ
                  have HWX := HW7
                  clear HW7
                  have hO2 := ownV_alloc V7 #[.int .i64 2, .int .i64 9] 32
                  have HI2 := hide (implWindowFor_any _ [(2, 9)] 4 3 (V7.alloc (.cells #[.int .i64 2, .int .i64 9] 32)) (OwnV.recsIn (n := 2) (enc := e2) (L := [(2, 9)]) (g := V7.heap.size) hO2 (Nat.le_refl 1) (by unfold maxLen; omega)))
                  rw [windowFor_one] at HI2
                  have HWY := hide (Below.step (unhide HWX) (Below.alloc1 V7 (.cells #[.int .i64 2, .int .i64 9] 32)))
                  clear hO2
                  go_wp2_with fail
                  refine (unhide HI2).mono ?_
                  rintro e w8 ⟨rfl, hb8⟩
                  have HWZ := hide (Below.step (unhide HWY) hb8)
                  clear hb8 HI2 HWY
                  go_wp2
                  go_ret
                  exact ⟨rfl, unhide HWZ⟩

end Go.Proofs.Ytglehiakikhlaaa

/- Steps to a goal: contract of the specification's Hops. Written by wip/mkfrlf.py. -/
import Derived.Test.YtnapggchejdcgaaFrlE
namespace Go.Proofs.Ytnapggchejdcgaa
open Go.RowKit

set_option maxRecDepth 10000 in
set_option maxHeartbeats 8000000 in
theorem specHops_any (s : Flr) (dao : Option Addr) (dn dc : Nat) (p : Int) (w : World) (hD : IntsIn w (.slice dao dn dc) s.W) :
    Calls Try.prog 19 #[vFloor s.wd s.hg (.slice dao dn dc), .int .i64 p] w fun e w' => ∃ a n cp, e = .returned (.tuple #[.slice a n cp, .bool (hopsB s p)]) ∧ OwnSl w.heap.size w' (.slice a n cp) (hopsV s p) ∧ Below w.heap.size w w' := by
  have HOK := hide fun V (hV : Below w.heap.size w V) => specFloorOk_any s dao dn dc V (hD.below hV)
  have HDD := hide hD
  obtain ⟨dao', dc', eD, hdl, hdm, -⟩ := hD
  simp only [Value.slice.injEq] at eD
  obtain ⟨rfl, rfl, rfl⟩ := eD
  unfold maxLen at hdm
  have hA0 := Below.alloc1 w (.cells #[.int .i64 s.wd, .int .i64 s.hg, .slice dao s.W.length dc] 26)
  have HX := hide (ownV_alloc w #[.int .i64 s.wd, .int .i64 s.hg, .slice dao s.W.length dc] 26)
  have HNX := hide fun hn p b V (hV : Below w.heap.size w V) h0 h1 hb => l19Next_any s hn dao dc p b V ((unhide HDD).below hV) h0 h1 hb
  have HOK1 := hide (unhide HOK _ hA0)
  have HW := hide hA0
  have HMK := hide (run_make_row' (P := Try.prog) 24 3 (.int .i64 0) 8 Try.underlying24 Try.info3 rfl .i64 .i64)
  have nil : ∀ W a, OwnSl w.heap.size W (.slice a 0 0) [] := fun W a => ⟨a, 0, rfl, Nat.le_refl _, Nat.zero_le _, fun h => absurd rfl h⟩
  clear hA0 HOK
  obtain ⟨RV, eRV⟩ : ∃ z, z = hopsV s p := ⟨_, rfl⟩
  obtain ⟨RB, eRB⟩ : ∃ z, z = hopsB s p := ⟨_, rfl⟩
  rw [← eRV, ← eRB]
  have EV := hide eRV
  have EB := hide eRB
  clear eRV eRB
  unfold vFloor at *
  obtain ⟨g0, eg0⟩ : ∃ z, z = w.heap.size := ⟨_, rfl⟩
  rw [← eg0] at HX
  have hg0 : w.heap.size ≤ g0 := by omega
  go_enter Try.func19, Try.ntmps19
  go_wp2_with fail
  rw [← eg0]
  clear eg0
  refine (unhide HOK1).mono ?_
  rintro e w1 ⟨rfl, hb⟩
  replace HX := hide ((unhide HX).step hb)
  replace HW := hide (Below.step (unhide HW) hb)
  clear hb HOK1
  cases hfl : flB s with
  | false =>
    have e1 : RV = [] := by rw [unhide EV]; unfold hopsV; rw [hfl]; rfl
    have e2 : RB = false := by rw [unhide EB]; unfold hopsB; rw [hfl]; rfl
    subst e1 e2
    have HA := hide (Below.step (unhide HW) (Below.alloc1 w1 (.cells #[] 3)))
    go_wp2
    refine bodyPost_ret (v := .tuple #[.slice (some ⟨w1.heap.size, 0, none⟩) 0 0, .bool false]) (by simp [results, Try.results19, go_sem]) rfl ⟨_, _, _, rfl, nil _ _, unhide HA⟩
  | true =>
  have hfn := flB_n hfl
  have hn100 := hfn.le
  have hn0 := hfn.pos
  have HFN := hide hfn
  clear hfn
  have c2 := (unhide HX).cell (i := 2) rfl
  have qm : IntKind.i64.wrap ((s.W.length : Int) - 1) = (s.W.length : Int) - 1 := by rw [IntKind.wrap_i64]; omega
  have HQ := hide fun V => l1In_any p 0 ((s.W.length : Int) - 1) V
  cases hon : onF s p with
  | false =>
    have e1 : RV = [] := by rw [unhide EV]; unfold hopsV; rw [hfl, hon]; rfl
    have e2 : RB = false := by rw [unhide EB]; unfold hopsB; rw [hfl, hon]; rfl
    subst e1 e2
    unfold onF at hon
    rw [hon] at HQ
    have HA := hide (Below.step (unhide HW) (Below.alloc1 w1 (.cells #[] 3)))
    clear hfl hon HNX
    go_wp2_with fail
    refine (unhide HQ _).mono ?_
    rintro e w9 ⟨rfl, h9⟩
    have h8 := h9.symm
    subst h8
    clear h9 c2 HQ HX
    go_wp2
    refine bodyPost_ret (v := .tuple #[.slice (some ⟨w1.heap.size, 0, none⟩) 0 0, .bool false]) (by simp [results, Try.results19, go_sem]) rfl ⟨_, _, _, rfl, nil _ _, unhide HA⟩
  | true =>
    obtain ⟨hp0, hp1⟩ := onF_true hon
    obtain ⟨f, rfl⟩ : ∃ f : Nat, p = (f : Int) := ⟨p.toNat, by omega⟩
    have hf : f < s.W.length := by omega
    have e1 : ∀ P, Stps s f P → RV = P := fun P hP => by rw [unhide EV]; unfold hopsV; rw [hfl, hon, Int.toNat_natCast]; exact hopL_eq hP
    have e2 : RB = true := by rw [unhide EB]; unfold hopsB; rw [hfl, hon]; rfl
    subst e2
    have HY := hide e1
    unfold onF at hon
    rw [hon] at HQ
    have hmk := unhide HMK s.W.length (by omega) (by omega)
    have HNXN := hide fun p b V hV h0 h1 hb => unhide HNX (unhide HFN) p b V hV h0 h1 hb
    clear hfl hon e1 EV EB HMK HNX nil
    have hA := Below.alloc1 w1 (.cells (madeCells #[.int .i64 0] s.W.length) 3)
    have HO := hide (ownV_alloc w1 (madeCells #[.int .i64 0] s.W.length) 3)
    have HX2 := hide ((unhide HX).step hA)
    have HW2 := hide (Below.step (unhide HW) hA)
    have hgx := (unhide HX).lt
    clear hA
    go_wp2_with fail
    refine (unhide HQ _).mono ?_
    rintro e w9 ⟨rfl, h9⟩
    have h8 := h9.symm
    subst h8
    clear h9 HQ
    go_upto_region 4 with (fail)
    obtain ⟨g, eg⟩ : ∃ z, z = w1.heap.size := ⟨_, rfl⟩
    obtain ⟨W2, eW2⟩ : ∃ z, z = w1.alloc (.cells (madeCells #[.int .i64 0] s.W.length) 3) := ⟨_, rfl⟩
    rw [← eW2] at HO HX2 HW2 ⊢
    rw [← eg] at HO hgx ⊢
    have hrl : (List.replicate s.W.length (-1 : Int)).length = s.W.length := by simp
    rw [made_ints] at HO
    have HO1 : Hid (OwnV W2 g (ints (fillZ (List.replicate s.W.length (-1)) 0))) := by show OwnV _ _ _; rw [fillZ_zero, hrl]; exact unhide HO
    have HRL := hide hrl
    clear eg eW2 hmk HX HW HO c2 hrl
    go_wp2
    go_loopg [7] s.W.length (fun gg i wr => ∃ k : Nat, k ≤ s.W.length ∧ gg = s.W.length - k ∧ i = .int .i64 k ∧ Hid (OwnV wr g (ints (fillZ (List.replicate s.W.length (-1)) k))) ∧ Hid (OwnV wr g0 [.int .i64 s.wd, .int .i64 s.hg, .slice dao s.W.length dc]) ∧ Hid (Below w.heap.size w wr))
    case atStart => exact ⟨0, Nat.zero_le _, rfl, rfl, HO1, HX2, HW2⟩
    case round =>
      clear HO1 HX2 HW2
      obtain ⟨k, hk, rfl, rfl, HO, HX, HW⟩ := hrel
      by_cases hkn : k < s.W.length
      · have hki : (k : Int) < s.W.length := by omega
        have hlz : k < (fillZ (List.replicate s.W.length (-1)) k).length := by rw [fillZ_len (by rw [unhide HRL]; omega), unhide HRL]; exact hkn
        have u0 := (unhide HO).cell (ints_get _ (i := k) hlz)
        have uf := (unhide HO).frozen k
        have HN := (unhide HO).set k (.int .i64 (-1)) (by rw [ints_length]; exact hlz)
        have hgk : (List.replicate s.W.length (-1 : Int)).getD k 0 = -1 := by simp [List.getD, hkn]
        have hst := fillZ_set (xs := List.replicate s.W.length (-1)) (k := k) (by rw [unhide HRL]; exact hkn)
        rw [hgk] at hst
        rw [ints_set, hst] at HN
        have HNO := hide HN
        have HWN := hide ((unhide HW).setCell (p := ⟨g, k, none⟩) (by show w.heap.size ≤ g; omega) (.int .i64 (-1)))
        have HXN := hide ((unhide HX).other (a := ⟨g, k, none⟩) (by show g0 ≠ g; omega) (.int .i64 (-1)))
        generalize (fillZ (List.replicate s.W.length (-1)) k).getD k 0 = z at u0
        clear HN hlz hst hgk HO HX HW
        go_wp2
        go_roundg (s.W.length - (k + 1))
        case measure => omega
        case rel => exact ⟨k + 1, by omega, rfl, by go_num, HNO, HXN, HWN⟩
      · have hki : ¬ (k : Int) < s.W.length := by omega
        have hkk : k = (List.replicate s.W.length (-1 : Int)).length := by rw [unhide HRL]; omega
        have hO := unhide HO
        rw [hkk, fillZ_all] at hO
        have hu := hO.cell (ints_get (List.replicate s.W.length (-1)) (i := f) (by rw [unhide HRL]; omega))
        have hfz := hO.frozen f
        have hN := hO.set f (.int .i64 0) (by rw [ints_length, unhide HRL]; omega)
        rw [ints_set] at hN
        have HL0 := hide (Lev.start s f hf)
        have HN0 := hide hN
        have HW3 := hide ((unhide HW).setCell (p := ⟨g, f, none⟩) (by show w.heap.size ≤ g; omega) (.int .i64 0))
        have HX3 := hide ((unhide HX).other (a := ⟨g, f, none⟩) (by show g0 ≠ g; omega) (.int .i64 0))
        generalize (List.replicate s.W.length (-1 : Int)).set f 0 = P0 at *
        generalize (List.replicate s.W.length (-1 : Int)).getD f 0 = z at hu
        have hfi : (f : Int) < s.W.length := by omega
        clear hO hN HO HX HW hkk
        go_wp2
        obtain ⟨w3, hw3⟩ : ∃ z, wr.setCell ⟨g, f, none⟩ (.int .i64 0) = z := ⟨_, rfl⟩
        rw [hw3] at HN0 HW3 HX3 ⊢
        clear hw3 hu hfz
        go_loopg [8] s.W.length (fun gg i wr => ∃ (d : Nat) (P : List Int), d ≤ s.W.length ∧ gg = s.W.length - d ∧ i = .int .i64 d ∧ Hid (OwnV wr g (ints P)) ∧ Hid (OwnV wr g0 [.int .i64 s.wd, .int .i64 s.hg, .slice dao s.W.length dc]) ∧ Hid (Below w.heap.size w wr) ∧ Hid (Lev s f d 0 P))
        case atStart => exact ⟨0, P0, Nat.zero_le _, rfl, rfl, HN0, HX3, HW3, HL0⟩
        case round =>
          clear HN0 HX3 HW3 HL0
          obtain ⟨d, P, hd, rfl, rfl, HO, HX, HW, HLV⟩ := hrel
          by_cases hdn : d < s.W.length
          case neg =>
            have hdi : ¬ (d : Int) < s.W.length := by omega
            have hLV := unhide HLV
            rw [show d = s.W.length by omega] at hLV
            have EP := hide (unhide HY P hLV.done)
            have hPl := hLV.len
            clear hLV HLV
            go_wp2
            refine bodyPost_ret (v := .tuple #[.slice (some ⟨g, 0, none⟩) s.W.length s.W.length, .bool true]) (by simp [results, Try.results19, go_sem]) rfl ⟨_, _, _, rfl, ?_, unhide HW⟩
            rw [unhide EP]
            exact ⟨some ⟨g, 0, none⟩, s.W.length, by rw [hPl], by rw [hPl]; exact Nat.le_refl _, by unfold maxLen; omega, fun _ => ⟨g, rfl, by omega, unhide HO⟩⟩
          have hdi : (d : Int) < s.W.length := by omega
          go_wp2
          go_loopg [9] s.W.length (fun gg i wr => ∃ (p : Nat) (P : List Int), p ≤ s.W.length ∧ gg = s.W.length - p ∧ i = .int .i64 p ∧ Hid (OwnV wr g (ints P)) ∧ Hid (OwnV wr g0 [.int .i64 s.wd, .int .i64 s.hg, .slice dao s.W.length dc]) ∧ Hid (Below w.heap.size w wr) ∧ Hid (Lev s f d p P))
          case atStart => exact ⟨0, P, Nat.zero_le _, rfl, rfl, HO, HX, HW, HLV⟩
          case round =>
            clear HO HX HW HLV
            obtain ⟨p, P1, hp, rfl, rfl, HO, HX, HW, HLV⟩ := hrel
            by_cases hpn : p < s.W.length
            case neg =>
              have hpi : ¬ (p : Int) < s.W.length := by omega
              have hLV := unhide HLV
              rw [show p = s.W.length by omega] at hLV
              have HLV2 := hide hLV.level
              clear hLV HLV
              go_wp2
              go_roundg (s.W.length - (d + 1))
              case measure => omega
              case rel => exact ⟨d + 1, P1, by omega, rfl, by go_num, HO, HX, HW, HLV2⟩
            have hpi : (p : Int) < s.W.length := by omega
            have hp0' : (0 : Int) ≤ (p : Int) := by omega
            go_wp2
            go_loopg [10] 4 (fun gg i wr => ∃ (b : Nat) (P2 : List Int), b ≤ 4 ∧ gg = 4 - b ∧ i = .int .i64 b ∧ Hid (OwnV wr g (ints P2)) ∧ Hid (OwnV wr g0 [.int .i64 s.wd, .int .i64 s.hg, .slice dao s.W.length dc]) ∧ Hid (Below w.heap.size w wr) ∧ Hid (Lev s f d p P2) ∧ Hid (P2.getD p 0 < 0 → ∀ b', b' < b → ∀ u : Nat, nxV s (p : Int) b' = (u : Int) → u < s.W.length → P2.getD u 0 ≠ (d : Int)))
            case atStart => exact ⟨0, P1, by omega, rfl, rfl, HO, HX, HW, HLV, fun _ b' hb => by omega⟩
            case round =>
              clear HO HX HW HLV
              obtain ⟨b, P2, hb4, rfl, rfl, HO, HX, HW, HLV, HK⟩ := hrel
              have hPl := (unhide HLV).len
              have hpl2 : p < P2.length := by omega
              have HPL2 := hide hpl2
              have up := (unhide HO).cell (ints_get P2 (i := p) hpl2)
              by_cases hb : b < 4
              case neg =>
                have hbi : ¬ (b : Int) < 4 := by omega
                have HLV2 := hide ((unhide HLV).next (fun hneg b' hb' u hu hul => unhide HK hneg b' (by omega) u hu hul))
                clear HK HLV up
                go_wp2
                go_roundg (s.W.length - (p + 1))
                case measure => omega
                case rel => exact ⟨p + 1, P2, by omega, rfl, by go_num, HO, HX, HW, HLV2⟩
              have hbi : (b : Int) < 4 := by omega
              by_cases hneg : P2.getD p 0 < 0
              case neg =>
                have HLV2 := hide ((unhide HLV).next (fun h => absurd h hneg))
                obtain ⟨z, ez⟩ : ∃ z, z = P2.getD p 0 := ⟨_, rfl⟩
                rw [← ez] at hneg up
                have dz : decide (z < 0) = false := decide_eq_false hneg
                clear HK HLV ez
                go_wp2
                go_roundg (s.W.length - (p + 1))
                case measure => omega
                case rel => exact ⟨p + 1, P2, by omega, rfl, by go_num, HO, HX, HW, HLV2⟩
              obtain ⟨z, ez⟩ : ∃ z, z = P2.getD p 0 := ⟨_, rfl⟩
              have HEZ := hide ez
              have HNG := hide hneg
              rw [← ez] at hneg up
              have dz : decide (z < 0) = true := decide_eq_true hneg
              have x0 := (unhide HX).cell (i := 0) rfl
              have x1 := (unhide HX).cell (i := 1) rfl
              have x2 := (unhide HX).cell (i := 2) rfl
              have HNQ := hide (unhide HNXN (p : Int) b wr (unhide HW) hp0' hpi hb)
              have hbd := nx_bd (s := s) (unhide HFN) (p := (p : Int)) (b := b) hb hp0' hpi
              obtain ⟨q, eq⟩ : ∃ q, q = nxV s (p : Int) b := ⟨_, rfl⟩
              rw [← eq] at HNQ hbd
              have HEQ := hide eq
              clear ez eq
              go_wp2_with fail
              refine (unhide HNQ).mono ?_
              rintro e w4 ⟨rfl, hb⟩
              replace HO := hide ((unhide HO).step hb)
              replace HX := hide ((unhide HX).step hb)
              replace HW := hide (Below.step (unhide HW) hb)
              clear hb x0 x1 x2 HNQ up
              by_cases hq : q < 0
              · have dq : decide (0 ≤ q) = false := by simp; omega
                have HK2 : Hid (P2.getD p 0 < 0 → ∀ b', b' < b + 1 → ∀ u : Nat, nxV s (p : Int) b' = (u : Int) → u < s.W.length → P2.getD u 0 ≠ (d : Int)) := fun hn' b' hb' u hu hul => by
                  by_cases e : b' = b
                  · exfalso
                    rw [e, ← unhide HEQ] at hu
                    omega
                  · exact unhide HK hn' b' (by omega) u hu hul
                clear HK
                go_wp2
                go_roundg (4 - (b + 1))
                case measure => omega
                case rel => exact ⟨b + 1, P2, by omega, rfl, by go_num, HO, HX, HW, HLV, HK2⟩
              have dq : decide (0 ≤ q) = true := by simp; omega
              obtain ⟨u, rfl⟩ : ∃ u : Nat, q = (u : Int) := ⟨q.toNat, by omega⟩
              have hul : u < s.W.length := by omega
              have huli : (u : Int) < s.W.length := by omega
              have hu2 : u < P2.length := by omega
              have uq := (unhide HO).cell (ints_get P2 (i := u) hu2)
              by_cases hqd : P2.getD u 0 = (d : Int)
              · have hE : Ed s u p := ⟨hul, hpn, b, hb, (unhide HEQ).symm⟩
                have HP := hide ((unhide HLV).put hE hqd (unhide HNG))
                have HQD := hide hqd
                rw [hqd] at uq
                have up := (unhide HO).cell (ints_get P2 (i := p) (unhide HPL2))
                have uf := (unhide HO).frozen p
                rw [← unhide HEZ] at up
                have HN := (unhide HO).set p (.int .i64 ((d : Int) + 1)) (by rw [ints_length]; exact unhide HPL2)
                rw [ints_set] at HN
                have HNO := hide HN
                have HWN := hide ((unhide HW).setCell (p := ⟨g, p, none⟩) (by show w.heap.size ≤ g; omega) (.int .i64 ((d : Int) + 1)))
                have HXN := hide ((unhide HX).other (a := ⟨g, p, none⟩) (by show g0 ≠ g; omega) (.int .i64 ((d : Int) + 1)))
                have HK2 : Hid ((P2.set p ((d : Int) + 1)).getD p 0 < 0 → ∀ b', b' < b + 1 → ∀ u : Nat, nxV s (p : Int) b' = (u : Int) → u < s.W.length → (P2.set p ((d : Int) + 1)).getD u 0 ≠ (d : Int)) := fun hn' => by
                  rw [getD_set P2 p _ p (unhide HPL2), if_pos rfl] at hn'
                  omega
                clear hqd hE HN HK HLV HO HX HW hu2 hpl2
                obtain ⟨P3, eP3⟩ : ∃ z, z = P2.set p ((d : Int) + 1) := ⟨_, rfl⟩
                rw [← eP3] at HP HNO HK2
                clear eP3
                go_wp2
                go_roundg (4 - (b + 1))
                case measure => omega
                case rel => exact ⟨b + 1, P3, by omega, rfl, by go_num, HNO, HXN, HWN, HP, HK2⟩
              · have HK2 : Hid (P2.getD p 0 < 0 → ∀ b', b' < b + 1 → ∀ u : Nat, nxV s (p : Int) b' = (u : Int) → u < s.W.length → P2.getD u 0 ≠ (d : Int)) := fun hn' b' hb' u' hu' hul' => by
                  by_cases e : b' = b
                  · rw [e, ← unhide HEQ] at hu'
                    have : u = u' := by omega
                    rw [← this]; exact hqd
                  · exact unhide HK hn' b' (by omega) u' hu' hul'
                obtain ⟨y, ey⟩ : ∃ y, y = P2.getD u 0 := ⟨_, rfl⟩
                rw [← ey] at uq hqd
                have dy : (y == (d : Int)) = false := by simpa using hqd
                clear HK ey hqd
                go_wp2
                go_roundg (4 - (b + 1))
                case measure => omega
                case rel => exact ⟨b + 1, P2, by omega, rfl, by go_num, HO, HX, HW, HLV, HK2⟩

end Go.Proofs.Ytnapggchejdcgaa

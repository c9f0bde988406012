/- Contracts of the specification's l21Write, SegsOk, WriteSegs. Written by wip/mkedw.py. -/
import Derived.Test.YtjpogaidcmndoaaEdS
namespace Go.Proofs.Ytjpogaidcmndoaa
open Go.RowKit

set_option maxRecDepth 100000 in
set_option maxHeartbeats 8000000 in
theorem specWrite_any (v : Value) (L : List SegT) (w : World) (h : SgsIn w v L) (hx : TxSg L) (hb : (wrL L).length ≤ 1000000) :
    Calls Try.prog 31 #[v] w fun e w' => ∃ g c, e = .returned (.slice (some ⟨g, 0, none⟩) (wrL L).length c) ∧ RowB 5 1 eY w.heap.size w' (some ⟨g, 0, none⟩) (wrL L).length c (wrL L) ∧ Below w.heap.size w w' := by
  have HI := hide h
  have HX := hide hx
  obtain ⟨ao, cap, rfl, hl, hm, -⟩ := h
  unfold maxLen at hm
  obtain ⟨tot, et⟩ : ∃ n, n = (wrL L).length := ⟨_, rfl⟩
  have HTOT := hide et
  rw [← et] at hb ⊢
  clear et
  have HR := hide (rowB_new 5 1 eY w w.heap.size (Nat.le_refl _))
  have HW := hide (Below.alloc1 w (.cells #[] 5))
  obtain ⟨g, eg⟩ : ∃ z, z = w.heap.size := ⟨_, rfl⟩
  obtain ⟨W, eW⟩ : ∃ z, z = w.alloc (.cells #[] 5) := ⟨_, rfl⟩
  rw [← eW] at HR HW
  go_enter Try.func31, Try.ntmps31
  go_upto_region 2 with (fail)
  rw [← eW]
  clear eW
  have HRS : Hid (RowB 5 1 eY w.heap.size W (some ⟨g, 0, none⟩) 0 0 ([] : List Int)) := by show RowB _ _ _ _ _ _ _ _ _; rw [eg]; exact unhide HR
  clear HR
  rw [← eg]
  clear eg
  go_wp2
  go_loopg [3, 4] L.length (fun gh sv iv wr => ∃ (i g m c : Nat) (X : List Int), i ≤ L.length ∧ gh = L.length - i ∧ sv = .slice (some ⟨g, 0, none⟩) m c ∧ iv = .int .i64 i ∧ Hid (X = wrN L i) ∧ Hid (RowB 5 1 eY w.heap.size wr (some ⟨g, 0, none⟩) m c X) ∧ Hid (Below w.heap.size w wr))
  case atStart => exact ⟨0, g, 0, 0, [], Nat.zero_le _, rfl, rfl, rfl, rfl, HRS, HW⟩
  case round =>
    clear HRS HW
    obtain ⟨i, g, m, c, X, hi, rfl, rfl, rfl, HXE, HR, HW⟩ := hrel
    have hml := ((unhide HR).lo (by omega)).2.2.2.2.2
    by_cases hin : i < L.length
    case neg =>
      have hii : ¬ (i : Int) < (L.length : Int) := by omega
      have hXL : X = wrL L := by rw [unhide HXE, show i = L.length by omega]; rfl
      subst hXL
      have hmt : m = tot := by rw [unhide HTOT]; omega
      subst hmt
      go_wp2
      go_ret
      exact ⟨g, c, rfl, unhide HR, unhide HW⟩
    have hii : (i : Int) < (L.length : Int) := by omega
    obtain ⟨b, o, na, nc, n, t, P, rfl, hc0, hc1, hr, EX, EM, hn⟩ := (unhide HI).at hin
    have hxi := unhide HX i hin
    rw [unhide EX] at hxi
    have HXP := hide hxi.2
    have HNX : Hid (wrN L (i + 1) = wrN L i ++ (bts t ++ wrQ P P.length ++ [39])) := by
      show _ = _
      rw [wrN, rw_succ, unhide EX]
      rfl
    have hlen : X.length + t.size + (wrQ P P.length).length + 1 ≤ tot := by
      have h9 := rw_in (fun i => wrS (L.getD i default)) (i := i) (n := L.length) hin
      have h8 : wrS (L.getD i default) = bts t ++ wrQ P P.length ++ [39] := by rw [unhide EX]; rfl
      try dsimp only at h9
      rw [h8, List.length_append, List.length_append, bts_len, List.length_singleton] at h9
      have h7 : X.length = (rw_ (fun i => wrS (L.getD i default)) i).length := by rw [unhide HXE]; rfl
      have h6 : tot = (rw_ (fun i => wrS (L.getD i default)) L.length).length := unhide HTOT
      omega
    have HSS := hide hr
    have hts := hxi.1
    obtain ⟨ts, ets⟩ : ∃ z, z = t.size := ⟨_, rfl⟩
    have hts0 : t.size ≤ 1048576 := by omega
    have g0 := wcell3 hc0 (unhide HW)
    have HC1 := hide hc1
    have hlg := ((unhide HR).lo (by omega)).1
    have hwb := (unhide HW).size
    clear hxi hr hc0 hc1 hts ets
    go_upto_region 6 with (at_builtin; go_must (refine wpList_appStrS _ rfl _ _ rfl w.heap.size g m c X rfl (unhide HR) hwb (by omega) t rfl hts0 ?_); intro g1 c1 w1 hL hKp; have HR1 := hide hL; have HW1 := hide ((unhide HW).trans (hKp.below (unhide HW).size (fun b e => by have e : b = g := e; omega))); clear hL hKp)
    clear HR HW g0 hlg hwb hts0
    obtain ⟨XA, eXA⟩ : ∃ z, z = X ++ bts t := ⟨_, rfl⟩
    rw [← eXA] at HR1
    obtain ⟨mA, emA⟩ : ∃ z, z = m + t.size := ⟨_, rfl⟩
    rw [← emA] at HR1 ⊢
    have hla : XA.length + (wrQ P P.length).length + 1 ≤ tot := by rw [eXA, List.length_append, bts_len]; omega
    have HNA : Hid (XA ++ wrQ P P.length ++ [39] = wrN L (i + 1)) := by
      show _ = _
      rw [unhide HNX, eXA, unhide HXE, List.append_assoc, List.append_assoc, List.append_assoc]
    have HW := HW1
    have HR := HR1
    have HQ0 : Hid (XA = XA ++ wrQ P 0) := by show _ = _; simp [wrQ, rw_]
    clear HW1 HR1 HXE HNX hlen eXA emA hml EX
    go_wp2
    go_loopg [3, 5] n (fun gh sv iv wr => ∃ (p g m c : Nat) (X : List Int), p ≤ n ∧ gh = n - p ∧ sv = .slice (some ⟨g, 0, none⟩) m c ∧ iv = .int .i64 p ∧ Hid (X = XA ++ wrQ P p) ∧ Hid (RowB 5 1 eY w.heap.size wr (some ⟨g, 0, none⟩) m c X) ∧ Hid (Below w.heap.size w wr))
    case atStart => exact ⟨0, g1, mA, c1, XA, Nat.zero_le _, rfl, rfl, rfl, HQ0, HR, HW⟩
    case round =>
      clear HQ0 HR HW
      obtain ⟨p, g, m, c, X, hp, rfl, rfl, rfl, HXE, HR, HW⟩ := hrel
      have hml := ((unhide HR).lo (by omega)).2.2.2.2.2
      have hq1 := wcell3 (unhide HC1) (unhide HW)
      by_cases hpn : p < n
      case neg =>
        have hpi : ¬ (p : Int) < (n : Int) := by omega
        have hPl := unhide EM
        have HNA2 : Hid (X ++ [39] = wrN L (i + 1)) := by show _ = _; rw [unhide HXE, show p = P.length by omega]; exact unhide HNA
        have hlx : X.length + 1 ≤ tot := by rw [unhide HXE, List.length_append, show p = P.length by omega]; omega
        clear HXE HNA hla hPl
        have A5 := Below.alloc1 wr (.cells #[.int .u8 39] 5)
        have HG5 : Hid (OwnV (wr.alloc (.cells #[.int .u8 39] 5)) wr.heap.size ((List.range 1).map (eY 39))) := ownV_alloc wr #[.int .u8 39] 5
        have HW5 := hide (Below.step (unhide HW) A5)
        have HR5 := hide ((unhide HR).below A5)
        have hB5 := (unhide HW5).size
        have hlg := ((unhide HR).lo (by omega)).1
        clear A5
        go_upto_region 4 with (at_builtin; go_must (refine wpList_appRow tyY _ rfl _ _ rfl w.heap.size (some ⟨g, 0, none⟩) m c X rfl (unhide HR5) hB5 (by omega) wr.heap.size 39 1 rfl (unhide HG5) ?_); intro g1 c1 w1 hL hKp hBg hat; have HR1 := hide hL; have HW1 := hide ((unhide HW5).trans (hKp.below (unhide HW5).size (fun b e => by simp only [Option.some.injEq, Addr.mk.injEq, and_true] at e; omega))); clear hL hKp hBg hat)
        clear HW5 HR5 HG5 hB5 HW HR hlg
        have HW := HW1
        have HR := HR1
        clear HW1 HR1
        rw [unhide HNA2] at HR
        clear hq1
        go_wp2
        go_roundg (L.length - (i + 1))
        case measure => omega
        case rel => exact ⟨i + 1, g1, m + 1, c1, _, by omega, rfl, rfl, by go_num, rfl, HR, HW⟩
      have hpi : (p : Int) < (n : Int) := by omega
      have hpp : p < P.length := by have := unhide EM; omega
      obtain ⟨b2, o2, ta, tc, tn, TT, rfl, hd, hr2, EX2, EM2, htn⟩ := (unhide HSS).at hpp
      have hxp := unhide HXP p hpp
      rw [unhide EX2] at hxp
      have HXT := hide hxp
      have HNQ : Hid (wrQ P (p + 1) = wrQ P p ++ wrP TT TT.length) := by show _ = _; rw [wrQ, rw_succ, unhide EX2]; rfl
      obtain ⟨XB, eXB⟩ : ∃ z, z = X := ⟨_, rfl⟩
      have hlb : XB.length + (wrP TT TT.length).length + 1 ≤ tot := by
        have h9 := rw_in (fun p => wrP (P.getD p default) (P.getD p default).length) (i := p) (n := P.length) hpp
        try dsimp only at h9
        rw [unhide EX2] at h9
        have h7 : XB.length = XA.length + (rw_ (fun p => wrP (P.getD p default) (P.getD p default).length) p).length := by rw [eXB, unhide HXE, List.length_append]; rfl
        have h6 : (wrQ P P.length).length = (rw_ (fun p => wrP (P.getD p default) (P.getD p default).length) P.length).length := rfl
        omega
      have HNB : Hid (XB ++ wrP TT TT.length = XA ++ wrQ P (p + 1)) := by show _ = _; rw [unhide HNQ, eXB, unhide HXE, List.append_assoc]
      have HTT := hide hr2
      have HD := hide hd
      rw [← eXB] at HR
      have HQ0 : Hid (XB = XB ++ wrP TT 0) := by show _ = _; simp [wrP, rw_]
      have hmB : XB.length = m := by rw [eXB]; exact hml
      clear hxp hr2 hd HXE HNQ eXB hml EX2
      have hq2 := wcell3 (unhide HD) (unhide HW)
      go_wp2
      clear hq1 hq2
      go_loopg [3, 6] tn (fun gh sv iv wr => ∃ (k g m c : Nat) (X : List Int), k ≤ tn ∧ gh = tn - k ∧ sv = .slice (some ⟨g, 0, none⟩) m c ∧ iv = .int .i64 k ∧ Hid (X = XB ++ wrP TT k) ∧ Hid (RowB 5 1 eY w.heap.size wr (some ⟨g, 0, none⟩) m c X) ∧ Hid (Below w.heap.size w wr))
      case atStart => exact ⟨0, g, m, c, XB, Nat.zero_le _, rfl, rfl, rfl, HQ0, HR, HW⟩
      case round =>
        clear HQ0 HR HW hmB
        obtain ⟨k, g, m, c, X, hk, rfl, rfl, rfl, HXE, HR, HW⟩ := hrel
        have hml := ((unhide HR).lo (by omega)).2.2.2.2.2
        have hq1 := wcell3 (unhide HC1) (unhide HW)
        have hq2 := wcell3 (unhide HD) (unhide HW)
        by_cases hkt : k < tn
        case neg =>
          have hki : ¬ (k : Int) < (tn : Int) := by omega
          have hTl := unhide EM2
          have HX2 : Hid (X = XA ++ wrQ P (p + 1)) := by show _ = _; rw [unhide HXE, show k = TT.length by omega]; exact unhide HNB
          clear HXE HNB hTl
          go_wp2
          go_roundg (n - (p + 1))
          case measure => omega
          case rel => exact ⟨p + 1, g, m, c, X, by omega, rfl, rfl, by go_num, HX2, HR, HW⟩
        have hki : (k : Int) < (tn : Int) := by omega
        have hkl : k < TT.length := by have := unhide EM2; omega
        obtain ⟨b3, o3, rfl, he⟩ := (unhide HTT).cells k hkl
        have hsz := unhide HXT k hkl
        have HNP : Hid (wrP TT (k + 1) = wrP TT k ++ (mkK k :: wrT (TT.getD k default) (TT.getD k default).size)) := by show _ = _; rw [wrP, rw_succ]; rfl
        have hlk : X.length + 1 + (wrT (TT.getD k default) (TT.getD k default).size).length + 1 ≤ tot := by
          have h9 := rw_in (fun k => mkK k :: wrT (TT.getD k default) (TT.getD k default).size) (i := k) (n := TT.length) hkl
          try dsimp only at h9
          rw [List.length_cons] at h9
          have h7 : X.length = XB.length + (rw_ (fun k => mkK k :: wrT (TT.getD k default) (TT.getD k default).size) k).length := by rw [unhide HXE, List.length_append]; rfl
          have h6 : (wrP TT TT.length).length = (rw_ (fun k => mkK k :: wrT (TT.getD k default) (TT.getD k default).size) TT.length).length := rfl
          omega
        generalize TT.getD k default = x at he hsz HNP hlk
        have HE := hide he
        have HJX := hide fun j hj => ixY_any x j hj hsz
        obtain ⟨xm, exm⟩ : ∃ z : Nat, x.size = z := ⟨_, rfl⟩
        unfold maxLen at hsz
        try rw [exm] at hsz
        try rw [exm] at HJX
        try rw [exm] at HNP
        try rw [exm] at hlk
        obtain ⟨mk, emk⟩ : ∃ z, z = mkK k := ⟨_, rfl⟩
        rw [← emk] at HNP
        have hmk : (k = 0 ∧ mk = 43) ∨ (k ≠ 0 ∧ mk = 58) := by
          rw [emk]; unfold mkK
          by_cases e : k = 0
          · exact Or.inl ⟨e, if_pos e⟩
          · exact Or.inr ⟨e, if_neg e⟩
        clear he emk
        have HNC : Hid (X ++ [mk] ++ wrT x xm = XB ++ wrP TT (k + 1)) := by
          show _ = _
          rw [unhide HNP, unhide HXE, List.append_assoc, List.append_assoc]
          rfl
        have hlc : (X ++ [mk]).length + (wrT x xm).length + 1 ≤ tot := by rw [List.length_append, List.length_singleton]; omega
        clear HXE HNP
        have hmk2 : ((k : Int) == 0) = decide (k = 0) := by
          by_cases e : k = 0
          · subst e; rfl
          · rw [decide_eq_false e]; simp [e]
        rcases hmk with ⟨hk0, rfl⟩ | ⟨hk0, rfl⟩
        · have d0 : ((k : Int) == 0) = true := by rw [hmk2]; exact decide_eq_true hk0
          have hk0i : (k : Int) = 0 := by omega
          have HEZ : Hid (w.cell? { block := b3, off := o3 } = some (.string x)) := by
            show _ = _
            have h9 := unhide HE
            rw [hk0] at h9
            exact h9
          clear hmk2
          have hq3 := wcell3 (unhide HEZ) (unhide HW)
          have A5 := Below.alloc1 wr (.cells #[.int .u8 43] 5)
          have HG5 : Hid (OwnV (wr.alloc (.cells #[.int .u8 43] 5)) wr.heap.size ((List.range 1).map (eY 43))) := ownV_alloc wr #[.int .u8 43] 5
          have HW5 := hide (Below.step (unhide HW) A5)
          have HR5 := hide ((unhide HR).below A5)
          have hB5 := (unhide HW5).size
          have hlg := ((unhide HR).lo (by omega)).1
          clear A5
          go_upto_region 16 with (at_builtin; go_must (refine wpList_appRow tyY _ rfl _ _ rfl w.heap.size (some ⟨g, 0, none⟩) m c X rfl (unhide HR5) hB5 (by omega) wr.heap.size 43 1 rfl (unhide HG5) ?_); intro g1 c1 w1 hL hKp hBg hat; have HR1 := hide hL; have HW1 := hide ((unhide HW5).trans (hKp.below (unhide HW5).size (fun b e => by simp only [Option.some.injEq, Addr.mk.injEq, and_true] at e; omega))); clear hL hKp hBg hat)
          clear HW5 HR5 HG5 hB5 HW HR hlg
          have HW := HW1
          have HR := HR1
          clear HW1 HR1
          clear hq1 hq2 hq3
          obtain ⟨XC, eXC⟩ : ∃ z, z = X ++ [43] := ⟨_, rfl⟩
          obtain ⟨mC, emC⟩ : ∃ z, z = m + 1 := ⟨_, rfl⟩
          rw [← eXC] at HR HNC hlc
          rw [← emC] at HR ⊢
          have HQ0 : Hid (XC = XC ++ wrT x 0) := by show _ = _; simp [wrT, rw_]
          clear eXC hlk hml emC
          have hq1 := wcell3 (unhide HC1) (unhide HW)
          have hq2 := wcell3 (unhide HD) (unhide HW)
          have hq3 := wcell3 (unhide HEZ) (unhide HW)
          go_wp2
          clear hq1 hq2 hq3
          go_loopg [3, 9] xm (fun gh sv iv wr => ∃ (j g m c : Nat) (X : List Int), j ≤ xm ∧ gh = xm - j ∧ sv = .slice (some ⟨g, 0, none⟩) m c ∧ iv = .int .i64 j ∧ Hid (X = XC ++ wrT x j) ∧ Hid (RowB 5 1 eY w.heap.size wr (some ⟨g, 0, none⟩) m c X) ∧ Hid (Below w.heap.size w wr))
          case atStart => exact ⟨0, g1, mC, c1, XC, Nat.zero_le _, rfl, rfl, rfl, HQ0, HR, HW⟩
          case round =>
            clear HQ0 HR HW
            obtain ⟨j, g, m, c, X, hj, rfl, rfl, rfl, HXE, HR, HW⟩ := hrel
            have hml := ((unhide HR).lo (by omega)).2.2.2.2.2
            by_cases hjx : j < xm
            case neg =>
              have hji : ¬ (j : Int) < (xm : Int) := by omega
              have HX2 : Hid (X = XB ++ wrP TT (k + 1)) := by show _ = _; rw [unhide HXE, show j = xm by omega]; exact unhide HNC
              clear HXE HNC
              go_wp2
              go_roundg (tn - (k + 1))
              case measure => omega
              case rel => exact ⟨k + 1, g, m, c, X, by omega, rfl, rfl, by go_num, HX2, HR, HW⟩
            have hji : (j : Int) < (xm : Int) := by omega
            have hix := unhide HJX j hjx
            have hbb := byY_bd x j
            have HNT : Hid (XC ++ wrT x (j + 1) = X ++ esc (byY x j)) := by show _ = _; rw [wrT, rw_succ, ← List.append_assoc, unhide HXE]; rfl
            have hlt : X.length + 2 ≤ tot + 2 := by
              have h9 := rw_le (fun j => esc (byY x j)) (i := j) (n := xm) (by omega)
              have h7 : X.length = XC.length + (rw_ (fun j => esc (byY x j)) j).length := by rw [unhide HXE, List.length_append]; rfl
              have h6 : (wrT x xm).length = (rw_ (fun j => esc (byY x j)) xm).length := rfl
              omega
            clear HXE
            generalize byY x j = bb at hix hbb HNT
            obtain ⟨hb0, hb1⟩ := hbb
            have HMK := hide fun V => specMark_any bb V hb0 hb1
            cases hmb : mkB bb
            case false =>
              have HNT2 : Hid (XC ++ wrT x (j + 1) = X ++ [bb]) := by show _ = _; rw [unhide HNT]; unfold esc; rw [hmb]; rfl
              rw [hmb] at HMK
              clear HNT
              go_wp2_with fail
              refine (unhide HMK _).mono ?_
              rintro e w9 ⟨rfl, h9⟩
              have h8 := h9.symm
              subst h8
              clear h9 HMK
              have A5 := Below.alloc1 wr (.cells #[.int .u8 bb] 5)
              have HG5 : Hid (OwnV (wr.alloc (.cells #[.int .u8 bb] 5)) wr.heap.size ((List.range 1).map (eY bb))) := ownV_alloc wr #[.int .u8 bb] 5
              have HW5 := hide (Below.step (unhide HW) A5)
              have HR5 := hide ((unhide HR).below A5)
              have hB5 := (unhide HW5).size
              have hlg := ((unhide HR).lo (by omega)).1
              clear A5
              go_wp2_with (at_builtin; go_must (refine wpList_appRow tyY _ rfl _ _ rfl w.heap.size (some ⟨g, 0, none⟩) m c X rfl (unhide HR5) hB5 (by omega) wr.heap.size bb 1 rfl (unhide HG5) ?_); intro g1 c1 w1 hL hKp hBg hat; have HR1 := hide hL; have HW1 := hide ((unhide HW5).trans (hKp.below (unhide HW5).size (fun b e => by simp only [Option.some.injEq, Addr.mk.injEq, and_true] at e; omega))); clear hL hKp hBg hat)
              clear HW5 HR5 HG5 hB5 HW HR hlg
              have HW := HW1
              have HR := HR1
              clear HW1 HR1
              rw [← unhide HNT2] at HR
              go_wp2
              go_roundg (xm - (j + 1))
              case measure => omega
              case rel => exact ⟨j + 1, g1, m + 1, c1, _, by omega, rfl, rfl, by go_num, rfl, HR, HW⟩
            case true =>
              have HNT2 : Hid (XC ++ wrT x (j + 1) = X ++ [63] ++ [bb]) := by show _ = _; rw [unhide HNT]; unfold esc; rw [hmb, cond_true, List.append_assoc]; rfl
              rw [hmb] at HMK
              clear HNT
              go_wp2_with fail
              refine (unhide HMK _).mono ?_
              rintro e w9 ⟨rfl, h9⟩
              have h8 := h9.symm
              subst h8
              clear h9 HMK
              have A5 := Below.alloc1 wr (.cells #[.int .u8 63] 5)
              have HG5 : Hid (OwnV (wr.alloc (.cells #[.int .u8 63] 5)) wr.heap.size ((List.range 1).map (eY 63))) := ownV_alloc wr #[.int .u8 63] 5
              have HW5 := hide (Below.step (unhide HW) A5)
              have HR5 := hide ((unhide HR).below A5)
              have hB5 := (unhide HW5).size
              have hlg := ((unhide HR).lo (by omega)).1
              clear A5
              go_upto_region 22 with (at_builtin; go_must (refine wpList_appRow tyY _ rfl _ _ rfl w.heap.size (some ⟨g, 0, none⟩) m c X rfl (unhide HR5) hB5 (by omega) wr.heap.size 63 1 rfl (unhide HG5) ?_); intro g1 c1 w1 hL hKp hBg hat; have HR1 := hide hL; have HW1 := hide ((unhide HW5).trans (hKp.below (unhide HW5).size (fun b e => by simp only [Option.some.injEq, Addr.mk.injEq, and_true] at e; omega))); clear hL hKp hBg hat)
              clear HW5 HR5 HG5 hB5 HW HR hlg
              have HW := HW1
              have HR := HR1
              clear HW1 HR1
              obtain ⟨g2, eg2⟩ : ∃ z, z = g1 := ⟨_, rfl⟩
              obtain ⟨c2, ec2⟩ : ∃ z, z = c1 := ⟨_, rfl⟩
              rw [← eg2, ← ec2] at HR ⊢
              clear eg2 ec2
              obtain ⟨m2, em2⟩ : ∃ z, z = m + 1 := ⟨_, rfl⟩
              rw [← em2] at HR ⊢
              have hm2 : m2 ≤ 1000003 := by omega
              clear em2
              have A5 := Below.alloc1 w1 (.cells #[.int .u8 bb] 5)
              have HG5 : Hid (OwnV (w1.alloc (.cells #[.int .u8 bb] 5)) w1.heap.size ((List.range 1).map (eY bb))) := ownV_alloc w1 #[.int .u8 bb] 5
              have HW5 := hide (Below.step (unhide HW) A5)
              have HR5 := hide ((unhide HR).below A5)
              have hB5 := (unhide HW5).size
              have hlg := ((unhide HR).lo (by omega)).1
              clear A5
              go_wp2_with (at_builtin; go_must (refine wpList_appRow tyY _ rfl _ _ rfl w.heap.size (some ⟨g2, 0, none⟩) m2 c2 (X ++ [63]) rfl (unhide HR5) hB5 (by omega) w1.heap.size bb 1 rfl (unhide HG5) ?_); intro g1 c1 w2 hL hKp hBg hat; have HR1 := hide hL; have HW1 := hide ((unhide HW5).trans (hKp.below (unhide HW5).size (fun b e => by simp only [Option.some.injEq, Addr.mk.injEq, and_true] at e; omega))); clear hL hKp hBg hat)
              clear HW5 HR5 HG5 hB5 HW HR hlg
              have HW := HW1
              have HR := HR1
              clear HW1 HR1
              rw [← unhide HNT2] at HR
              go_wp2
              go_roundg (xm - (j + 1))
              case measure => omega
              case rel => exact ⟨j + 1, g1, m2 + 1, c1, _, by omega, rfl, rfl, by go_num, rfl, HR, HW⟩
        · have d0 : ((k : Int) == 0) = false := by rw [hmk2]; exact decide_eq_false hk0
          have hk0i : ¬ (k : Int) = 0 := by omega
          clear hmk2
          have hq3 := wcell3 (unhide HE) (unhide HW)
          have A5 := Below.alloc1 wr (.cells #[.int .u8 58] 5)
          have HG5 : Hid (OwnV (wr.alloc (.cells #[.int .u8 58] 5)) wr.heap.size ((List.range 1).map (eY 58))) := ownV_alloc wr #[.int .u8 58] 5
          have HW5 := hide (Below.step (unhide HW) A5)
          have HR5 := hide ((unhide HR).below A5)
          have hB5 := (unhide HW5).size
          have hlg := ((unhide HR).lo (by omega)).1
          clear A5
          go_upto_region 16 with (at_builtin; go_must (refine wpList_appRow tyY _ rfl _ _ rfl w.heap.size (some ⟨g, 0, none⟩) m c X rfl (unhide HR5) hB5 (by omega) wr.heap.size 58 1 rfl (unhide HG5) ?_); intro g1 c1 w1 hL hKp hBg hat; have HR1 := hide hL; have HW1 := hide ((unhide HW5).trans (hKp.below (unhide HW5).size (fun b e => by simp only [Option.some.injEq, Addr.mk.injEq, and_true] at e; omega))); clear hL hKp hBg hat)
          clear HW5 HR5 HG5 hB5 HW HR hlg
          have HW := HW1
          have HR := HR1
          clear HW1 HR1
          clear hq1 hq2 hq3
          obtain ⟨XC, eXC⟩ : ∃ z, z = X ++ [58] := ⟨_, rfl⟩
          obtain ⟨mC, emC⟩ : ∃ z, z = m + 1 := ⟨_, rfl⟩
          rw [← eXC] at HR HNC hlc
          rw [← emC] at HR ⊢
          have HQ0 : Hid (XC = XC ++ wrT x 0) := by show _ = _; simp [wrT, rw_]
          clear eXC hlk hml emC
          have hq1 := wcell3 (unhide HC1) (unhide HW)
          have hq2 := wcell3 (unhide HD) (unhide HW)
          have hq3 := wcell3 (unhide HE) (unhide HW)
          go_wp2
          clear hq1 hq2 hq3
          go_loopg [3, 9] xm (fun gh sv iv wr => ∃ (j g m c : Nat) (X : List Int), j ≤ xm ∧ gh = xm - j ∧ sv = .slice (some ⟨g, 0, none⟩) m c ∧ iv = .int .i64 j ∧ Hid (X = XC ++ wrT x j) ∧ Hid (RowB 5 1 eY w.heap.size wr (some ⟨g, 0, none⟩) m c X) ∧ Hid (Below w.heap.size w wr))
          case atStart => exact ⟨0, g1, mC, c1, XC, Nat.zero_le _, rfl, rfl, rfl, HQ0, HR, HW⟩
          case round =>
            clear HQ0 HR HW
            obtain ⟨j, g, m, c, X, hj, rfl, rfl, rfl, HXE, HR, HW⟩ := hrel
            have hml := ((unhide HR).lo (by omega)).2.2.2.2.2
            by_cases hjx : j < xm
            case neg =>
              have hji : ¬ (j : Int) < (xm : Int) := by omega
              have HX2 : Hid (X = XB ++ wrP TT (k + 1)) := by show _ = _; rw [unhide HXE, show j = xm by omega]; exact unhide HNC
              clear HXE HNC
              go_wp2
              go_roundg (tn - (k + 1))
              case measure => omega
              case rel => exact ⟨k + 1, g, m, c, X, by omega, rfl, rfl, by go_num, HX2, HR, HW⟩
            have hji : (j : Int) < (xm : Int) := by omega
            have hix := unhide HJX j hjx
            have hbb := byY_bd x j
            have HNT : Hid (XC ++ wrT x (j + 1) = X ++ esc (byY x j)) := by show _ = _; rw [wrT, rw_succ, ← List.append_assoc, unhide HXE]; rfl
            have hlt : X.length + 2 ≤ tot + 2 := by
              have h9 := rw_le (fun j => esc (byY x j)) (i := j) (n := xm) (by omega)
              have h7 : X.length = XC.length + (rw_ (fun j => esc (byY x j)) j).length := by rw [unhide HXE, List.length_append]; rfl
              have h6 : (wrT x xm).length = (rw_ (fun j => esc (byY x j)) xm).length := rfl
              omega
            clear HXE
            generalize byY x j = bb at hix hbb HNT
            obtain ⟨hb0, hb1⟩ := hbb
            have HMK := hide fun V => specMark_any bb V hb0 hb1
            cases hmb : mkB bb
            case false =>
              have HNT2 : Hid (XC ++ wrT x (j + 1) = X ++ [bb]) := by show _ = _; rw [unhide HNT]; unfold esc; rw [hmb]; rfl
              rw [hmb] at HMK
              clear HNT
              go_wp2_with fail
              refine (unhide HMK _).mono ?_
              rintro e w9 ⟨rfl, h9⟩
              have h8 := h9.symm
              subst h8
              clear h9 HMK
              have A5 := Below.alloc1 wr (.cells #[.int .u8 bb] 5)
              have HG5 : Hid (OwnV (wr.alloc (.cells #[.int .u8 bb] 5)) wr.heap.size ((List.range 1).map (eY bb))) := ownV_alloc wr #[.int .u8 bb] 5
              have HW5 := hide (Below.step (unhide HW) A5)
              have HR5 := hide ((unhide HR).below A5)
              have hB5 := (unhide HW5).size
              have hlg := ((unhide HR).lo (by omega)).1
              clear A5
              go_wp2_with (at_builtin; go_must (refine wpList_appRow tyY _ rfl _ _ rfl w.heap.size (some ⟨g, 0, none⟩) m c X rfl (unhide HR5) hB5 (by omega) wr.heap.size bb 1 rfl (unhide HG5) ?_); intro g1 c1 w1 hL hKp hBg hat; have HR1 := hide hL; have HW1 := hide ((unhide HW5).trans (hKp.below (unhide HW5).size (fun b e => by simp only [Option.some.injEq, Addr.mk.injEq, and_true] at e; omega))); clear hL hKp hBg hat)
              clear HW5 HR5 HG5 hB5 HW HR hlg
              have HW := HW1
              have HR := HR1
              clear HW1 HR1
              rw [← unhide HNT2] at HR
              go_wp2
              go_roundg (xm - (j + 1))
              case measure => omega
              case rel => exact ⟨j + 1, g1, m + 1, c1, _, by omega, rfl, rfl, by go_num, rfl, HR, HW⟩
            case true =>
              have HNT2 : Hid (XC ++ wrT x (j + 1) = X ++ [63] ++ [bb]) := by show _ = _; rw [unhide HNT]; unfold esc; rw [hmb, cond_true, List.append_assoc]; rfl
              rw [hmb] at HMK
              clear HNT
              go_wp2_with fail
              refine (unhide HMK _).mono ?_
              rintro e w9 ⟨rfl, h9⟩
              have h8 := h9.symm
              subst h8
              clear h9 HMK
              have A5 := Below.alloc1 wr (.cells #[.int .u8 63] 5)
              have HG5 : Hid (OwnV (wr.alloc (.cells #[.int .u8 63] 5)) wr.heap.size ((List.range 1).map (eY 63))) := ownV_alloc wr #[.int .u8 63] 5
              have HW5 := hide (Below.step (unhide HW) A5)
              have HR5 := hide ((unhide HR).below A5)
              have hB5 := (unhide HW5).size
              have hlg := ((unhide HR).lo (by omega)).1
              clear A5
              go_upto_region 22 with (at_builtin; go_must (refine wpList_appRow tyY _ rfl _ _ rfl w.heap.size (some ⟨g, 0, none⟩) m c X rfl (unhide HR5) hB5 (by omega) wr.heap.size 63 1 rfl (unhide HG5) ?_); intro g1 c1 w1 hL hKp hBg hat; have HR1 := hide hL; have HW1 := hide ((unhide HW5).trans (hKp.below (unhide HW5).size (fun b e => by simp only [Option.some.injEq, Addr.mk.injEq, and_true] at e; omega))); clear hL hKp hBg hat)
              clear HW5 HR5 HG5 hB5 HW HR hlg
              have HW := HW1
              have HR := HR1
              clear HW1 HR1
              obtain ⟨g2, eg2⟩ : ∃ z, z = g1 := ⟨_, rfl⟩
              obtain ⟨c2, ec2⟩ : ∃ z, z = c1 := ⟨_, rfl⟩
              rw [← eg2, ← ec2] at HR ⊢
              clear eg2 ec2
              obtain ⟨m2, em2⟩ : ∃ z, z = m + 1 := ⟨_, rfl⟩
              rw [← em2] at HR ⊢
              have hm2 : m2 ≤ 1000003 := by omega
              clear em2
              have A5 := Below.alloc1 w1 (.cells #[.int .u8 bb] 5)
              have HG5 : Hid (OwnV (w1.alloc (.cells #[.int .u8 bb] 5)) w1.heap.size ((List.range 1).map (eY bb))) := ownV_alloc w1 #[.int .u8 bb] 5
              have HW5 := hide (Below.step (unhide HW) A5)
              have HR5 := hide ((unhide HR).below A5)
              have hB5 := (unhide HW5).size
              have hlg := ((unhide HR).lo (by omega)).1
              clear A5
              go_wp2_with (at_builtin; go_must (refine wpList_appRow tyY _ rfl _ _ rfl w.heap.size (some ⟨g2, 0, none⟩) m2 c2 (X ++ [63]) rfl (unhide HR5) hB5 (by omega) w1.heap.size bb 1 rfl (unhide HG5) ?_); intro g1 c1 w2 hL hKp hBg hat; have HR1 := hide hL; have HW1 := hide ((unhide HW5).trans (hKp.below (unhide HW5).size (fun b e => by simp only [Option.some.injEq, Addr.mk.injEq, and_true] at e; omega))); clear hL hKp hBg hat)
              clear HW5 HR5 HG5 hB5 HW HR hlg
              have HW := HW1
              have HR := HR1
              clear HW1 HR1
              rw [← unhide HNT2] at HR
              go_wp2
              go_roundg (xm - (j + 1))
              case measure => omega
              case rel => exact ⟨j + 1, g1, m2 + 1, c1, _, by omega, rfl, rfl, by go_num, rfl, HR, HW⟩

set_option maxHeartbeats 1600000 in
theorem specSegsOk_any (v : Value) (L : List SegT) (w : World) (h : SgsIn w v L) (hx : TxSg L) :
    Calls Try.prog 11 #[v] w fun e w' => e = .returned (.bool (sgB L)) ∧ Below w.heap.size w w' := by
  have HI := hide h
  have HX := hide hx
  obtain ⟨ao, cap, rfl, hl, hm, -⟩ := h
  unfold maxLen at hm
  obtain ⟨V, eV⟩ : ∃ z, z = sgB L := ⟨_, rfl⟩
  have F1 : Hid (¬ L.length ≤ 60 → V = false) := by show _ → _; intro h; rw [eV]; unfold sgB; rw [decide_eq_false h]; rfl
  have F2 : Hid (∀ i, i < L.length → sgC (L.getD i default) = false → V = false) := by
    show ∀ i, _
    intro i hi h
    rw [eV]; unfold sgB
    rw [decide_eq_false (fun h2 : ∀ i, i < L.length → sgC (L.getD i default) = true => by have := h2 i hi; rw [h] at this; cases this), Bool.and_false]
    rfl
  have F3 : Hid (L.length ≤ 60 → (∀ i, i < L.length → sgC (L.getD i default) = true) → V = decide ((wrL L).length ≤ 2000)) := by
    show _ → _
    intro h1 h2
    rw [eV]; unfold sgB
    rw [decide_eq_true h1, decide_eq_true h2]
    rfl
  rw [← eV]
  clear eV
  by_cases h60 : L.length ≤ 60
  case neg =>
    have hv := unhide F1 h60
    have d60 : decide ((60 : Int) < (L.length : Int)) = true := decide_eq_true (by omega)
    have h60i : ((60 : Int) < (L.length : Int)) := by omega
    go_enter Try.func11, Try.ntmps11
    go_wp2
    go_ret
    first | exact ⟨rfl, Below.refl _ _⟩ | exact ⟨by rw [hv]; rfl, Below.refl _ _⟩
  have d60 : decide ((60 : Int) < (L.length : Int)) = false := decide_eq_false (by omega)
  have h60i : ¬ ((60 : Int) < (L.length : Int)) := by omega
  go_enter Try.func11, Try.ntmps11
  go_wp2
  go_loopg [3] L.length (fun gh iv wr => ∃ i : Nat, i ≤ L.length ∧ gh = L.length - i ∧ iv = .int .i64 i ∧ Hid (∀ q, q < i → sgC (L.getD q default) = true) ∧ Hid (Below w.heap.size w wr))
  case atStart => exact ⟨0, Nat.zero_le _, rfl, rfl, hide (fun j hj => absurd hj (by omega)), hide (Below.refl _ _)⟩
  case round =>
    obtain ⟨i, hi, rfl, rfl, HP, HW⟩ := hrel
    by_cases hin : i < L.length
    case neg =>
      have hii : ¬ (i : Int) < (L.length : Int) := by omega
      have hall : ∀ q, q < L.length → sgC (L.getD q default) = true := fun q hq => unhide HP q (by omega)
      have hv := unhide F3 h60 hall
      have HSM := hide (wr_small h60 hall)
      obtain ⟨tot, et⟩ : ∃ z, z = (wrL L).length := ⟨_, rfl⟩
      have HWR := hide (specWrite_any _ L wr ((unhide HI).below (unhide HW)) (unhide HX) (unhide HSM))
      rw [← et] at hv HWR
      have hd : decide ((tot : Int) ≤ 2000) = V := by
        rw [hv]
        by_cases h2 : tot ≤ 2000
        · rw [decide_eq_true h2, decide_eq_true (by omega)]
        · rw [decide_eq_false h2, decide_eq_false (by omega)]
      clear hv hall F1 F2 F3 et
      go_wp2_with fail
      refine (unhide HWR).mono ?_
      rintro e w1 ⟨g, c, rfl, -, hb⟩
      have HW1 := hide (Below.step (unhide HW) hb)
      clear hb HWR
      have HDD := hide hd
      clear hd
      go_wp2
      go_ret
      exact ⟨ret_bool (unhide HDD), unhide HW1⟩
    have hii : (i : Int) < (L.length : Int) := by omega
    obtain ⟨b, o, na, nc, n, t, P, rfl, hc0, hc1, hr, EX, EM, hn⟩ := (unhide HI).at hin
    have hxi := unhide HX i hin
    rw [unhide EX] at hxi
    have HSG := hide fun V (hV : Below w.heap.size w V) => specSeg_any t na n nc P V (hr.below hV) hxi.1 hxi.2
    have HF := hide (unhide F2 i hin)
    have HPN : Hid (sgC (L.getD i default) = true → ∀ q, q < i + 1 → sgC (L.getD q default) = true) := by
      show _ → _
      intro h j hj
      by_cases e : j = i
      · rw [e]; exact h
      · exact unhide HP j (by omega)
    rw [unhide EX] at HF HPN
    have g0 := wcell3 hc0 (unhide HW)
    have g1 := wcell3 hc1 (unhide HW)
    unfold vSeg at HSG
    clear hc0 hc1 hr hxi
    go_wp2_with fail
    refine (unhide HSG _ (unhide HW)).mono ?_
    rintro e w1 ⟨rfl, hb⟩
    have HW1 := hide (Below.step (unhide HW) hb)
    clear hb HSG g0 g1
    cases hsg : sgC (t, P)
    case false =>
      have hv := unhide HF hsg
      clear HF HPN
      go_wp2
      go_ret
      first | exact ⟨rfl, unhide HW1⟩ | exact ⟨by rw [hv]; rfl, unhide HW1⟩
    case true =>
      have HP2 := hide (unhide HPN hsg)
      clear HF HPN
      go_wp2
      go_roundg (L.length - (i + 1))
      case measure => omega
      case rel => exact ⟨i + 1, by omega, rfl, by go_num, HP2, HW1⟩

set_option maxHeartbeats 1600000 in
theorem specWriteSegs_any (v : Value) (L : List SegT) (w : World) (h : SgsIn w v L) (hx : TxSg L) :
    Calls Try.prog 18 #[v] w fun e w' => e = .returned (.tuple #[.string (wgV L).1, .bool (wgV L).2]) ∧ Below w.heap.size w w' := by
  have HI := hide h
  have HX := hide hx
  have HSO := hide (specSegsOk_any v L w h hx)
  cases hs : sgB L
  case false =>
    have HV : Hid (wgV L = (⟨#[]⟩, false)) := by show _ = _; unfold wgV; rw [hs]; rfl
    rw [hs] at HSO
    go_enter Try.func18, Try.ntmps18
    go_wp2_with fail
    refine (unhide HSO).mono ?_
    rintro e w1 ⟨rfl, hb⟩
    have HW := hide hb
    clear hb
    go_wp2
    refine bodyPost_ret (v := .tuple #[.string ⟨#[]⟩, .bool false]) (by simp [results, Try.results18, go_sem]) rfl ⟨by rw [unhide HV], unhide HW⟩
  case true =>
    have HV : Hid (wgV L = (Go.strOfNums (wrL L), true)) := by show _ = _; unfold wgV; rw [hs]; rfl
    have hbd : (wrL L).length ≤ 1000000 := by
      unfold sgB at hs
      simp only [Bool.and_eq_true, decide_eq_true_eq] at hs
      omega
    have HWR := hide fun V (hV : Below w.heap.size w V) => specWrite_any v L V ((unhide HI).below hV) (unhide HX) hbd
    rw [hs] at HSO
    go_enter Try.func18, Try.ntmps18
    go_wp2_with fail
    refine (unhide HSO).mono ?_
    rintro e w1 ⟨rfl, hb⟩
    have HW := hide hb
    clear hb
    go_wp2_with fail
    refine (unhide HWR _ (unhide HW)).mono ?_
    rintro e w2 ⟨g, c, rfl, hrow, hb⟩
    have hcv := rowY_text hrow c
    replace HW := hide (Below.step (unhide HW) hb)
    obtain ⟨tx, etx⟩ : ∃ z, z = Go.strOfNums (wrL L) := ⟨_, rfl⟩
    rw [← etx] at hcv HV
    obtain ⟨tot, et⟩ : ∃ z, z = (wrL L).length := ⟨_, rfl⟩
    rw [← et] at hcv ⊢
    clear hb hrow etx et HWR HSO
    go_wp2
    refine bodyPost_ret (v := .tuple #[.string tx, .bool true]) (by simp [results, Try.results18, go_sem]) rfl ⟨by rw [unhide HV], unhide HW⟩

end Go.Proofs.Ytjpogaidcmndoaa

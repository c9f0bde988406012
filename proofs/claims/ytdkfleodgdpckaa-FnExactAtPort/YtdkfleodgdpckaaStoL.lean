/- Stowage: both AtPort. Written by wip/mksto2.py. -/
import Derived.Test.YtdkfleodgdpckaaStoK
import Derived.Test.YtdkfleodgdpckaaStoD
import Derived.Test.YtdkfleodgdpckaaStoJ
namespace Go.Proofs.Ytdkfleodgdpckaa
open Go.RowKit

set_option maxRecDepth 10000 in
set_option maxHeartbeats 12800000 in
theorem implAtPort_any (bv lv pv : Value) (H : List HatchT) (L : List StowT) (p : Int) (P : List StowT) (w : World) (hH : RHatch w bv H) (hL : RStow w lv L) (hsL : L.length ≤ 1048576) (hP : RStow w pv P) :
    Calls Try.prog 17 #[bv, lv, .int .i64 p, pv] w fun e w' => ∃ a n cp, e = .returned (.tuple #[.slice a n cp, .int .i64 (apV1 H L p P), .int .i64 (apC H L p P)]) ∧ OwnR 9 eStow w.heap.size w' (.slice a n cp) (apV0 H L p P) ∧ Below w.heap.size w w' := by
  have HRL := hide hL
  have HRH := hide hH
  have HRP := hide hP
  obtain ⟨ao, cap, rfl, hl, hm, hc⟩ := hL
  obtain ⟨ho, hcap, rfl, hhl, hhm, hhc⟩ := hH
  obtain ⟨po, pcap, rfl, hpl, hpm, hpc⟩ := hP
  unfold maxLen at hm hhm hpm
  have HPC := hide hpc
  have HC := hide hc
  clear hc hhc hpc
  have A1 := hide (apC_1 (H := H) (L := L) (p := p) (P := P))
  have A2 := hide (apC_2 (H := H) (L := L) (p := p) (P := P))
  have A3 := hide (apC_3 (H := H) (L := L) (p := p) (P := P))
  have A0 := hide (apC_0 (H := H) (L := L) (p := p) (P := P))
  have AN := hide fun c h hc => ap_not (H := H) (L := L) (p := p) (P := P) (c := c) h hc
  have AD := hide (ap_done (H := H) (L := L) (p := p) (P := P))
  have QW := hide fun V (h1 : RHatch V (.slice ho H.length hcap) H) (h2 : RStow V (.slice ao L.length cap) L) => isStowedWell_any _ _ H L V h1 h2
  have QC := hide fun V (h : RStow V (.slice ao L.length cap) L) => ownCopyStow_any ao L.length cap L V h hsL
  have QP := hide fun V => isBoxPort_any p V
  have QU := hide fun V (h : RStow V (.slice ao L.length cap) L) => isUnderWay_any _ L p V h
  have QL := hide fun V (h : RStow V (.slice po P.length pcap) P) => isLoadedAt_any _ P p V h
  have QS := hide fun V (h : RStow V (.slice ao L.length cap) L) => staying_any _ L p V h hsL
  have QX := hide fun V va (h1 : RHatch V (.slice ho H.length hcap) H) (h2 : RStow V va (stayL L p ++ P)) => isStowedWell_any _ va H (stayL L p ++ P) V h1 h2
  have QH := hide fun V (h : RStow V (.slice ao L.length cap) L) => implShifts_any _ L p V h
  go_enter Try.func17, Try.ntmps17
  go_wp2_with fail
  refine (unhide QW _ (unhide HRH) (unhide HRL)).mono ?_
  rintro e w1 ⟨rfl, hb⟩
  have HW := hide hb
  clear hb QW
  cases hw : wellB H L with
  | false =>
    rw [hw] at A1
    have E := hide (unhide A1 rfl)
    have E0 := hide (unhide AN 1 (unhide E) (by decide))
    clear A1 A2 A3 A0 AN AD
    go_wp2_with fail
    refine (unhide QC _ ((unhide HRL).below (unhide HW))).mono ?_
    rintro e wz ⟨rfl, ho', hb⟩
    have HO := hide ho'
    have hws := (unhide HW).size
    replace HW := hide (Below.step (unhide HW) hb)
    clear ho' hb QC
    go_wp2
    refine bodyPost_ret (v := .tuple #[.slice (some ⟨w1.heap.size, 0, none⟩) L.length L.length, .int .i64 0, .int .i64 1]) (by simp [results, Try.results17, go_sem]) rfl ⟨_, _, _, by rw [unhide E, (unhide E0).2], by rw [(unhide E0).1]; exact ownR_copy (unhide HO) hws hsL, unhide HW⟩
  | true =>
  rw [hw] at A1 A2 A3 A0
  clear hw
  by_cases h40 : 40 < P.length
  · have h40i : (40 : Int) < P.length := by omega
    have hd : decide (P.length ≤ 40) = false := by simp; omega
    rw [hd] at A1
    have E := hide (unhide A1 rfl)
    have E0 := hide (unhide AN 1 (unhide E) (by decide))
    clear A1 A2 A3 A0 AN AD
    go_wp2_with fail
    refine (unhide QC _ ((unhide HRL).below (unhide HW))).mono ?_
    rintro e wz ⟨rfl, ho', hb⟩
    have HO := hide ho'
    have hws := (unhide HW).size
    replace HW := hide (Below.step (unhide HW) hb)
    clear ho' hb QC
    go_wp2
    refine bodyPost_ret (v := .tuple #[.slice (some ⟨w1.heap.size, 0, none⟩) L.length L.length, .int .i64 0, .int .i64 1]) (by simp [results, Try.results17, go_sem]) rfl ⟨_, _, _, by rw [unhide E, (unhide E0).2], by rw [(unhide E0).1]; exact ownR_copy (unhide HO) hws hsL, unhide HW⟩
  have h40i : ¬ (40 : Int) < P.length := by omega
  have hl40 : P.length ≤ 40 := by omega
  have hd : decide (P.length ≤ 40) = true := by simp; omega
  rw [hd] at A1 A2 A3 A0
  clear hd h40
  go_wp2_with fail
  refine (unhide QP _).mono ?_
  rintro e w2 ⟨rfl, rfl⟩
  clear QP
  cases hp : inB p 0 19 with
  | false =>
    rw [hp] at A1
    have E := hide (unhide A1 rfl)
    have E0 := hide (unhide AN 1 (unhide E) (by decide))
    clear A1 A2 A3 A0 AN AD
    go_wp2_with fail
    refine (unhide QC _ ((unhide HRL).below (unhide HW))).mono ?_
    rintro e wz ⟨rfl, ho', hb⟩
    have HO := hide ho'
    have hws := (unhide HW).size
    replace HW := hide (Below.step (unhide HW) hb)
    clear ho' hb QC
    go_wp2
    refine bodyPost_ret (v := .tuple #[.slice (some ⟨w2.heap.size, 0, none⟩) L.length L.length, .int .i64 0, .int .i64 1]) (by simp [results, Try.results17, go_sem]) rfl ⟨_, _, _, by rw [unhide E, (unhide E0).2], by rw [(unhide E0).1]; exact ownR_copy (unhide HO) hws hsL, unhide HW⟩
  | true =>
  rw [hp] at A2 A3 A0
  replace A2 := hide (unhide A2 rfl)
  replace A3 := hide (unhide A3 rfl)
  replace A0 := hide (unhide A0 rfl)
  clear hp
  go_wp2_with fail
  refine (unhide QU _ ((unhide HRL).below (unhide HW))).mono ?_
  rintro e w3 ⟨rfl, hb⟩
  replace HW := hide (Below.step (unhide HW) hb)
  clear hb QU
  cases hu : hereB L p with
  | false =>
    rw [hu] at A2
    have E := hide (unhide A2 rfl)
    have E0 := hide (unhide AN 2 (unhide E) (by decide))
    clear A1 A2 A3 A0 AN AD
    go_wp2_with fail
    refine (unhide QC _ ((unhide HRL).below (unhide HW))).mono ?_
    rintro e wz ⟨rfl, ho', hb⟩
    have HO := hide ho'
    have hws := (unhide HW).size
    replace HW := hide (Below.step (unhide HW) hb)
    clear ho' hb QC
    go_wp2
    refine bodyPost_ret (v := .tuple #[.slice (some ⟨w3.heap.size, 0, none⟩) L.length L.length, .int .i64 0, .int .i64 2]) (by simp [results, Try.results17, go_sem]) rfl ⟨_, _, _, by rw [unhide E, (unhide E0).2], by rw [(unhide E0).1]; exact ownR_copy (unhide HO) hws hsL, unhide HW⟩
  | true =>
  rw [hu] at A2 A3 A0
  clear hu
  go_wp2_with fail
  refine (unhide QL _ ((unhide HRP).below (unhide HW))).mono ?_
  rintro e w4 ⟨rfl, hb⟩
  replace HW := hide (Below.step (unhide HW) hb)
  clear hb QL
  cases hu : planB P p with
  | false =>
    rw [hu] at A2
    have E := hide (unhide A2 rfl)
    have E0 := hide (unhide AN 2 (unhide E) (by decide))
    clear A1 A2 A3 A0 AN AD
    go_wp2_with fail
    refine (unhide QC _ ((unhide HRL).below (unhide HW))).mono ?_
    rintro e wz ⟨rfl, ho', hb⟩
    have HO := hide ho'
    have hws := (unhide HW).size
    replace HW := hide (Below.step (unhide HW) hb)
    clear ho' hb QC
    go_wp2
    refine bodyPost_ret (v := .tuple #[.slice (some ⟨w4.heap.size, 0, none⟩) L.length L.length, .int .i64 0, .int .i64 2]) (by simp [results, Try.results17, go_sem]) rfl ⟨_, _, _, by rw [unhide E, (unhide E0).2], by rw [(unhide E0).1]; exact ownR_copy (unhide HO) hws hsL, unhide HW⟩
  | true =>
  rw [hu] at A3 A0
  replace A3 := hide (unhide A3 rfl)
  replace A0 := hide (unhide A0 rfl)
  clear hu A1 A2
  go_wp2_with fail
  refine (unhide QS _ ((unhide HRL).below (unhide HW))).mono ?_
  rintro e w5 ⟨ra, ma, ca, rfl, hrow, hma, hb⟩
  have hB4 := (unhide HW).size
  replace HW := hide (Below.step (unhide HW) hb)
  have HROW := hide (RowB.mono hrow hB4)
  have hws5 := (unhide HW).size
  have HRP5 := hide ((unhide HRP).below (unhide HW))
  clear hb QS hrow
  go_wp2_with (at_builtin; go_must (refine wpList_appAll tyStow _ rfl _ _ rfl w.heap.size ra ma ca (stayL L p) rfl (unhide HROW) hws5 (by omega) po P.length pcap P rfl (unhide HRP5) (by omega) ?_); intro ao6 cap6 w6 hL hK; have HL6 := hide hL; have HW6 := hide (onRow_below (unhide HW) (unhide HROW) (by decide) hws5 hK); clear hL hK)
  refine (unhide QX _ _ ((unhide HRH).below (unhide HW6)) ((unhide HL6).recs (by decide))).mono ?_
  rintro e w7 ⟨rfl, hb⟩
  replace HW := hide (Below.step (unhide HW6) hb)
  replace HL6 := hide ((unhide HL6).below hb)
  clear hb QX HW6 HROW HRP5 hws5
  cases hx : wellB H (stayL L p ++ P) with
  | false =>
    have E := hide (unhide A3 hx)
    have E0 := hide (unhide AN 3 (unhide E) (by decide))
    clear A3 A0 AN AD
    go_wp2_with fail
    refine (unhide QC _ ((unhide HRL).below (unhide HW))).mono ?_
    rintro e wz ⟨rfl, ho', hb⟩
    have HO := hide ho'
    have hws := (unhide HW).size
    replace HW := hide (Below.step (unhide HW) hb)
    clear ho' hb QC
    go_wp2
    refine bodyPost_ret (v := .tuple #[.slice (some ⟨w7.heap.size, 0, none⟩) L.length L.length, .int .i64 0, .int .i64 3]) (by simp [results, Try.results17, go_sem]) rfl ⟨_, _, _, by rw [unhide E, (unhide E0).2], by rw [(unhide E0).1]; exact ownR_copy (unhide HO) hws hsL, unhide HW⟩
  | true =>
  have E := hide (unhide A0 hx)
  have E0 := hide (unhide AD (unhide E))
  clear A3 A0 AN AD hx
  go_wp2_with fail
  refine (unhide QH _ ((unhide HRL).below (unhide HW))).mono ?_
  rintro e w8 ⟨a8, n8, c8, rfl, hs8, hb⟩
  replace HW := hide (Below.step (unhide HW) hb)
  replace HL6 := hide ((unhide HL6).below hb)
  have hn8 : (shV L p).length = n8 := hs8.intsIn.len.1
  have HN8 := hide hn8
  clear hb QH hs8 hn8
  go_wp2
  refine bodyPost_ret (v := .tuple #[.slice ao6 (ma + P.length) cap6, .int .i64 (n8 : Int), .int .i64 0]) (by simp [results, Try.results17, go_sem]) rfl ⟨_, _, _, by rw [unhide E, (unhide E0).2, unhide HN8], by rw [(unhide E0).1]; exact (unhide HL6).own (by decide), unhide HW⟩

set_option maxRecDepth 10000 in
set_option maxHeartbeats 12800000 in
theorem specAtPort_any (bv lv pv : Value) (H : List HatchT) (L : List StowT) (p : Int) (P : List StowT) (w : World) (hH : RHatch w bv H) (hL : RStow w lv L) (hsL : L.length ≤ 1048576) (hP : RStow w pv P) :
    Calls Try.prog 38 #[bv, lv, .int .i64 p, pv] w fun e w' => ∃ a n cp, e = .returned (.tuple #[.slice a n cp, .int .i64 (apV1 H L p P), .int .i64 (apC H L p P)]) ∧ OwnR 9 eStow w.heap.size w' (.slice a n cp) (apV0 H L p P) ∧ Below w.heap.size w w' := by
  have HRL := hide hL
  have HRH := hide hH
  have HRP := hide hP
  obtain ⟨ao, cap, rfl, hl, hm, hc⟩ := hL
  obtain ⟨ho, hcap, rfl, hhl, hhm, hhc⟩ := hH
  obtain ⟨po, pcap, rfl, hpl, hpm, hpc⟩ := hP
  unfold maxLen at hm hhm hpm
  have HPC := hide hpc
  have HC := hide hc
  clear hc hhc hpc
  have A1 := hide (apC_1 (H := H) (L := L) (p := p) (P := P))
  have A2 := hide (apC_2 (H := H) (L := L) (p := p) (P := P))
  have A3 := hide (apC_3 (H := H) (L := L) (p := p) (P := P))
  have A0 := hide (apC_0 (H := H) (L := L) (p := p) (P := P))
  have AN := hide fun c h hc => ap_not (H := H) (L := L) (p := p) (P := P) (c := c) h hc
  have AD := hide (ap_done (H := H) (L := L) (p := p) (P := P))
  have QW := hide fun V (h1 : RHatch V (.slice ho H.length hcap) H) (h2 : RStow V (.slice ao L.length cap) L) => specStowCode_any _ _ H L V h1 h2
  have QP := hide fun V => l1In_any p 0 19 V
  have QX := hide fun V va (h1 : RHatch V (.slice ho H.length hcap) H) (h2 : RStow V va (stayL L p ++ P)) => specStowCode_any _ va H (stayL L p ++ P) V h1 h2
  have QH := hide fun V (h : RStow V (.slice ao L.length cap) L) => specShifts_any _ L p V h
  have HN := hide (rowB_new 44 9 eStow w w.heap.size (Nat.le_refl _))
  have HW0 := hide (Below.alloc1 w (.cells #[] 44))
  have hws0 := (unhide HW0).size
  have HRL0 := hide ((unhide HRL).below (unhide HW0))
  go_enter Try.func38, Try.ntmps38
  go_wp2_with (at_builtin; go_must (refine wpList_appAll tyStow _ rfl _ _ rfl w.heap.size (some ⟨w.heap.size, 0, none⟩) 0 0 [] rfl (unhide HN) hws0 (by omega) ao L.length cap L rfl (unhide HRL0) hsL ?_); intro sa sc w1 hL hK; have HSM : Hid (RowB 44 9 eStow w.heap.size w1 sa (0 + L.length) sc L) := hL; have HW := hide (onRow_below (unhide HW0) (unhide HN) (by decide) hws0 hK); clear hL hK)
  clear HN HW0 HRL0 hws0
  refine (unhide QW _ ((unhide HRH).below (unhide HW)) ((unhide HRL).below (unhide HW))).mono ?_
  rintro e w2 ⟨rfl, hb⟩
  replace HW := hide (Below.step (unhide HW) hb)
  replace HSM := hide ((unhide HSM).below hb)
  clear hb QW
  have EW : Hid (wellB H L = decide ((stowC H L).1 = 0)) := rfl
  generalize stowC H L = C at *
  obtain ⟨c, ck⟩ := C
  dsimp only at EW ⊢
  by_cases hc : c = 0
  case neg =>
    have d1 : (c != 0) = true := by simp [hc]
    have d2 : (c == 0) = false := by simp [hc]
    rw [decide_eq_false hc] at EW
    rw [unhide EW] at A1
    have HC0 := hide hc
    clear hc
    have E := hide (unhide A1 rfl)
    have E0 := hide (unhide AN 1 (unhide E) (by decide))
    go_wp2
    refine bodyPost_ret (v := .tuple #[.slice sa (0 + L.length) sc, .int .i64 0, .int .i64 1]) (by simp [results, Try.results38, go_sem]) rfl ⟨_, _, _, by rw [unhide E, (unhide E0).2], by rw [(unhide E0).1]; exact (unhide HSM).own (by decide), unhide HW⟩
  have d1 : (c != 0) = false := by simp [hc]
  have d2 : (c == 0) = true := by simp [hc]
  rw [decide_eq_true hc] at EW
  have hL40 : L.length ≤ 40 := (wellB_iff.1 (unhide EW)).2.1
  rw [unhide EW] at A1 A2 A3 A0
  have HC0 := hide hc
  clear hc
  by_cases h40 : 40 < P.length
  · have h40i : (40 : Int) < P.length := by omega
    have hd : decide (P.length ≤ 40) = false := by simp; omega
    rw [hd] at A1
    have E := hide (unhide A1 rfl)
    have E0 := hide (unhide AN 1 (unhide E) (by decide))
    go_wp2
    refine bodyPost_ret (v := .tuple #[.slice sa (0 + L.length) sc, .int .i64 0, .int .i64 1]) (by simp [results, Try.results38, go_sem]) rfl ⟨_, _, _, by rw [unhide E, (unhide E0).2], by rw [(unhide E0).1]; exact (unhide HSM).own (by decide), unhide HW⟩
  have h40i : ¬ (40 : Int) < P.length := by omega
  have hl40 : P.length ≤ 40 := by omega
  have hd : decide (P.length ≤ 40) = true := by simp; omega
  rw [hd] at A1 A2 A3 A0
  clear hd h40
  go_wp2_with fail
  refine (unhide QP _).mono ?_
  rintro e w3 ⟨rfl, rfl⟩
  clear QP
  cases hp : inB p 0 19 with
  | false =>
    rw [hp] at A1
    have E := hide (unhide A1 rfl)
    have E0 := hide (unhide AN 1 (unhide E) (by decide))
    go_wp2
    refine bodyPost_ret (v := .tuple #[.slice sa (0 + L.length) sc, .int .i64 0, .int .i64 1]) (by simp [results, Try.results38, go_sem]) rfl ⟨_, _, _, by rw [unhide E, (unhide E0).2], by rw [(unhide E0).1]; exact (unhide HSM).own (by decide), unhide HW⟩
  | true =>
  rw [hp] at A2 A3 A0
  replace A2 := hide (unhide A2 rfl)
  replace A3 := hide (unhide A3 rfl)
  replace A0 := hide (unhide A0 rfl)
  clear hp A1 d1 d2 HC0 EW
  obtain ⟨V3, eV3⟩ : ∃ V, V = w3.alloc (.cells #[] 44) := ⟨_, rfl⟩
  have hA3 : Below w3.heap.size w3 V3 := by rw [eV3]; exact Below.alloc1 _ _
  have HN3 : Hid (RowB 44 9 eStow w.heap.size V3 (some ⟨w3.heap.size, 0, none⟩) 0 0 ([] : List StowT)) := by
    show RowB _ _ _ _ _ _ _ _ _
    rw [eV3]
    exact rowB_new 44 9 eStow w3 w.heap.size (unhide HW).size
  have HSB : Hid (∀ g, sa = some ⟨g, 0, none⟩ → g < w3.heap.size) := fun g hg => by
    rcases (unhide HSM).parts (by decide) with ⟨e, _⟩ | ⟨g', e, _, hlt, _⟩
    · rw [hg] at e; cases e
    · rw [hg] at e; simp only [Option.some.injEq, Addr.mk.injEq, and_true] at e; omega
  have hB3 := (unhide HW).size
  replace HW := hide (Below.step (unhide HW) hA3)
  replace HSM := hide ((unhide HSM).below hA3)
  replace HN3 : Hid (RowB 44 9 eStow w3.heap.size V3 (some ⟨w3.heap.size, 0, none⟩) 0 0 ([] : List StowT)) := by
    show RowB _ _ _ _ _ _ _ _ _
    rw [eV3]
    exact rowB_new 44 9 eStow w3 w3.heap.size (Nat.le_refl _)
  have HZ3 := hide hA3.size
  clear hA3
  go_wp2
  rw [← eV3]
  clear eV3
  go_loopg [14, 15] L.length (fun g ov kv wr => ∃ (k m c : Nat) (ro : Option Addr), k ≤ L.length ∧ g = L.length - k ∧ kv = .int .i64 k ∧ ov = .slice ro m c ∧ m ≤ k ∧ Hid (∀ r, r < k → her1 p (stO L r) = true) ∧ Hid (RowB 44 9 eStow w3.heap.size wr ro m c (stayT L p k)) ∧ Hid (RowB 44 9 eStow w.heap.size wr sa (0 + L.length) sc L) ∧ Hid (Below w.heap.size w wr) ∧ Hid (w3.heap.size ≤ wr.heap.size))
  case atStart => exact ⟨0, 0, 0, _, Nat.zero_le _, rfl, rfl, rfl, Nat.le_refl _, fun r hr => by omega, unhide HN3, unhide HSM, unhide HW, unhide HZ3⟩
  case round =>
    clear HN3 HSM HW HZ3
    obtain ⟨k, m, c, ro, hk, rfl, rfl, rfl, hmk, HA, HL, HSM, HW, HZ⟩ := hrel
    by_cases hkn : k < L.length
    · have EH : Hid (toS (stO L k) ≠ p → stayT L p (k + 1) = stayT L p k ++ [stO L k]) := fun h => by rw [stayT, if_neg h]
      have EM : Hid (toS (stO L k) = p → stayT L p (k + 1) = stayT L p k) := fun h => by rw [stayT, if_pos h, List.append_nil]
      have HBD : Hid (her1 p (stO L k) = false → hereB L p = false) := hereB_bad hkn
      obtain ⟨b, o, n0, wt, cl, co, fr, to, sx, sy, sz, rfl, hc0, hc1, hc2, hc3, hc4, hc5, hc6, hc7, hc8, EX⟩ := recStowAt (unhide HC) hkn
      have g0 := ((unhide HW).cell (lt_of_cell hc0)).trans hc0
      have g1 := ((unhide HW).cell (lt_of_cell hc1)).trans hc1
      have g2 := ((unhide HW).cell (lt_of_cell hc2)).trans hc2
      have g3 := ((unhide HW).cell (lt_of_cell hc3)).trans hc3
      have g4 := ((unhide HW).cell (lt_of_cell hc4)).trans hc4
      have g5 := ((unhide HW).cell (lt_of_cell hc5)).trans hc5
      have g6 := ((unhide HW).cell (lt_of_cell hc6)).trans hc6
      have g7 := ((unhide HW).cell (lt_of_cell hc7)).trans hc7
      have g8 := ((unhide HW).cell (lt_of_cell hc8)).trans hc8
      have ESP : Hid (ssp (stO L k) = (sx, sy, sz)) := by show _ = _; unfold stO; rw [unhide EX]; rfl
      have EBX : Hid (sbx (stO L k) = (n0, wt, cl, co, fr, to)) := by show _ = _; unfold stO; rw [unhide EX]; rfl
      clear hc0 hc1 hc2 hc3 hc4 hc5 hc6 hc7 hc8
      have ETO : Hid (toS (stO L k) = to) := by show _ = _; unfold toS stO; rw [unhide EX]
      have EST : Hid (stO L k = (n0, wt, cl, co, fr, to, sx, sy, sz)) := by show _ = _; unfold stO; rw [unhide EX]
      have EHR : Hid (her1 p (stO L k) = inB p fr to) := by show _ = _; rw [unhide EST]; rfl
      have HA1 : Hid (her1 p (stO L k) = true → ∀ r, r < k + 1 → her1 p (stO L r) = true) := fun h r hr => by
        by_cases e : r = k
        · rw [e]; exact h
        · exact unhide HA r (by omega)
      rw [unhide EHR] at HBD HA1
      rw [unhide ETO, unhide EST] at EH
      rw [unhide ETO] at EM
      have hki : (k : Int) < L.length := by omega
      clear EX EBX ESP ETO EST EHR HA
      by_cases ht : to < p
      · replace HBD := hide (unhide HBD (inB_not (Or.inr ht)))
        rw [unhide HBD] at A2
        clear EH EM HA1
        have E := hide (unhide A2 rfl)
        have E0 := hide (unhide AN 2 (unhide E) (by decide))
        go_wp2
        refine bodyPost_ret (v := .tuple #[.slice sa (0 + L.length) sc, .int .i64 0, .int .i64 2]) (by simp [results, Try.results38, go_sem]) rfl ⟨_, _, _, by rw [unhide E, (unhide E0).2], by rw [(unhide E0).1]; exact (unhide HSM).own (by decide), unhide HW⟩
      by_cases hf : p < fr
      · replace HBD := hide (unhide HBD (inB_not (Or.inl hf)))
        rw [unhide HBD] at A2
        have ht2 : ¬ to < p := ht
        clear EH EM HA1
        have E := hide (unhide A2 rfl)
        have E0 := hide (unhide AN 2 (unhide E) (by decide))
        go_wp2
        refine bodyPost_ret (v := .tuple #[.slice sa (0 + L.length) sc, .int .i64 0, .int .i64 2]) (by simp [results, Try.results38, go_sem]) rfl ⟨_, _, _, by rw [unhide E, (unhide E0).2], by rw [(unhide E0).1]; exact (unhide HSM).own (by decide), unhide HW⟩
      replace HA1 := hide (unhide HA1 (inB_mk (by omega) (by omega)))
      clear HBD
      by_cases hq : to = p
      · have d1 : (to != p) = false := by simp [hq]
        have d2 : (to == p) = true := by simp [hq]
        replace EM := hide (unhide EM hq)
        clear EH hq
        go_wp2
        go_roundg (L.length - (k + 1))
        case measure => omega
        case rel => exact ⟨k + 1, m, c, ro, by omega, rfl, by go_num, rfl, by omega, unhide HA1, by rw [unhide EM]; exact unhide HL, unhide HSM, unhide HW, unhide HZ⟩
      · have d1 : (to != p) = true := by simp [hq]
        have d2 : (to == p) = false := by simp [hq]
        replace EH := hide (unhide EH hq)
        clear EM hq
        have hA2 := Below.alloc1 wr (.cells #[.string n0, .int .i64 wt, .int .i64 cl, .bool co, .int .i64 fr, .int .i64 to, .int .i64 sx, .int .i64 sy, .int .i64 sz] 44)
        have HG := hide (ownV_alloc wr #[.string n0, .int .i64 wt, .int .i64 cl, .bool co, .int .i64 fr, .int .i64 to, .int .i64 sx, .int .i64 sy, .int .i64 sz] 44)
        have HW1 := hide (Below.step (unhide HW) hA2)
        have HL1 := hide ((unhide HL).below hA2)
        replace HSM := hide ((unhide HSM).below hA2)
        have hws := (unhide HW1).size
        have hz1 : w3.heap.size ≤ (wr.alloc (.cells #[.string n0, .int .i64 wt, .int .i64 cl, .bool co, .int .i64 fr, .int .i64 to, .int .i64 sx, .int .i64 sy, .int .i64 sz] 44)).heap.size := Nat.le_trans (unhide HZ) hA2.size
        clear hA2
        go_wp2_with (at_builtin; go_must (refine wpList_appRow tyStow _ rfl _ _ rfl w3.heap.size ro m c (stayT L p k) rfl (unhide HL1) hz1 (by omega) wr.heap.size (n0, wt, cl, co, fr, to, sx, sy, sz) 1 rfl (unhide HG) ?_); intro g' cap' w4 hL hK hBg hat; have HL2 := hide hL; have HW2 : Hid (Below w.heap.size w w4) := (Below.trans (unhide HW1) ((onRow_below (Below.refl _ _) (unhide HL1) (by decide) hz1 hK).mono hB3)); have HSM1 := hide ((unhide HSM).kept hK (fun g hg h1 h2 he => by have := unhide HSB g hg; rcases (unhide HL1).parts (by decide) with ⟨e, _⟩ | ⟨g2, e, hg2, _⟩; rw [he] at e; cases e; rw [he] at e; simp only [Option.some.injEq, Addr.mk.injEq, and_true] at e; omega)); have HZ2 : Hid (w3.heap.size ≤ w4.heap.size) := (Nat.le_trans hz1 hK.size); clear hL hK hat)
        go_roundg (L.length - (k + 1))
        case measure => omega
        case rel =>
          refine ⟨k + 1, m + 1, cap', _, by omega, rfl, by go_num, rfl, by omega, unhide HA1, ?_, unhide HSM1, unhide HW2, unhide HZ2⟩
          rw [unhide EH]
          exact unhide HL2
    · have hki : ¬ (k : Int) < L.length := by omega
      have EHB : Hid (hereB L p = true) := hereB_all (fun r hr => unhide HA r (by omega))
      have HL0 : Hid (RowB 44 9 eStow w3.heap.size wr ro m c (stayL L p ++ P.take 0)) := by
        have h := unhide HL
        rw [show k = L.length by omega] at h
        show RowB _ _ _ _ _ _ _ _ _
        rw [List.take_zero, List.append_nil]
        exact h
      rw [unhide EHB] at A2 A3 A0
      have hml : m ≤ 1048576 := by omega
      clear HL HA EHB
      go_wp2
      generalize wr = w5 at *
      go_loopg [14, 16] P.length (fun g ov kv wr => ∃ (q m1 c1 : Nat) (r1 : Option Addr), q ≤ P.length ∧ g = P.length - q ∧ kv = .int .i64 q ∧ ov = .slice r1 m1 c1 ∧ m1 = m + q ∧ Hid (∀ r, r < q → pla1 p (stO P r) = true) ∧ Hid (RowB 44 9 eStow w3.heap.size wr r1 m1 c1 (stayL L p ++ P.take q)) ∧ Hid (RowB 44 9 eStow w.heap.size wr sa (0 + L.length) sc L) ∧ Hid (Below w.heap.size w wr) ∧ Hid (w3.heap.size ≤ wr.heap.size))
      case atStart => exact ⟨0, m, c, ro, Nat.zero_le _, rfl, rfl, rfl, rfl, fun r hr => by omega, unhide HL0, unhide HSM, unhide HW, unhide HZ⟩
      case round =>
        clear HL0 HSM HW HZ hki
        obtain ⟨q, m1, c1, r1, hq, rfl, rfl, rfl, hm1, HA, HL, HSM, HW, HZ⟩ := hrel
        have hm1b : m1 ≤ 1048576 := by omega
        have HM1 := hide hm1
        clear hm1
        by_cases hqn : q < P.length
        · have EH : Hid (stayL L p ++ P.take (q + 1) = (stayL L p ++ P.take q) ++ [stO P q]) := by
            show _ = _
            rw [List.append_assoc]
            congr 1
            rw [stO_get hqn, List.take_add_one, List.getElem?_eq_getElem hqn]
            rfl
          have HBD : Hid (pla1 p (stO P q) = false → planB P p = false) := planB_bad hqn
          obtain ⟨bp, op, n0, wt, cl, co, fr, to, sx, sy, sz, rfl, hc0, hc1, hc2, hc3, hc4, hc5, hc6, hc7, hc8, EX⟩ := recStowAt (unhide HPC) hqn
          have g0 := ((unhide HW).cell (lt_of_cell hc0)).trans hc0
          have g1 := ((unhide HW).cell (lt_of_cell hc1)).trans hc1
          have g2 := ((unhide HW).cell (lt_of_cell hc2)).trans hc2
          have g3 := ((unhide HW).cell (lt_of_cell hc3)).trans hc3
          have g4 := ((unhide HW).cell (lt_of_cell hc4)).trans hc4
          have g5 := ((unhide HW).cell (lt_of_cell hc5)).trans hc5
          have g6 := ((unhide HW).cell (lt_of_cell hc6)).trans hc6
          have g7 := ((unhide HW).cell (lt_of_cell hc7)).trans hc7
          have g8 := ((unhide HW).cell (lt_of_cell hc8)).trans hc8
          have ESP : Hid (ssp (stO P q) = (sx, sy, sz)) := by show _ = _; unfold stO; rw [unhide EX]; rfl
          have EBX : Hid (sbx (stO P q) = (n0, wt, cl, co, fr, to)) := by show _ = _; unfold stO; rw [unhide EX]; rfl
          clear hc0 hc1 hc2 hc3 hc4 hc5 hc6 hc7 hc8
          have EST : Hid (stO P q = (n0, wt, cl, co, fr, to, sx, sy, sz)) := by show _ = _; unfold stO; rw [unhide EX]
          have EHR : Hid (pla1 p (stO P q) = decide (fr = p)) := by show _ = _; rw [unhide EST]; rfl
          have HA1 : Hid (pla1 p (stO P q) = true → ∀ r, r < q + 1 → pla1 p (stO P r) = true) := fun h r hr => by
            by_cases e : r = q
            · rw [e]; exact h
            · exact unhide HA r (by omega)
          rw [unhide EHR] at HBD HA1
          rw [unhide EST] at EH
          have hqi : (q : Int) < P.length := by omega
          clear EX EBX ESP EST EHR HA
          by_cases hf : fr = p
          case neg =>
            have d1 : (fr != p) = true := by simp [hf]
            have d2 : (fr == p) = false := by simp [hf]
            rw [decide_eq_false hf] at HBD
            rw [unhide HBD rfl] at A2
            clear EH HA1 hf
            have E := hide (unhide A2 rfl)
            have E0 := hide (unhide AN 2 (unhide E) (by decide))
            go_wp2
            refine bodyPost_ret (v := .tuple #[.slice sa (0 + L.length) sc, .int .i64 0, .int .i64 2]) (by simp [results, Try.results38, go_sem]) rfl ⟨_, _, _, by rw [unhide E, (unhide E0).2], by rw [(unhide E0).1]; exact (unhide HSM).own (by decide), unhide HW⟩
          have d1 : (fr != p) = false := by simp [hf]
          have d2 : (fr == p) = true := by simp [hf]
          rw [decide_eq_true hf] at HA1
          replace HA1 := hide (unhide HA1 rfl)
          clear HBD hf
          have hA2 := Below.alloc1 wr (.cells #[.string n0, .int .i64 wt, .int .i64 cl, .bool co, .int .i64 fr, .int .i64 to, .int .i64 sx, .int .i64 sy, .int .i64 sz] 44)
          have HG := hide (ownV_alloc wr #[.string n0, .int .i64 wt, .int .i64 cl, .bool co, .int .i64 fr, .int .i64 to, .int .i64 sx, .int .i64 sy, .int .i64 sz] 44)
          have HW1 := hide (Below.step (unhide HW) hA2)
          have HL1 := hide ((unhide HL).below hA2)
          replace HSM := hide ((unhide HSM).below hA2)
          have hws := (unhide HW1).size
          have hz1 : w3.heap.size ≤ (wr.alloc (.cells #[.string n0, .int .i64 wt, .int .i64 cl, .bool co, .int .i64 fr, .int .i64 to, .int .i64 sx, .int .i64 sy, .int .i64 sz] 44)).heap.size := Nat.le_trans (unhide HZ) hA2.size
          clear hA2
          go_wp2_with (at_builtin; go_must (refine wpList_appRow tyStow _ rfl _ _ rfl w3.heap.size r1 m1 c1 (stayL L p ++ P.take q) rfl (unhide HL1) hz1 (by omega) wr.heap.size (n0, wt, cl, co, fr, to, sx, sy, sz) 1 rfl (unhide HG) ?_); intro g' cap' w4 hL hK hBg hat; have HL2 := hide hL; have HW2 : Hid (Below w.heap.size w w4) := (Below.trans (unhide HW1) ((onRow_below (Below.refl _ _) (unhide HL1) (by decide) hz1 hK).mono hB3)); have HSM1 := hide ((unhide HSM).kept hK (fun g hg h1 h2 he => by have := unhide HSB g hg; rcases (unhide HL1).parts (by decide) with ⟨e, _⟩ | ⟨g2, e, hg2, _⟩; rw [he] at e; cases e; rw [he] at e; simp only [Option.some.injEq, Addr.mk.injEq, and_true] at e; omega)); have HZ2 : Hid (w3.heap.size ≤ w4.heap.size) := (Nat.le_trans hz1 hK.size); clear hL hK hat)
          go_roundg (P.length - (q + 1))
          case measure => omega
          case rel =>
            refine ⟨q + 1, m1 + 1, cap', _, by omega, rfl, by go_num, rfl, by have := unhide HM1; omega, unhide HA1, ?_, unhide HSM1, unhide HW2, unhide HZ2⟩
            rw [unhide EH]
            exact unhide HL2
        · have hqi : ¬ (q : Int) < P.length := by omega
          have EPB : Hid (planB P p = true) := planB_all (fun r hr => unhide HA r (by omega))
          have HL0 : Hid (RowB 44 9 eStow w3.heap.size wr r1 m1 c1 (stayL L p ++ P)) := by
            have h := unhide HL
            rw [List.take_of_length_le (by omega)] at h
            exact h
          rw [unhide EPB] at A3 A0
          replace A3 := hide (unhide A3 rfl)
          replace A0 := hide (unhide A0 rfl)
          clear HL HA EPB A2
          go_wp2_with fail
          refine (unhide QX _ _ ((unhide HRH).below (unhide HW)) ((unhide HL0).recs (by decide))).mono ?_
          rintro e w7 ⟨rfl, hb⟩
          replace HW := hide (Below.step (unhide HW) hb)
          replace HSM := hide ((unhide HSM).below hb)
          replace HL0 := hide ((unhide HL0).below hb)
          clear hb QX
          have EW : Hid (wellB H (stayL L p ++ P) = decide ((stowC H (stayL L p ++ P)).1 = 0)) := rfl
          generalize stowC H (stayL L p ++ P) = C at *
          obtain ⟨c, ck⟩ := C
          dsimp only at EW ⊢
          by_cases hc : c = 0
          case neg =>
            have d1 : (c != 0) = true := by simp [hc]
            have d2 : (c == 0) = false := by simp [hc]
            rw [decide_eq_false hc] at EW
            have HC0 := hide hc
            clear hc
            have E := hide (unhide A3 (unhide EW))
            have E0 := hide (unhide AN 3 (unhide E) (by decide))
            go_wp2
            refine bodyPost_ret (v := .tuple #[.slice sa (0 + L.length) sc, .int .i64 0, .int .i64 3]) (by simp [results, Try.results38, go_sem]) rfl ⟨_, _, _, by rw [unhide E, (unhide E0).2], by rw [(unhide E0).1]; exact (unhide HSM).own (by decide), unhide HW⟩
          have d1 : (c != 0) = false := by simp [hc]
          have d2 : (c == 0) = true := by simp [hc]
          rw [decide_eq_true hc] at EW
          have HC0 := hide hc
          have E := hide (unhide A0 (unhide EW))
          have E0 := hide (unhide AD (unhide E))
          clear hc A3 A0 AN AD HSM
          go_wp2_with fail
          refine (unhide QH _ ((unhide HRL).below (unhide HW))).mono ?_
          rintro e w8 ⟨a8, n8, c8, rfl, hs8, hb⟩
          replace HW := hide (Below.step (unhide HW) hb)
          replace HL0 := hide ((unhide HL0).below hb)
          have hn8 : (shV L p).length = n8 := hs8.intsIn.len.1
          have HN8 := hide hn8
          clear hb QH hs8 hn8
          go_wp2
          refine bodyPost_ret (v := .tuple #[.slice r1 m1 c1, .int .i64 (n8 : Int), .int .i64 0]) (by simp [results, Try.results38, go_sem]) rfl ⟨_, _, _, by rw [unhide E, (unhide E0).2, unhide HN8], by rw [(unhide E0).1]; exact ((unhide HL0).mono hB3).own (by decide), unhide HW⟩

end Go.Proofs.Ytdkfleodgdpckaa

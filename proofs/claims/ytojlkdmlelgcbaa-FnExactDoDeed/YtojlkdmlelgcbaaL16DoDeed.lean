/- The law of DoDeed, walked. Written by wip/mk16b.py. -/
import Derived.Test.YtojlkdmlelgcbaaCsVz
import Derived.Deep.RegionHeld3
import Derived.Deep.DeepCutAuto
import Derived.Deep.Cut
namespace Go.Proofs.Ytojlkdmlelgcbaa
open Go.RowKit

set_option maxRecDepth 1000000 in
set_option maxHeartbeats 16000000 in
theorem lawDoDeed_any (lv tv : Value) (L : List LotT) (T : List TraderT) (tk : Int) (kd id ow ma va ra nw : Int) (w : World) (h : HsIn w lv tv (L, T, tk)) :
    Calls Try.prog 7 #[vHouse lv tv tk, vDeed kd id ow ma va ra nw] w fun e w' => e = .returned (.bool true) ∧ Below w.heap.size w w' := by
  have HV := hide h
  obtain ⟨h1, h2⟩ := h
  obtain ⟨ao, cap, rfl, -⟩ := h1
  obtain ⟨fo, fcap, rfl, -⟩ := h2
  dsimp only at HV ⊢
  have A1 := Below.alloc1 w (.cells #[.slice ao L.length cap, .slice fo T.length fcap, .int .i64 tk] 55)
  obtain ⟨X0, eX0⟩ : ∃ X, X = (w.alloc (.cells #[.slice ao L.length cap, .slice fo T.length fcap, .int .i64 tk] 55)).alloc (.cells #[.int .i64 kd, .int .i64 id, .int .i64 ow, .int .i64 ma, .int .i64 va, .int .i64 ra, .int .i64 nw] 60) := ⟨_, rfl⟩
  have HL : Hid (Lw w X0 [.slice ao L.length cap, .slice fo T.length fcap, .int .i64 tk] [.int .i64 kd, .int .i64 id, .int .i64 ow, .int .i64 ma, .int .i64 va, .int .i64 ra, .int .i64 nw]) := by
    have h2 := ownV_alloc (w.alloc (.cells #[.slice ao L.length cap, .slice fo T.length fcap, .int .i64 tk] 55)) #[.int .i64 kd, .int .i64 id, .int .i64 ow, .int .i64 ma, .int .i64 va, .int .i64 ra, .int .i64 nw] 60
    rw [World.size_alloc] at h2
    show Lw _ _ _ _
    rw [eX0]
    exact ⟨below_alloc A1 _, (ownV_alloc w #[.slice ao L.length cap, .slice fo T.length fcap, .int .i64 tk] 55).step (Below.alloc1 _ _), h2⟩
  have HTO0 := hide fun V (hV : Below w.heap.size w V) => toHouse_any tk _ _ _ _ _ _ L T V ((unhide HV).1.below hV) ((unhide HV).2.below hV)
  have HSZ := hide fun V (hV : Below w.heap.size w V) l => szHouse_any tk _ _ _ _ _ _ L T l V ((unhide HV).1.below hV) ((unhide HV).2.below hV)
  have HTP := hide fun V => toDeed_any kd id ow ma va ra nw V
  have HSP0 := hide fun V bv fv (hV : HsIn V bv fv (L, T, tk)) => specDoDeed_any bv fv L T tk kd id ow ma va ra nw V hV
  have HIP0 := hide fun V bv fv (hV : HsIn V bv fv (L, T, tk)) => implDoDeed_any bv fv L T tk kd id ow ma va ra nw V hV
  have HIB0 := hide fun V bv fv (hV : HsIn V bv fv (L, T, tk)) => implDoDeed_b bv fv L T tk kd id ow ma va ra nw V hV
  have HDL := hide (do_len (L, T, tk) (kd, id, ow, ma, va, ra, nw))
  obtain ⟨⟨⟨LL, FF, tk2⟩, cd⟩, ev⟩ : ∃ z, z = doH (L, T, tk) (kd, id, ow, ma, va, ra, nw) := ⟨_, rfl⟩
  rw [← ev] at HSP0 HIP0 HIB0 HDL
  dsimp only at HDL
  have hcd : (cd != cd) = false := by simp
  clear ev A1
  unfold vHouse at HSZ HTO0 HSP0 HIP0 HIB0 ⊢
  unfold vDeed at HTP HSP0 HIP0 HIB0 ⊢
  go_enter Try.func7, Try.ntmps7
  go_upto_region 2 with (fail)
  rw [← eX0]
  clear eX0
  have a0 := (unhide HL).arg.cell (i := 0) rfl
  have a1 := (unhide HL).arg.cell (i := 1) rfl
  have a2 := (unhide HL).arg.cell (i := 2) rfl
  go_wp2_with fail
  refine (unhide HSZ _ (unhide HL).below _ (by omega) (by omega)).mono ?_
  rintro e X ⟨r, rfl, hr0, hr1, hr2, hb⟩
  replace HL := hide ((unhide HL).step hb)
  have HR := hide hr2
  clear hb hr2 HSZ a0 a1 a2
  by_cases hr : r < 0
  · have HW := hide (unhide HL).below
    go_wp2
    go_ret
    exact ⟨rfl, unhide HW⟩
  obtain ⟨hsL, hsT⟩ := unhide HR (by omega)
  have hFF : FF.length ≤ 1048576 := by have := (unhide HDL).1; omega
  have hLL : LL.length ≤ 1048576 := (unhide HDL).2 hsL
  clear HR HDL
  have HTO := hide fun V hV => unhide HTO0 V hV hsL hsT
  have HSP := hide fun V bv fv hV => unhide HSP0 V bv fv hV hsL hsT
  have HIP := hide fun V bv fv hV => unhide HIP0 V bv fv hV hsL hsT
  have HIB := hide fun V bv fv hV => unhide HIB0 V bv fv hV hsL hsT
  clear HTO0 HSP0 HIP0 HIB0
  have sa0 := (unhide HL).arg.cell (i := 0) rfl
  have sa1 := (unhide HL).arg.cell (i := 1) rfl
  have sa2 := (unhide HL).arg.cell (i := 2) rfl
  have so0 := (unhide HL).op.cell (i := 0) rfl
  have so1 := (unhide HL).op.cell (i := 1) rfl
  have so2 := (unhide HL).op.cell (i := 2) rfl
  have so3 := (unhide HL).op.cell (i := 3) rfl
  have so4 := (unhide HL).op.cell (i := 4) rfl
  have so5 := (unhide HL).op.cell (i := 5) rfl
  have so6 := (unhide HL).op.cell (i := 6) rfl
  have zx0 := (unhide HL).lt
  have zx1 : ¬ X.heap.size = w.heap.size := (by omega)
  have zx2 : ¬ w.heap.size = X.heap.size := (by omega)
  have zx3 : ¬ X.heap.size = w.heap.size + 1 := (by omega)
  have zx4 : ¬ w.heap.size + 1 = X.heap.size := (by omega)
  go_upto_region 5 with (fail)
  go_cut [6, 7] (fun sl sb wx => ∃ (gw : Nat) (q1 : Option Addr) (q3 : Nat) (p1 : Option Addr) (p3 : Nat), sl = .pointer (some ⟨gw, 0, none⟩) ∧ sb = .int .i64 cd ∧ X.heap.size ≤ gw ∧ Hid (Below X.heap.size X wx) ∧ Hid (OwnV wx gw [.slice q1 LL.length q3, .slice p1 FF.length p3, .int .i64 tk2]) ∧ Hid (HsIn wx (.slice q1 LL.length q3) (.slice p1 FF.length p3) (LL, FF, tk2)))
  case first =>
    go_region_held3 (fun w' => w'.cell? ⟨w.heap.size, 0, none⟩ = some (.slice ao L.length cap) ∧ w'.cell? ⟨w.heap.size, 1, none⟩ = some (.slice fo T.length fcap) ∧ w'.cell? ⟨w.heap.size, 2, none⟩ = some (.int .i64 tk) ∧ w'.cell? ⟨w.heap.size + 1, 0, none⟩ = some (.int .i64 kd) ∧ w'.cell? ⟨w.heap.size + 1, 1, none⟩ = some (.int .i64 id) ∧ w'.cell? ⟨w.heap.size + 1, 2, none⟩ = some (.int .i64 ow) ∧ w'.cell? ⟨w.heap.size + 1, 3, none⟩ = some (.int .i64 ma) ∧ w'.cell? ⟨w.heap.size + 1, 4, none⟩ = some (.int .i64 va) ∧ w'.cell? ⟨w.heap.size + 1, 5, none⟩ = some (.int .i64 ra) ∧ w'.cell? ⟨w.heap.size + 1, 6, none⟩ = some (.int .i64 nw)) (go_keep) (first
      | (go_at_call 21; refine (unhide HTO _ (by first | exact (unhide HL).below | exact (unhide HL).below.drew | exact below_alloc (unhide HL).below _ | exact (below_alloc (unhide HL).below _).drew)).mono ?_; rintro e wa ⟨b1, b2, rfl, hb0, hb1, ho1, ho2, hb⟩; (try (have hgV := (unhide HNW).lt)); (first | (have HB1 : Hid (Below X.heap.size X wa) := hb) | (have HB1 : Hid (Below X.heap.size X wa) := below_undrewA hb) | (have HB1 : Hid (Below X.heap.size X wa) := Below.step (Below.alloc1 _ _) hb; have hgV := OwnV.lt (ownV_alloc X #[.slice none 0 0, .slice none 0 0, .int .i64 0] 27); have HNW := hide (OwnV.step (ownV_alloc X #[.slice none 0 0, .slice none 0 0, .int .i64 0] 27) hb)) | (have HB1 : Hid (Below X.heap.size X wa) := Below.step (Below.alloc1 _ _) (below_undrewA hb); have hgV := OwnV.lt (ownV_alloc X #[.slice none 0 0, .slice none 0 0, .int .i64 0] 27); have HNW := hide (OwnV.step (ownV_alloc X #[.slice none 0 0, .slice none 0 0, .int .i64 0] 27) (below_undrewA hb)))); (try replace HNW := hide (OwnV.step (unhide HNW) (unhide HB1))); (try (have n0 := (unhide HNW).cell (i := 0) rfl; have n1 := (unhide HNW).cell (i := 1) rfl; have n2 := (unhide HNW).cell (i := 2) rfl; have nf := (unhide HNW).frozen)); have HL1 := hide ((unhide HL).step (unhide HB1)); have HK1 := hide (OwnV.hsIn tk ho1 ho2 hsL hsT); have taa0 := (unhide HL1).arg.cell (i := 0) rfl; have taa1 := (unhide HL1).arg.cell (i := 1) rfl; have taa2 := (unhide HL1).arg.cell (i := 2) rfl; have tao0 := (unhide HL1).op.cell (i := 0) rfl; have tao1 := (unhide HL1).op.cell (i := 1) rfl; have tao2 := (unhide HL1).op.cell (i := 2) rfl; have tao3 := (unhide HL1).op.cell (i := 3) rfl; have tao4 := (unhide HL1).op.cell (i := 4) rfl; have tao5 := (unhide HL1).op.cell (i := 5) rfl; have tao6 := (unhide HL1).op.cell (i := 6) rfl; have za0 := (unhide HL1).lt; have za1 : ¬ wa.heap.size = w.heap.size := (by omega); have za2 : ¬ w.heap.size = wa.heap.size := (by omega); have za3 : ¬ wa.heap.size = w.heap.size + 1 := (by omega); have za4 : ¬ w.heap.size + 1 = wa.heap.size := (by omega); clear hb ho1 ho2)
      | (go_at_call 24; refine (unhide HTP _).mono ?_; rintro e wb ⟨rfl, hb⟩; (try (have hgV := (unhide HNW).lt)); (first | (have HB2 : Hid (Below wa.heap.size wa wb) := hb) | (have HB2 : Hid (Below wa.heap.size wa wb) := below_undrewA hb) | (have HB2 : Hid (Below wa.heap.size wa wb) := Below.step (Below.alloc1 _ _) hb; have hgV := OwnV.lt (ownV_alloc wa #[.slice none 0 0, .slice none 0 0, .int .i64 0] 27); have HNW := hide (OwnV.step (ownV_alloc wa #[.slice none 0 0, .slice none 0 0, .int .i64 0] 27) hb)) | (have HB2 : Hid (Below wa.heap.size wa wb) := Below.step (Below.alloc1 _ _) (below_undrewA hb); have hgV := OwnV.lt (ownV_alloc wa #[.slice none 0 0, .slice none 0 0, .int .i64 0] 27); have HNW := hide (OwnV.step (ownV_alloc wa #[.slice none 0 0, .slice none 0 0, .int .i64 0] 27) (below_undrewA hb)))); (try replace HNW := hide (OwnV.step (unhide HNW) (unhide HB2))); (try (have n0 := (unhide HNW).cell (i := 0) rfl; have n1 := (unhide HNW).cell (i := 1) rfl; have n2 := (unhide HNW).cell (i := 2) rfl; have nf := (unhide HNW).frozen)); have HL2 := hide ((unhide HL1).step (unhide HB2)); have HK2 := hide ((unhide HK1).below (unhide HB2)); have tba0 := (unhide HL2).arg.cell (i := 0) rfl; have tba1 := (unhide HL2).arg.cell (i := 1) rfl; have tba2 := (unhide HL2).arg.cell (i := 2) rfl; have tbo0 := (unhide HL2).op.cell (i := 0) rfl; have tbo1 := (unhide HL2).op.cell (i := 1) rfl; have tbo2 := (unhide HL2).op.cell (i := 2) rfl; have tbo3 := (unhide HL2).op.cell (i := 3) rfl; have tbo4 := (unhide HL2).op.cell (i := 4) rfl; have tbo5 := (unhide HL2).op.cell (i := 5) rfl; have tbo6 := (unhide HL2).op.cell (i := 6) rfl; have zb0 := (unhide HL2).lt; have zb1 : ¬ wb.heap.size = w.heap.size := (by omega); have zb2 : ¬ w.heap.size = wb.heap.size := (by omega); have zb3 : ¬ wb.heap.size = w.heap.size + 1 := (by omega); have zb4 : ¬ w.heap.size + 1 = wb.heap.size := (by omega); clear hb)
      | (go_at_call 23; refine (unhide HSP _ _ _ (by first | exact unhide HK2 | exact (unhide HK2).below (Below.refl _ _).drew | exact (unhide HK2).below (Below.alloc1 _ _) | exact ((unhide HK2).below (Below.alloc1 _ _)).below (Below.refl _ _).drew)).mono ?_; rintro e wd hA; obtain ⟨bv2, fv2, rfl, hin, hb⟩ := hA; unfold vHouse; dsimp only at hin ⊢; have hin0 := hin wd (Kept.refl _ _); obtain ⟨⟨q1, q3, rfl, -⟩, ⟨p1, p3, rfl, -⟩⟩ := hin0; have HIN := hide hin; (try (have hgV := (unhide HNW).lt)); (first | (have HB3 : Hid (Below wb.heap.size wb wd) := hb) | (have HB3 : Hid (Below wb.heap.size wb wd) := below_undrewA hb) | (have HB3 : Hid (Below wb.heap.size wb wd) := Below.step (Below.alloc1 _ _) hb; have hgV := OwnV.lt (ownV_alloc wb #[.slice none 0 0, .slice none 0 0, .int .i64 0] 27); have HNW := hide (OwnV.step (ownV_alloc wb #[.slice none 0 0, .slice none 0 0, .int .i64 0] 27) hb)) | (have HB3 : Hid (Below wb.heap.size wb wd) := Below.step (Below.alloc1 _ _) (below_undrewA hb); have hgV := OwnV.lt (ownV_alloc wb #[.slice none 0 0, .slice none 0 0, .int .i64 0] 27); have HNW := hide (OwnV.step (ownV_alloc wb #[.slice none 0 0, .slice none 0 0, .int .i64 0] 27) (below_undrewA hb)))); (try replace HNW := hide (OwnV.step (unhide HNW) (unhide HB3))); (try (have n0 := (unhide HNW).cell (i := 0) rfl; have n1 := (unhide HNW).cell (i := 1) rfl; have n2 := (unhide HNW).cell (i := 2) rfl; have nf := (unhide HNW).frozen)); have HL3 := hide ((unhide HL2).step (unhide HB3)); have tda0 := (unhide HL3).arg.cell (i := 0) rfl; have tda1 := (unhide HL3).arg.cell (i := 1) rfl; have tda2 := (unhide HL3).arg.cell (i := 2) rfl; have tdo0 := (unhide HL3).op.cell (i := 0) rfl; have tdo1 := (unhide HL3).op.cell (i := 1) rfl; have tdo2 := (unhide HL3).op.cell (i := 2) rfl; have tdo3 := (unhide HL3).op.cell (i := 3) rfl; have tdo4 := (unhide HL3).op.cell (i := 4) rfl; have tdo5 := (unhide HL3).op.cell (i := 5) rfl; have tdo6 := (unhide HL3).op.cell (i := 6) rfl; have zd0 := (unhide HL3).lt; have zd1 : ¬ wd.heap.size = w.heap.size := (by omega); have zd2 : ¬ w.heap.size = wd.heap.size := (by omega); have zd3 : ¬ wd.heap.size = w.heap.size + 1 := (by omega); have zd4 : ¬ w.heap.size + 1 = wd.heap.size := (by omega); have hsz1 := (unhide HB1).size; have hsz2 := (unhide HB2).size; have hsz3 := (unhide HB3).size; clear hb hin))
    all_goals
      go_wp2_with fail
      go_meet
      first
        | exact ⟨wd.heap.size, q1, q3, p1, p3, rfl, rfl, by omega, hide (Below.step (Below.step (Below.step (unhide HB1) (unhide HB2)) (unhide HB3)) (Below.alloc1 _ _)), hide (ownV_alloc wd #[.slice q1 LL.length q3, .slice p1 FF.length p3, .int .i64 tk2] 27), hide (((unhide HIN) wd (Kept.refl _ _)).below (Below.alloc1 _ _))⟩
        | exact ⟨_, q1, q3, p1, p3, rfl, rfl, by omega, hide ((Below.step (Below.step (unhide HB1) (unhide HB2)) (unhide HB3)).trans ((kept3 wd _ 0 1 2 _ _ _).below (by omega) (fun k e => by have e : k = _ := e; omega))), hide ((((unhide HNW).set 0 (.slice q1 LL.length q3) (by simp)).set 1 (.slice p1 FF.length p3) (by simp)).set 2 (.int .i64 tk2) (by simp)), hide ((unhide HIN) _ (kept_ltn hgV (kept3 wd _ 0 1 2 _ _ _)))⟩
  case rest =>
    obtain ⟨gw, q1, q3, p1, p3, rfl, rfl, hgw, HBX, HOW, HKW⟩ := hcut
    generalize wc = VA at *
    replace HL := hide ((unhide HL).step (unhide HBX))
    have hgwl := (unhide HOW).lt
    have hXw := (unhide HL).lt
    have hwX : w.heap.size + 1 < X.heap.size := zx0
    clear HBX HSP sa0 sa1 sa2 so0 so1 so2 so3 so4 so5 so6 zx0 zx1 zx2 zx3 zx4
    have HZ := hide (Below.refl VA.heap.size VA)
    have a0 := (unhide HL).arg.cell (i := 0) rfl
    have a1 := (unhide HL).arg.cell (i := 1) rfl
    have a2 := (unhide HL).arg.cell (i := 2) rfl
    go_wp2_with fail
    refine (unhide HTO _ (unhide HL).below).mono ?_
    rintro e VB ⟨x1, x2, rfl, hx1, hx12, hox1, hox2, hb⟩
    have hVB := hb.size
    have hx2 := hox2.lt
    have HX := hide (Hb.mk hox1 hox2 ⟨Nat.le_refl _, by unfold maxLen; omega⟩ (by omega) : Hb VB x1 L.length x2 L T)
    have AL := Below.alloc1 VB (.cells #[.slice (some ⟨x1, 0, none⟩) L.length L.length, .slice (some ⟨x2, 0, none⟩) T.length T.length, .int .i64 tk] 27)
    have HGX := hide (ownV_alloc VB #[.slice (some ⟨x1, 0, none⟩) L.length L.length, .slice (some ⟨x2, 0, none⟩) T.length T.length, .int .i64 tk] 27)
    have hb2 := Below.step hb AL
    replace HL := hide ((unhide HL).step hb2)
    replace HOW := hide ((unhide HOW).step hb2)
    replace HZ := hide (Below.step (unhide HZ) hb2)
    replace HX := hide ((unhide HX).step AL)
    clear hb hb2 AL a0 a1 a2 hox1 hox2
    go_upto_region 7 with (fail)
    obtain ⟨VC, eVC⟩ : ∃ z, z = VB.alloc (.cells #[.slice (some ⟨x1, 0, none⟩) L.length L.length, .slice (some ⟨x2, 0, none⟩) T.length T.length, .int .i64 tk] 27) := ⟨_, rfl⟩
    have hVC : VC.heap.size = VB.heap.size + 1 := by rw [eVC, World.size_alloc]
    rw [← eVC] at HL HOW HZ HX HGX ⊢
    obtain ⟨gx, egx⟩ : ∃ z, z = VB.heap.size := ⟨_, rfl⟩
    rw [← egx] at HGX ⊢
    have hgx1 : VB.heap.size ≤ gx := by omega
    have hgx2 : gx < VC.heap.size := by omega
    have hgx3 : ¬ VC.heap.size = gx := by omega
    have hgx4 : ¬ gx = VC.heap.size := by omega
    have hVCs : VB.heap.size < VC.heap.size := by omega
    clear eVC egx hVC
    have HKX : Hid (∀ V, Below VC.heap.size VC V → HsIn V (.slice (some ⟨x1, 0, none⟩) L.length L.length) (.slice (some ⟨x2, 0, none⟩) T.length T.length) (L, T, tk)) := fun V hV => ((unhide HX).step hV).inn tk hsT
    have sa0 := (unhide HL).arg.cell (i := 0) rfl
    have sa1 := (unhide HL).arg.cell (i := 1) rfl
    have sa2 := (unhide HL).arg.cell (i := 2) rfl
    have so0 := (unhide HL).op.cell (i := 0) rfl
    have so1 := (unhide HL).op.cell (i := 1) rfl
    have so2 := (unhide HL).op.cell (i := 2) rfl
    have so3 := (unhide HL).op.cell (i := 3) rfl
    have so4 := (unhide HL).op.cell (i := 4) rfl
    have so5 := (unhide HL).op.cell (i := 5) rfl
    have so6 := (unhide HL).op.cell (i := 6) rfl
    have zx0 := (unhide HL).lt
    have zx1 : ¬ VC.heap.size = w.heap.size := (by omega)
    have zx2 : ¬ w.heap.size = VC.heap.size := (by omega)
    have zx3 : ¬ VC.heap.size = w.heap.size + 1 := (by omega)
    have zx4 : ¬ w.heap.size + 1 = VC.heap.size := (by omega)
    have sg0 := (unhide HGX).cell (i := 0) rfl
    have sg1 := (unhide HGX).cell (i := 1) rfl
    have sg2 := (unhide HGX).cell (i := 2) rfl
    go_cut [9, 10] (fun sl sb wx => ∃ (gg gl cp gt : Nat), sl = .pointer (some ⟨gg, 0, none⟩) ∧ sb = .int .i64 cd ∧ VC.heap.size ≤ gg ∧ VC.heap.size ≤ gl ∧ VC.heap.size ≤ gt ∧ ¬ gg = gl ∧ ¬ gg = gt ∧ Hid (Below VC.heap.size VC wx) ∧ Hid (OwnV wx gg [.slice (some ⟨gl, 0, none⟩) LL.length cp, .slice (some ⟨gt, 0, none⟩) FF.length FF.length, .int .i64 tk2]) ∧ Hid (Hb wx gl cp gt LL FF))
    case first =>
      go_region_held3 (fun w' => w'.cell? ⟨w.heap.size + 1, 0, none⟩ = some (.int .i64 kd) ∧ w'.cell? ⟨w.heap.size + 1, 1, none⟩ = some (.int .i64 id) ∧ w'.cell? ⟨w.heap.size + 1, 2, none⟩ = some (.int .i64 ow) ∧ w'.cell? ⟨w.heap.size + 1, 3, none⟩ = some (.int .i64 ma) ∧ w'.cell? ⟨w.heap.size + 1, 4, none⟩ = some (.int .i64 va) ∧ w'.cell? ⟨w.heap.size + 1, 5, none⟩ = some (.int .i64 ra) ∧ w'.cell? ⟨w.heap.size + 1, 6, none⟩ = some (.int .i64 nw) ∧ w'.cell? ⟨gx, 0, none⟩ = some (.slice (some ⟨x1, 0, none⟩) L.length L.length) ∧ w'.cell? ⟨gx, 1, none⟩ = some (.slice (some ⟨x2, 0, none⟩) T.length T.length) ∧ w'.cell? ⟨gx, 2, none⟩ = some (.int .i64 tk)) (go_keep) (first
        | (go_at_call 24; refine (unhide HTP _).mono ?_; rintro e wb ⟨rfl, hb⟩; (try (have hgV := (unhide HNW).lt)); (first | (have HB2 : Hid (Below VC.heap.size VC wb) := hb) | (have HB2 : Hid (Below VC.heap.size VC wb) := below_undrewA hb) | (have HB2 : Hid (Below VC.heap.size VC wb) := Below.step (Below.alloc1 _ _) hb; have hgV := OwnV.lt (ownV_alloc VC #[.slice none 0 0, .slice none 0 0, .int .i64 0] 27); have HNW := hide (OwnV.step (ownV_alloc VC #[.slice none 0 0, .slice none 0 0, .int .i64 0] 27) hb)) | (have HB2 : Hid (Below VC.heap.size VC wb) := Below.step (Below.alloc1 _ _) (below_undrewA hb); have hgV := OwnV.lt (ownV_alloc VC #[.slice none 0 0, .slice none 0 0, .int .i64 0] 27); have HNW := hide (OwnV.step (ownV_alloc VC #[.slice none 0 0, .slice none 0 0, .int .i64 0] 27) (below_undrewA hb)))); (try replace HNW := hide (OwnV.step (unhide HNW) (unhide HB2))); (try (have n0 := (unhide HNW).cell (i := 0) rfl; have n1 := (unhide HNW).cell (i := 1) rfl; have n2 := (unhide HNW).cell (i := 2) rfl; have nf := (unhide HNW).frozen)); have HL2 := hide ((unhide HL).step (unhide HB2)); have tba0 := (unhide HL2).arg.cell (i := 0) rfl; have tba1 := (unhide HL2).arg.cell (i := 1) rfl; have tba2 := (unhide HL2).arg.cell (i := 2) rfl; have tbo0 := (unhide HL2).op.cell (i := 0) rfl; have tbo1 := (unhide HL2).op.cell (i := 1) rfl; have tbo2 := (unhide HL2).op.cell (i := 2) rfl; have tbo3 := (unhide HL2).op.cell (i := 3) rfl; have tbo4 := (unhide HL2).op.cell (i := 4) rfl; have tbo5 := (unhide HL2).op.cell (i := 5) rfl; have tbo6 := (unhide HL2).op.cell (i := 6) rfl; have zb0 := (unhide HL2).lt; have zb1 : ¬ wb.heap.size = w.heap.size := (by omega); have zb2 : ¬ w.heap.size = wb.heap.size := (by omega); have zb3 : ¬ wb.heap.size = w.heap.size + 1 := (by omega); have zb4 : ¬ w.heap.size + 1 = wb.heap.size := (by omega); have tbg0 := ((unhide HGX).step (unhide HB2)).cell (i := 0) rfl; have tbg1 := ((unhide HGX).step (unhide HB2)).cell (i := 1) rfl; have tbg2 := ((unhide HGX).step (unhide HB2)).cell (i := 2) rfl; have ytb0 : ¬ wb.heap.size = gx := (by have := (unhide HB2).size; omega); have ytb1 : ¬ gx = wb.heap.size := (by have := (unhide HB2).size; omega); clear hb)
        | (go_at_call 12; refine (unhide HIP _ _ _ (by first | exact unhide HKX _ (unhide HB2) | exact (unhide HKX _ (unhide HB2)).below (Below.refl _ _).drew | exact (unhide HKX _ (unhide HB2)).below (Below.alloc1 _ _) | exact ((unhide HKX _ (unhide HB2)).below (Below.alloc1 _ _)).below (Below.refl _ _).drew)).mono ?_; rintro e wd hA; obtain ⟨gl, cp, gt, rfl, hP2, hgl, hgt, hb⟩ := hA; unfold vHouse; dsimp only at hP2 ⊢; have HP2 := hide hP2; have hgl0 := Nat.le_trans (by first | exact Nat.le_refl wb.heap.size | exact (Below.alloc1 _ _).size) hgl; have hgt0 := Nat.le_trans (by first | exact Nat.le_refl wb.heap.size | exact (Below.alloc1 _ _).size) hgt; have hgll := hP2.lots.lt; have hgtl := hP2.trs.lt; (try (have hgV := (unhide HNW).lt)); (first | (have HB3 : Hid (Below wb.heap.size wb wd) := hb) | (have HB3 : Hid (Below wb.heap.size wb wd) := below_undrewA hb) | (have HB3 : Hid (Below wb.heap.size wb wd) := Below.step (Below.alloc1 _ _) hb; have hgV := OwnV.lt (ownV_alloc wb #[.slice none 0 0, .slice none 0 0, .int .i64 0] 27); have HNW := hide (OwnV.step (ownV_alloc wb #[.slice none 0 0, .slice none 0 0, .int .i64 0] 27) hb)) | (have HB3 : Hid (Below wb.heap.size wb wd) := Below.step (Below.alloc1 _ _) (below_undrewA hb); have hgV := OwnV.lt (ownV_alloc wb #[.slice none 0 0, .slice none 0 0, .int .i64 0] 27); have HNW := hide (OwnV.step (ownV_alloc wb #[.slice none 0 0, .slice none 0 0, .int .i64 0] 27) (below_undrewA hb)))); (try replace HNW := hide (OwnV.step (unhide HNW) (unhide HB3))); (try (have n0 := (unhide HNW).cell (i := 0) rfl; have n1 := (unhide HNW).cell (i := 1) rfl; have n2 := (unhide HNW).cell (i := 2) rfl; have nf := (unhide HNW).frozen)); (try (have hvl : _ < gl := Nat.lt_of_lt_of_le hgV hgl; have hvt : _ < gt := Nat.lt_of_lt_of_le hgV hgt)); have HL3 := hide ((unhide HL2).step (unhide HB3)); have HBC := hide (Below.step (unhide HB2) (unhide HB3)); have tda0 := (unhide HL3).arg.cell (i := 0) rfl; have tda1 := (unhide HL3).arg.cell (i := 1) rfl; have tda2 := (unhide HL3).arg.cell (i := 2) rfl; have tdo0 := (unhide HL3).op.cell (i := 0) rfl; have tdo1 := (unhide HL3).op.cell (i := 1) rfl; have tdo2 := (unhide HL3).op.cell (i := 2) rfl; have tdo3 := (unhide HL3).op.cell (i := 3) rfl; have tdo4 := (unhide HL3).op.cell (i := 4) rfl; have tdo5 := (unhide HL3).op.cell (i := 5) rfl; have tdo6 := (unhide HL3).op.cell (i := 6) rfl; have zd0 := (unhide HL3).lt; have zd1 : ¬ wd.heap.size = w.heap.size := (by omega); have zd2 : ¬ w.heap.size = wd.heap.size := (by omega); have zd3 : ¬ wd.heap.size = w.heap.size + 1 := (by omega); have zd4 : ¬ w.heap.size + 1 = wd.heap.size := (by omega); have tdg0 := ((unhide HGX).step (unhide HBC)).cell (i := 0) rfl; have tdg1 := ((unhide HGX).step (unhide HBC)).cell (i := 1) rfl; have tdg2 := ((unhide HGX).step (unhide HBC)).cell (i := 2) rfl; have ytd0 : ¬ wd.heap.size = gx := (by have := (unhide HBC).size; omega); have ytd1 : ¬ gx = wd.heap.size := (by have := (unhide HBC).size; omega); have hsz2 := (unhide HB2).size; have hsz3 := (unhide HB3).size; clear hb hP2))
      all_goals
        go_wp2_with fail
        go_meet
        first
          | exact ⟨wd.heap.size, gl, cp, gt, rfl, rfl, by omega, by omega, by omega, by omega, by omega, hide (Below.step (unhide HBC) (Below.alloc1 _ _)), hide (ownV_alloc wd #[.slice (some ⟨gl, 0, none⟩) LL.length cp, .slice (some ⟨gt, 0, none⟩) FF.length FF.length, .int .i64 tk2] 27), hide ((unhide HP2).step (Below.alloc1 _ _))⟩
          | exact ⟨_, gl, cp, gt, rfl, rfl, by omega, by omega, by omega, by omega, by omega, hide ((unhide HBC).trans ((kept3 wd _ 0 1 2 _ _ _).below (by omega) (fun k e => by have e : k = _ := e; omega))), hide ((((unhide HNW).set 0 (.slice (some ⟨gl, 0, none⟩) LL.length cp) (by simp)).set 1 (.slice (some ⟨gt, 0, none⟩) FF.length FF.length) (by simp)).set 2 (.int .i64 tk2) (by simp)), hide ((unhide HP2).kept (kept3 wd _ 0 1 2 _ _ _) (fun e => by have e : gl = _ := e; omega) (fun e => by have e : gt = _ := e; omega))⟩
    case rest =>
      obtain ⟨gg, gl, cp, gt, rfl, rfl, hgg, hgl, hgt, hgn1, hgn2, HBX, HOG, HG⟩ := hcut
      generalize wc = VD at *
      clear sg0 sg1 sg2 sa0 sa1 sa2 so0 so1 so2 so3 so4 so5 so6 zx0 zx1 zx2 zx3 zx4
      replace HL := hide ((unhide HL).step (unhide HBX))
      replace HOW := hide ((unhide HOW).step (unhide HBX))
      replace HGX := hide ((unhide HGX).step (unhide HBX))
      replace HX := hide ((unhide HX).step (unhide HBX))
      replace HZ := hide (Below.step (unhide HZ) (unhide HBX))
      have hVD := (unhide HBX).size
      have hggl := (unhide HOG).lt
      clear HBX HIP HKX hgx3 hgx4
      have HEQ := hide fun V h1 h2 => eqHouse_h tk2 (some ⟨gl, 0, none⟩) (some ⟨gt, 0, none⟩) LL.length cp FF.length FF.length q1 p1 LL.length q3 FF.length p3 (LL, FF, tk2) V h1 h2
      unfold vHouse at HEQ
      have HKG := hide ((unhide HG).inn tk2 hFF)
      have HKWd := hide ((unhide HKW).below (unhide HZ))
      have g0 := (unhide HOG).cell (i := 0) rfl
      have g1 := (unhide HOG).cell (i := 1) rfl
      have g2 := (unhide HOG).cell (i := 2) rfl
      have u0 := (unhide HOW).cell (i := 0) rfl
      have u1 := (unhide HOW).cell (i := 1) rfl
      have u2 := (unhide HOW).cell (i := 2) rfl
      go_wp2_with fail
      refine (unhide HEQ _ (unhide HKG) (unhide HKWd)).mono ?_
      rintro e VE ⟨rfl, hb⟩
      replace HL := hide ((unhide HL).step hb)
      replace HOW := hide ((unhide HOW).step hb)
      replace HGX := hide ((unhide HGX).step hb)
      replace HOG := hide ((unhide HOG).step hb)
      replace HX := hide ((unhide HX).step hb)
      replace HG := hide ((unhide HG).step hb)
      replace HZ := hide (Below.step (unhide HZ) hb)
      clear hb g0 g1 g2 u0 u1 u2 HKG HKWd
      have HXB : Hid (∀ V, Below VE.heap.size VE V → HsIn V (.slice (some ⟨x1, 0, none⟩) L.length L.length) (.slice (some ⟨x2, 0, none⟩) T.length T.length) (L, T, tk)) := fun V hV => ((unhide HX).step hV).inn tk hsT
      have HEQX := hide fun V y1 y2 (h1 : HsIn V (.slice (some ⟨x1, 0, none⟩) L.length L.length) (.slice (some ⟨x2, 0, none⟩) T.length T.length) (L, T, tk)) (h2 : HsIn V (.slice y1 L.length L.length) (.slice y2 T.length T.length) (L, T, tk)) => eqHouse_h tk _ _ _ _ _ _ _ _ _ _ _ _ (L, T, tk) V h1 h2
      unfold vHouse at HEQX
      have sa0 := (unhide HL).arg.cell (i := 0) rfl
      have sa1 := (unhide HL).arg.cell (i := 1) rfl
      have sa2 := (unhide HL).arg.cell (i := 2) rfl
      have sg0 := (unhide HGX).cell (i := 0) rfl
      have sg1 := (unhide HGX).cell (i := 1) rfl
      have sg2 := (unhide HGX).cell (i := 2) rfl
      go_upto_region 10 with (fail)
      go_cut [51] (fun s51 wx => s51 = .bool false ∧ Hid (Below VE.heap.size VE wx))
      case first =>
        go_region_held3 (fun w' => w'.cell? ⟨w.heap.size, 0, none⟩ = some (.slice ao L.length cap) ∧ w'.cell? ⟨w.heap.size, 1, none⟩ = some (.slice fo T.length fcap) ∧ w'.cell? ⟨w.heap.size, 2, none⟩ = some (.int .i64 tk) ∧ w'.cell? ⟨gx, 0, none⟩ = some (.slice (some ⟨x1, 0, none⟩) L.length L.length) ∧ w'.cell? ⟨gx, 1, none⟩ = some (.slice (some ⟨x2, 0, none⟩) T.length T.length) ∧ w'.cell? ⟨gx, 2, none⟩ = some (.int .i64 tk)) (go_keep) (first
          | (go_at_call 21; refine (unhide HTO _ (by first | exact (unhide HL).below | exact (unhide HL).below.drew)).mono ?_; rintro e wa ⟨y1, y2, rfl, hy0, hy1, ho1, ho2, hb⟩; (first | (have HB1 : Hid (Below VE.heap.size VE wa) := hb) | (have HB1 : Hid (Below VE.heap.size VE wa) := below_undrewA hb)); have taa0 := ((unhide HL).step (unhide HB1)).arg.cell (i := 0) rfl; have taa1 := ((unhide HL).step (unhide HB1)).arg.cell (i := 1) rfl; have taa2 := ((unhide HL).step (unhide HB1)).arg.cell (i := 2) rfl; have tag0 := ((unhide HGX).step (unhide HB1)).cell (i := 0) rfl; have tag1 := ((unhide HGX).step (unhide HB1)).cell (i := 1) rfl; have tag2 := ((unhide HGX).step (unhide HB1)).cell (i := 2) rfl; have HE1 := hide (unhide HEQX wa _ _ (unhide HXB _ (unhide HB1)) (OwnV.hsIn tk ho1 ho2 hsL hsT)); clear hb ho1 ho2)
          | (go_at_call 22; refine (unhide HE1).mono ?_; rintro e wb ⟨rfl, hb⟩; (first | (have HB2 : Hid (Below wa.heap.size wa wb) := hb) | (have HB2 : Hid (Below wa.heap.size wa wb) := below_undrewA hb)); have tba0 := ((unhide HL).step (Below.step (unhide HB1) (unhide HB2))).arg.cell (i := 0) rfl; have tba1 := ((unhide HL).step (Below.step (unhide HB1) (unhide HB2))).arg.cell (i := 1) rfl; have tba2 := ((unhide HL).step (Below.step (unhide HB1) (unhide HB2))).arg.cell (i := 2) rfl; have tbg0 := ((unhide HGX).step (Below.step (unhide HB1) (unhide HB2))).cell (i := 0) rfl; have tbg1 := ((unhide HGX).step (Below.step (unhide HB1) (unhide HB2))).cell (i := 1) rfl; have tbg2 := ((unhide HGX).step (Below.step (unhide HB1) (unhide HB2))).cell (i := 2) rfl; clear hb))
        all_goals
          go_wp2_with fail
          go_meet
          exact ⟨rfl, hide (Below.step (unhide HB1) (unhide HB2))⟩
      case rest =>
        obtain ⟨rfl, HBX⟩ := hcut
        generalize wc = VF at *
        clear sa0 sa1 sa2 sg0 sg1 sg2 HXB HEQX
        replace HL := hide ((unhide HL).step (unhide HBX))
        replace HOW := hide ((unhide HOW).step (unhide HBX))
        replace HGX := hide ((unhide HGX).step (unhide HBX))
        replace HOG := hide ((unhide HOG).step (unhide HBX))
        replace HX := hide ((unhide HX).step (unhide HBX))
        replace HG := hide ((unhide HG).step (unhide HBX))
        replace HZ := hide (Below.step (unhide HZ) (unhide HBX))
        clear HBX
        have HM1 := hide fun V hV => markHouse_b x1 L.length x2 T.length L T tk V hV hsL hsT
        have HM2 := hide fun V hV => markHouse_b gl cp gt FF.length LL FF tk2 V hV hLL hFF
        have HH2 := hide fun V hV => heldHouse_b gl cp gt FF.length LL.length FF.length tk2 V hV hLL hFF
        unfold vHouse at HM1 HM2 HH2
        obtain ⟨N1, eN1⟩ : ∃ z : Int, z = 1 + 7 * (L.length : Int) + 3 * (T.length : Int) := ⟨_, rfl⟩
        obtain ⟨N2, eN2⟩ : ∃ z : Int, z = 1 + 7 * (LL.length : Int) + 3 * (FF.length : Int) := ⟨_, rfl⟩
        rw [← eN1] at HM1
        rw [← eN2] at HM2 HH2
        have hn1 : 0 ≤ N1 := by omega
        have hn2 : 0 ≤ N2 := by omega
        have dn1 : decide (N1 < 0) = false := by simp; omega
        have dn2 : decide (N2 < 0) = false := by simp; omega
        have hnn : (N2 != N2) = false := by simp
        clear eN1 eN2
        have g0 := (unhide HGX).cell (i := 0) rfl
        have g1 := (unhide HGX).cell (i := 1) rfl
        have g2 := (unhide HGX).cell (i := 2) rfl
        go_wp2_with fail
        refine (unhide HM1 _ (unhide HX)).mono ?_
        rintro e VG ⟨rfl, hk, -⟩
        have hVA := (unhide HL).lt
        have hgxs : VA.heap.size ≤ x1 ∧ VA.heap.size ≤ x2 ∧ x1 < VC.heap.size ∧ x2 < VC.heap.size := by omega
        replace HL := hide ((unhide HL).kept hk (fun k h => by rcases h with e | e <;> omega))
        replace HOW := hide ((unhide HOW).kept hk (fun h => by rcases h with e | e <;> omega))
        replace HOG := hide ((unhide HOG).kept hk (fun h => by rcases h with e | e <;> omega))
        replace HG := hide ((unhide HG).kept hk (fun h => by rcases h with e | e <;> omega) (fun h => by rcases h with e | e <;> omega))
        replace HZ := hide ((unhide HZ).trans (hk.below (unhide HZ).size (fun k h => by rcases h with e | e <;> omega)))
        clear hk g0 g1 g2 HGX HX HM1 hVA
        have HKG := hide ((unhide HG).inn tk2 hFF)
        have HKWd := hide ((unhide HKW).below (unhide HZ))
        have g0 := (unhide HOG).cell (i := 0) rfl
        have g1 := (unhide HOG).cell (i := 1) rfl
        have g2 := (unhide HOG).cell (i := 2) rfl
        have u0 := (unhide HOW).cell (i := 0) rfl
        have u1 := (unhide HOW).cell (i := 1) rfl
        have u2 := (unhide HOW).cell (i := 2) rfl
        go_wp2_with fail
        refine (unhide HEQ _ (unhide HKG) (unhide HKWd)).mono ?_
        rintro e VH ⟨rfl, hb⟩
        replace HL := hide ((unhide HL).step hb)
        replace HOW := hide ((unhide HOW).step hb)
        replace HOG := hide ((unhide HOG).step hb)
        replace HG := hide ((unhide HG).step hb)
        replace HZ := hide (Below.step (unhide HZ) hb)
        clear hb g0 g1 g2 u0 u1 u2 HKG HKWd
        have g0 := (unhide HOG).cell (i := 0) rfl
        have g1 := (unhide HOG).cell (i := 1) rfl
        have g2 := (unhide HOG).cell (i := 2) rfl
        go_wp2_with fail
        refine (unhide HM2 _ (unhide HG)).mono ?_
        rintro e VI ⟨rfl, hk, hom⟩
        replace HL := hide ((unhide HL).kept hk (fun k h => by rcases h with e | e <;> omega))
        replace HOW := hide ((unhide HOW).kept hk (fun h => by rcases h with e | e <;> omega))
        replace HOG := hide ((unhide HOG).kept hk (fun h => by rcases h with e | e <;> omega))
        replace HZ := hide ((unhide HZ).trans (hk.below (unhide HZ).size (fun k h => by rcases h with e | e <;> omega)))
        have HGM := hide hom
        clear hk hom HG HM2 g0 g1 g2
        have g0 := (unhide HOG).cell (i := 0) rfl
        have g1 := (unhide HOG).cell (i := 1) rfl
        have g2 := (unhide HOG).cell (i := 2) rfl
        go_wp2_with fail
        refine (unhide HH2 _ (unhide HGM)).mono ?_
        rintro e VJ ⟨rfl, hb⟩
        replace HL := hide ((unhide HL).step hb)
        replace HOW := hide ((unhide HOW).step hb)
        replace HOG := hide ((unhide HOG).step hb)
        replace HGM := hide ((unhide HGM).step hb)
        replace HZ := hide (Below.step (unhide HZ) hb)
        clear hb g0 g1 g2
        generalize VJ = X2 at *
        have sa0 := (unhide HL).arg.cell (i := 0) rfl
        have sa1 := (unhide HL).arg.cell (i := 1) rfl
        have sa2 := (unhide HL).arg.cell (i := 2) rfl
        have so0 := (unhide HL).op.cell (i := 0) rfl
        have so1 := (unhide HL).op.cell (i := 1) rfl
        have so2 := (unhide HL).op.cell (i := 2) rfl
        have so3 := (unhide HL).op.cell (i := 3) rfl
        have so4 := (unhide HL).op.cell (i := 4) rfl
        have so5 := (unhide HL).op.cell (i := 5) rfl
        have so6 := (unhide HL).op.cell (i := 6) rfl
        have zx0 := (unhide HL).lt
        have zx1 : ¬ X2.heap.size = w.heap.size := (by omega)
        have zx2 : ¬ w.heap.size = X2.heap.size := (by omega)
        have zx3 : ¬ X2.heap.size = w.heap.size + 1 := (by omega)
        have zx4 : ¬ w.heap.size + 1 = X2.heap.size := (by omega)
        go_upto_region 24 with (fail)
        go_cut [14, 15] (fun sl sb wx => ∃ (gw : Nat) (q1 : Option Addr) (q3 : Nat) (p1 : Option Addr) (p3 : Nat), sl = .pointer (some ⟨gw, 0, none⟩) ∧ sb = .int .i64 cd ∧ X2.heap.size ≤ gw ∧ Hid (Below X2.heap.size X2 wx) ∧ Hid (OwnV wx gw [.slice q1 LL.length q3, .slice p1 FF.length p3, .int .i64 tk2]) ∧ Hid (HsIn wx (.slice q1 LL.length q3) (.slice p1 FF.length p3) (LL, FF, tk2)))
        case first =>
          go_region_held3 (fun w' => w'.cell? ⟨w.heap.size, 0, none⟩ = some (.slice ao L.length cap) ∧ w'.cell? ⟨w.heap.size, 1, none⟩ = some (.slice fo T.length fcap) ∧ w'.cell? ⟨w.heap.size, 2, none⟩ = some (.int .i64 tk) ∧ w'.cell? ⟨w.heap.size + 1, 0, none⟩ = some (.int .i64 kd) ∧ w'.cell? ⟨w.heap.size + 1, 1, none⟩ = some (.int .i64 id) ∧ w'.cell? ⟨w.heap.size + 1, 2, none⟩ = some (.int .i64 ow) ∧ w'.cell? ⟨w.heap.size + 1, 3, none⟩ = some (.int .i64 ma) ∧ w'.cell? ⟨w.heap.size + 1, 4, none⟩ = some (.int .i64 va) ∧ w'.cell? ⟨w.heap.size + 1, 5, none⟩ = some (.int .i64 ra) ∧ w'.cell? ⟨w.heap.size + 1, 6, none⟩ = some (.int .i64 nw)) (go_keep) (first
            | (go_at_call 21; refine (unhide HTO _ (by first | exact (unhide HL).below | exact (unhide HL).below.drew | exact below_alloc (unhide HL).below _ | exact (below_alloc (unhide HL).below _).drew)).mono ?_; rintro e wa ⟨b1, b2, rfl, hb0, hb1, ho1, ho2, hb⟩; (try (have hgV := (unhide HNW).lt)); (first | (have HB1 : Hid (Below X2.heap.size X2 wa) := hb) | (have HB1 : Hid (Below X2.heap.size X2 wa) := below_undrewA hb) | (have HB1 : Hid (Below X2.heap.size X2 wa) := Below.step (Below.alloc1 _ _) hb; have hgV := OwnV.lt (ownV_alloc X2 #[.slice none 0 0, .slice none 0 0, .int .i64 0] 27); have HNW := hide (OwnV.step (ownV_alloc X2 #[.slice none 0 0, .slice none 0 0, .int .i64 0] 27) hb)) | (have HB1 : Hid (Below X2.heap.size X2 wa) := Below.step (Below.alloc1 _ _) (below_undrewA hb); have hgV := OwnV.lt (ownV_alloc X2 #[.slice none 0 0, .slice none 0 0, .int .i64 0] 27); have HNW := hide (OwnV.step (ownV_alloc X2 #[.slice none 0 0, .slice none 0 0, .int .i64 0] 27) (below_undrewA hb)))); (try replace HNW := hide (OwnV.step (unhide HNW) (unhide HB1))); (try (have n0 := (unhide HNW).cell (i := 0) rfl; have n1 := (unhide HNW).cell (i := 1) rfl; have n2 := (unhide HNW).cell (i := 2) rfl; have nf := (unhide HNW).frozen)); have HL1 := hide ((unhide HL).step (unhide HB1)); have HK1 := hide (OwnV.hsIn tk ho1 ho2 hsL hsT); have taa0 := (unhide HL1).arg.cell (i := 0) rfl; have taa1 := (unhide HL1).arg.cell (i := 1) rfl; have taa2 := (unhide HL1).arg.cell (i := 2) rfl; have tao0 := (unhide HL1).op.cell (i := 0) rfl; have tao1 := (unhide HL1).op.cell (i := 1) rfl; have tao2 := (unhide HL1).op.cell (i := 2) rfl; have tao3 := (unhide HL1).op.cell (i := 3) rfl; have tao4 := (unhide HL1).op.cell (i := 4) rfl; have tao5 := (unhide HL1).op.cell (i := 5) rfl; have tao6 := (unhide HL1).op.cell (i := 6) rfl; have za0 := (unhide HL1).lt; have za1 : ¬ wa.heap.size = w.heap.size := (by omega); have za2 : ¬ w.heap.size = wa.heap.size := (by omega); have za3 : ¬ wa.heap.size = w.heap.size + 1 := (by omega); have za4 : ¬ w.heap.size + 1 = wa.heap.size := (by omega); clear hb ho1 ho2)
            | (go_at_call 24; refine (unhide HTP _).mono ?_; rintro e wb ⟨rfl, hb⟩; (try (have hgV := (unhide HNW).lt)); (first | (have HB2 : Hid (Below wa.heap.size wa wb) := hb) | (have HB2 : Hid (Below wa.heap.size wa wb) := below_undrewA hb) | (have HB2 : Hid (Below wa.heap.size wa wb) := Below.step (Below.alloc1 _ _) hb; have hgV := OwnV.lt (ownV_alloc wa #[.slice none 0 0, .slice none 0 0, .int .i64 0] 27); have HNW := hide (OwnV.step (ownV_alloc wa #[.slice none 0 0, .slice none 0 0, .int .i64 0] 27) hb)) | (have HB2 : Hid (Below wa.heap.size wa wb) := Below.step (Below.alloc1 _ _) (below_undrewA hb); have hgV := OwnV.lt (ownV_alloc wa #[.slice none 0 0, .slice none 0 0, .int .i64 0] 27); have HNW := hide (OwnV.step (ownV_alloc wa #[.slice none 0 0, .slice none 0 0, .int .i64 0] 27) (below_undrewA hb)))); (try replace HNW := hide (OwnV.step (unhide HNW) (unhide HB2))); (try (have n0 := (unhide HNW).cell (i := 0) rfl; have n1 := (unhide HNW).cell (i := 1) rfl; have n2 := (unhide HNW).cell (i := 2) rfl; have nf := (unhide HNW).frozen)); have HL2 := hide ((unhide HL1).step (unhide HB2)); have HK2 := hide ((unhide HK1).below (unhide HB2)); have tba0 := (unhide HL2).arg.cell (i := 0) rfl; have tba1 := (unhide HL2).arg.cell (i := 1) rfl; have tba2 := (unhide HL2).arg.cell (i := 2) rfl; have tbo0 := (unhide HL2).op.cell (i := 0) rfl; have tbo1 := (unhide HL2).op.cell (i := 1) rfl; have tbo2 := (unhide HL2).op.cell (i := 2) rfl; have tbo3 := (unhide HL2).op.cell (i := 3) rfl; have tbo4 := (unhide HL2).op.cell (i := 4) rfl; have tbo5 := (unhide HL2).op.cell (i := 5) rfl; have tbo6 := (unhide HL2).op.cell (i := 6) rfl; have zb0 := (unhide HL2).lt; have zb1 : ¬ wb.heap.size = w.heap.size := (by omega); have zb2 : ¬ w.heap.size = wb.heap.size := (by omega); have zb3 : ¬ wb.heap.size = w.heap.size + 1 := (by omega); have zb4 : ¬ w.heap.size + 1 = wb.heap.size := (by omega); clear hb)
            | (go_at_call 12; refine (unhide HIB _ _ _ (by first | exact unhide HK2 | exact (unhide HK2).below (Below.refl _ _).drew | exact (unhide HK2).below (Below.alloc1 _ _) | exact ((unhide HK2).below (Below.alloc1 _ _)).below (Below.refl _ _).drew)).mono ?_; rintro e wd hA; obtain ⟨bv2, fv2, rfl, hin, hb⟩ := hA; unfold vHouse; dsimp only at hin ⊢; have hin0 := hin wd (Kept.refl _ _); obtain ⟨⟨q1, q3, rfl, -⟩, ⟨p1, p3, rfl, -⟩⟩ := hin0; have HIN := hide hin; (try (have hgV := (unhide HNW).lt)); (first | (have HB3 : Hid (Below wb.heap.size wb wd) := hb) | (have HB3 : Hid (Below wb.heap.size wb wd) := below_undrewA hb) | (have HB3 : Hid (Below wb.heap.size wb wd) := Below.step (Below.alloc1 _ _) hb; have hgV := OwnV.lt (ownV_alloc wb #[.slice none 0 0, .slice none 0 0, .int .i64 0] 27); have HNW := hide (OwnV.step (ownV_alloc wb #[.slice none 0 0, .slice none 0 0, .int .i64 0] 27) hb)) | (have HB3 : Hid (Below wb.heap.size wb wd) := Below.step (Below.alloc1 _ _) (below_undrewA hb); have hgV := OwnV.lt (ownV_alloc wb #[.slice none 0 0, .slice none 0 0, .int .i64 0] 27); have HNW := hide (OwnV.step (ownV_alloc wb #[.slice none 0 0, .slice none 0 0, .int .i64 0] 27) (below_undrewA hb)))); (try replace HNW := hide (OwnV.step (unhide HNW) (unhide HB3))); (try (have n0 := (unhide HNW).cell (i := 0) rfl; have n1 := (unhide HNW).cell (i := 1) rfl; have n2 := (unhide HNW).cell (i := 2) rfl; have nf := (unhide HNW).frozen)); have HL3 := hide ((unhide HL2).step (unhide HB3)); have tda0 := (unhide HL3).arg.cell (i := 0) rfl; have tda1 := (unhide HL3).arg.cell (i := 1) rfl; have tda2 := (unhide HL3).arg.cell (i := 2) rfl; have tdo0 := (unhide HL3).op.cell (i := 0) rfl; have tdo1 := (unhide HL3).op.cell (i := 1) rfl; have tdo2 := (unhide HL3).op.cell (i := 2) rfl; have tdo3 := (unhide HL3).op.cell (i := 3) rfl; have tdo4 := (unhide HL3).op.cell (i := 4) rfl; have tdo5 := (unhide HL3).op.cell (i := 5) rfl; have tdo6 := (unhide HL3).op.cell (i := 6) rfl; have zd0 := (unhide HL3).lt; have zd1 : ¬ wd.heap.size = w.heap.size := (by omega); have zd2 : ¬ w.heap.size = wd.heap.size := (by omega); have zd3 : ¬ wd.heap.size = w.heap.size + 1 := (by omega); have zd4 : ¬ w.heap.size + 1 = wd.heap.size := (by omega); have hsz1 := (unhide HB1).size; have hsz2 := (unhide HB2).size; have hsz3 := (unhide HB3).size; clear hb hin))
          all_goals
            go_wp2_with fail
            go_meet
            first
              | exact ⟨wd.heap.size, q1, q3, p1, p3, rfl, rfl, by omega, hide (Below.step (Below.step (Below.step (unhide HB1) (unhide HB2)) (unhide HB3)) (Below.alloc1 _ _)), hide (ownV_alloc wd #[.slice q1 LL.length q3, .slice p1 FF.length p3, .int .i64 tk2] 27), hide (((unhide HIN) wd (Kept.refl _ _)).below (Below.alloc1 _ _))⟩
              | exact ⟨_, q1, q3, p1, p3, rfl, rfl, by omega, hide ((Below.step (Below.step (unhide HB1) (unhide HB2)) (unhide HB3)).trans ((kept3 wd _ 0 1 2 _ _ _).below (by omega) (fun k e => by have e : k = _ := e; omega))), hide ((((unhide HNW).set 0 (.slice q1 LL.length q3) (by simp)).set 1 (.slice p1 FF.length p3) (by simp)).set 2 (.int .i64 tk2) (by simp)), hide ((unhide HIN) _ (kept_ltn hgV (kept3 wd _ 0 1 2 _ _ _)))⟩
        case rest =>
          obtain ⟨gh, s1, s3, t1, t3, rfl, rfl, hgh, HBX, HOH, HKH⟩ := hcut
          generalize wc = VK at *
          replace HL := hide ((unhide HL).step (unhide HBX))
          replace HOW := hide ((unhide HOW).step (unhide HBX))
          replace HOG := hide ((unhide HOG).step (unhide HBX))
          replace HGM := hide ((unhide HGM).step (unhide HBX))
          replace HZ := hide (Below.step (unhide HZ) (unhide HBX))
          clear HBX HIB sa0 sa1 sa2 so0 so1 so2 so3 so4 so5 so6 zx0 zx1 zx2 zx3 zx4
          have HEQ2 := hide fun V h1 h2 => eqHouse_h tk2 s1 t1 LL.length s3 FF.length t3 q1 p1 LL.length q3 FF.length p3 (LL, FF, tk2) V h1 h2
          unfold vHouse at HEQ2
          have HKWd := hide ((unhide HKW).below (unhide HZ))
          have g0 := (unhide HOH).cell (i := 0) rfl
          have g1 := (unhide HOH).cell (i := 1) rfl
          have g2 := (unhide HOH).cell (i := 2) rfl
          have u0 := (unhide HOW).cell (i := 0) rfl
          have u1 := (unhide HOW).cell (i := 1) rfl
          have u2 := (unhide HOW).cell (i := 2) rfl
          go_wp2_with fail
          refine (unhide HEQ2 _ (unhide HKH) (unhide HKWd)).mono ?_
          rintro e VL ⟨rfl, hb⟩
          replace HL := hide ((unhide HL).step hb)
          replace HOG := hide ((unhide HOG).step hb)
          replace HGM := hide ((unhide HGM).step hb)
          clear hb g0 g1 g2 u0 u1 u2 HKWd HEQ2
          have g0 := (unhide HOG).cell (i := 0) rfl
          have g1 := (unhide HOG).cell (i := 1) rfl
          have g2 := (unhide HOG).cell (i := 2) rfl
          go_wp2_with fail
          refine (unhide HH2 _ (unhide HGM)).mono ?_
          rintro e VM ⟨rfl, hb⟩
          replace HL := hide ((unhide HL).step hb)
          replace HOG := hide ((unhide HOG).step hb)
          replace HGM := hide ((unhide HGM).step hb)
          clear hb g0 g1 g2
          have HW := hide (unhide HL).below
          go_wp2
          go_ret
          exact ⟨rfl, unhide HW⟩

end Go.Proofs.Ytojlkdmlelgcbaa

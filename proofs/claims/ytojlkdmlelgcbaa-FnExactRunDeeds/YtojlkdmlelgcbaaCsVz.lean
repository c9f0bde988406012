/- Customs: texts laid together by wip/lay16.py: CsVm2 CsVm3 CsVm4 CsVm5 CsVm6 CsVm7 CsV9 CsY. -/
import Derived.Test.YtojlkdmlelgcbaaCsVy
import Derived.Test.YtojlkdmlelgcbaaCsO
import Derived.Test.YtojlkdmlelgcbaaCsU
import Derived.Test.YtojlkdmlelgcbaaCsW
/- Customs: the specification's DoDeed: kind 2. Written by wip/mkcsv.py. -/
namespace Go.Proofs.Ytojlkdmlelgcbaa
open Go.RowKit

set_option maxRecDepth 1000000 in
set_option maxHeartbeats 25600000 in
theorem specHold_any (lv tv : Value) (L : List LotT) (T : List TraderT) (tk id ow ma va ra nw : Int) (w : World) (h : HsIn w lv tv (L, T, tk)) (hs : L.length ≤ 1048576) (hT : T.length ≤ 1048576) (hgood : (houseB (L, T, tk) && deedB T.length (2, id, ow, ma, va, ra, nw)) = true) (hl : lhas L id = true) (hst : (L.getD (lplc L id) default).2.2.2.2.2.1 = wantS 2) :
    Calls Try.prog 23 #[vHouse lv tv tk, vDeed 2 id ow ma va ra nw] w fun e w' => SpA w (doH (L, T, tk) (2, id, ow, ma, va, ra, nw)) e w' := by
  have e1 : (2 : Int) ≠ 1 := by omega
  have HV := hide h
  obtain ⟨h1, h2⟩ := h
  obtain ⟨ao, lcap, rfl, -⟩ := h1
  obtain ⟨fo, fcap, rfl, -⟩ := h2
  dsimp only at HV
  have QC := hide fun V (hV : Below w.heap.size w V) => l16Copy_any _ _ L T tk V ((unhide HV).below hV) hs hT
  have QB := hide fun V (hV : Below w.heap.size w V) => l16Bad_any _ _ L T tk 2 id ow ma va ra nw V ((unhide HV).below hV) hT
  obtain ⟨R, eR⟩ : ∃ r, r = doH (L, T, tk) (2, id, ow, ma, va, ra, nw) := ⟨_, rfl⟩
  rw [← eR]
  have ER := hide eR
  clear eR
  have H3 := hide (s3_new w #[.slice ao L.length lcap, .slice fo T.length fcap, .int .i64 tk] #[.int .i64 2, .int .i64 id, .int .i64 ow, .int .i64 ma, .int .i64 va, .int .i64 ra, .int .i64 nw] #[.slice none 0 0, .slice none 0 0, .int .i64 0] 27 34 27)
  obtain ⟨V0, eV0⟩ : ∃ V, V = ((w.alloc (.cells #[.slice ao L.length lcap, .slice fo T.length fcap, .int .i64 tk] 27)).alloc (.cells #[.int .i64 2, .int .i64 id, .int .i64 ow, .int .i64 ma, .int .i64 va, .int .i64 ra, .int .i64 nw] 34)).alloc (.cells #[.slice none 0 0, .slice none 0 0, .int .i64 0] 27) := ⟨_, rfl⟩
  rw [← eV0] at H3
  have hV0 := (unhide H3).o3.lt
  unfold vHouse at QB ⊢
  unfold CpA vHouse at QC
  unfold vDeed at QB ⊢
  go_enter Try.func23, Try.ntmps23
  go_upto_region 1 with (fail)
  rw [← eV0]
  clear eV0
  have a0 := (unhide H3).o1.cell (i := 0) rfl
  have a1 := (unhide H3).o1.cell (i := 1) rfl
  have a2 := (unhide H3).o1.cell (i := 2) rfl
  go_wp2_with fail
  refine (unhide QC _ (unhide H3).below).mono ?_
  rintro e V1 ⟨g1, c1, g2, c2, rfl, hl1, ht1, hc1, hc2, hg1, hg2, hg12, hb⟩
  have A1 := Below.alloc1 V1 (.cells #[.slice (some ⟨g1, 0, none⟩) L.length c1, .slice (some ⟨g2, 0, none⟩) T.length c2, .int .i64 tk] 27)
  have h3 := (unhide H3).step hb
  have hsz := hb.size
  have hl1l := hl1.lt
  have ht1l := ht1.lt
  have HS : Hid (Sp w (V1.alloc (.cells #[.slice (some ⟨g1, 0, none⟩) L.length c1, .slice (some ⟨g2, 0, none⟩) T.length c2, .int .i64 tk] 27)) [.slice ao L.length lcap, .slice fo T.length fcap, .int .i64 tk] [.int .i64 2, .int .i64 id, .int .i64 ow, .int .i64 ma, .int .i64 va, .int .i64 ra, .int .i64 nw] V1.heap.size g1 g2 [.slice (some ⟨g1, 0, none⟩) L.length c1, .slice (some ⟨g2, 0, none⟩) T.length c2, .int .i64 tk] L T) := ⟨Below.step h3.below A1, h3.o1.step A1, h3.o2.step A1, h3.o3.step A1, ownV_alloc V1 #[.slice (some ⟨g1, 0, none⟩) L.length c1, .slice (some ⟨g2, 0, none⟩) T.length c2, .int .i64 tk] 27, hl1.step A1, ht1.step A1, by omega, by omega, by omega, by omega, by omega, by omega⟩
  clear hb h3 hl1 ht1 H3 QC a0 a1 a2 A1
  go_upto_region 2 with (fail)
  obtain ⟨V2, eV2⟩ : ∃ V, V = V1.alloc (.cells #[.slice (some ⟨g1, 0, none⟩) L.length c1, .slice (some ⟨g2, 0, none⟩) T.length c2, .int .i64 tk] 27) := ⟨_, rfl⟩
  rw [← eV2] at HS ⊢
  clear eV2
  obtain ⟨G, eG⟩ : ∃ g, g = V1.heap.size := ⟨_, rfl⟩
  rw [← eG] at HS ⊢
  clear eG hl1l ht1l hsz
  have hap := (unhide HS).ap
  have a0 := (unhide HS).arg.cell (i := 0) rfl
  have a1 := (unhide HS).arg.cell (i := 1) rfl
  have a2 := (unhide HS).arg.cell (i := 2) rfl
  have o0 := (unhide HS).op.cell (i := 0) rfl
  have o1 := (unhide HS).op.cell (i := 1) rfl
  have o2 := (unhide HS).op.cell (i := 2) rfl
  have o3 := (unhide HS).op.cell (i := 3) rfl
  have o4 := (unhide HS).op.cell (i := 4) rfl
  have o5 := (unhide HS).op.cell (i := 5) rfl
  have o6 := (unhide HS).op.cell (i := 6) rfl
  go_wp2_with fail
  refine (unhide QB _ (unhide HS).below).mono ?_
  rintro e V3 ⟨rfl, hb⟩
  replace HS := hide ((unhide HS).step hb)
  clear hb QB a0 a1 a2 o0 o1 o2 o3 o4 o5 o6
  have HH0 : Hid (HOk (L, T, tk)) := (houseB_iff _).1 (by have := hgood; rw [Bool.and_eq_true] at this; exact this.1)
  have HA := hide (unhide HH0).asc
  dsimp only at HA
  rw [hgood]
  have QF := hide fun V i (hV : Below w.heap.size w V) => l16Find_any _ _ L T tk i V ((unhide HV).below hV) (unhide HA)
  unfold vHouse at QF
  have a0 := (unhide HS).arg.cell (i := 0) rfl
  have a1 := (unhide HS).arg.cell (i := 1) rfl
  have a2 := (unhide HS).arg.cell (i := 2) rfl
  have o0 := (unhide HS).op.cell (i := 0) rfl
  have o1 := (unhide HS).op.cell (i := 1) rfl
  have o2 := (unhide HS).op.cell (i := 2) rfl
  have o3 := (unhide HS).op.cell (i := 3) rfl
  have o4 := (unhide HS).op.cell (i := 4) rfl
  have o5 := (unhide HS).op.cell (i := 5) rfl
  have o6 := (unhide HS).op.cell (i := 6) rfl
  go_wp2_with fail
  refine (unhide QF _ id (unhide HS).below).mono ?_
  rintro e V4 ⟨rfl, hb⟩
  replace HS := hide ((unhide HS).step hb)
  clear hb a0 a1 a2 o0 o1 o2 o3 o4 o5 o6
  have a0 := (unhide HS).arg.cell (i := 0) rfl
  have a1 := (unhide HS).arg.cell (i := 1) rfl
  have a2 := (unhide HS).arg.cell (i := 2) rfl
  have o0 := (unhide HS).op.cell (i := 0) rfl
  have o1 := (unhide HS).op.cell (i := 1) rfl
  have o2 := (unhide HS).op.cell (i := 2) rfl
  have o3 := (unhide HS).op.cell (i := 3) rfl
  have o4 := (unhide HS).op.cell (i := 4) rfl
  have o5 := (unhide HS).op.cell (i := 5) rfl
  have o6 := (unhide HS).op.cell (i := 6) rfl
  obtain ⟨hk, hid⟩ := lhas_yes hl
  have elf : lfnd L id = (lplc L id : Nat) := by rw [lfnd, if_pos hl]
  have ER2 : Hid (R = lotH (L, T, tk) (lplc L id) (L.getD (lplc L id) default) (2, id, ow, ma, va, ra, nw)) := by show _ = _; rw [unhide ER, doH, if_neg (by rw [hgood]; simp)]; unfold actH; rw [if_neg e1, if_neg (by rw [hl]; simp)]
  rw [elf]
  have hLk := (unhide HH0).lots (lplc L id) hk
  dsimp only at hLk
  generalize lplc L id = k at *
  obtain ⟨ao', cap', eao, -, -, hcl⟩ := (unhide HV).1
  dsimp only at eao hcl
  simp only [Value.slice.injEq] at eao
  obtain ⟨rfl, -, rfl⟩ := eao
  obtain ⟨bb, o, xi, xo, xm, xv, xr, xs, xb, rfl, hq0, hq1, hq2, hq3, hq4, hq5, hq6, HX⟩ := recLotAt hcl hk
  rw [unhide HX] at ER2 hLk hst
  have HST := hide hst
  clear hst
  obtain ⟨ho, hoe⟩ := own_lt hLk
  dsimp only at ho hoe
  have htr := (unhide HH0).trs xo.toNat ho
  dsimp only at htr
  rw [hoe] at htr
  obtain ⟨j, ej⟩ : ∃ j : Nat, j = xo.toNat := ⟨_, rfl⟩
  have hxo : xo = (j : Int) := by omega
  rw [← ej] at ho htr
  subst hxo
  obtain ⟨fo', fcap', efo, -, -, hct⟩ := (unhide HV).2
  dsimp only at efo hct
  simp only [Value.slice.injEq] at efo
  obtain ⟨rfl, -, rfl⟩ := efo
  obtain ⟨bb2, o2', mo, bn, bd, rfl, ht0, ht1, ht2, HT⟩ := recTrAt hct ho
  rw [unhide HT] at htr
  obtain ⟨hTO, hbd⟩ := htr
  have hdu := dut_bd xm xv xr
  have hdb := hLk.1
  have hxb := hLk.2.2.2.2
  have hbo := lot_bond hLk
  have htk := (unhide HH0).tk
  have hst0 := hLk.2.2.2.1
  have hmx := dut_parts hLk.1
  dsimp only at hdb hxb hbo htk hst0 hmx
  have HXQ := hide hxb
  have HBD := hide hbd
  clear hxb hbd
  obtain ⟨tt1, tt2, tt3⟩ := hTO
  dsimp only at tt1 tt2 tt3
  have hki : (k : Int) < L.length := by omega
  have hji : (j : Int) < T.length := by omega
  have g0 := wcell3 hq0 (unhide HS).below
  have g1' := wcell3 hq1 (unhide HS).below
  have g2' := wcell3 hq2 (unhide HS).below
  have g3' := wcell3 hq3 (unhide HS).below
  have g4' := wcell3 hq4 (unhide HS).below
  have g5' := wcell3 hq5 (unhide HS).below
  have g6' := wcell3 hq6 (unhide HS).below
  have AX := Below.alloc1 V4 (.cells #[.int .i64 xi, .int .i64 (j : Int), .int .i64 xm, .int .i64 xv, .int .i64 xr, .int .i64 xs, .int .i64 xb] 39)
  have HXB := hide (ownV_alloc V4 #[.int .i64 xi, .int .i64 (j : Int), .int .i64 xm, .int .i64 xv, .int .i64 xr, .int .i64 xs, .int .i64 xb] 39)
  have hltB := (unhide HS).box.lt
  have hlt1 := (unhide HS).lots.lt
  have hlt2 := (unhide HS).trs.lt
  have hltr := (unhide HS).res.lt
  replace HS := hide ((unhide HS).step AX)
  clear hq0 hq1 hq2 hq3 hq4 hq5 hq6 hcl hct elf hid hl ej hoe hLk AX
  go_upto_region 12 with (fail)
  obtain ⟨V5, eV⟩ : ∃ V, V = V4.alloc (.cells #[.int .i64 xi, .int .i64 (j : Int), .int .i64 xm, .int .i64 xv, .int .i64 xr, .int .i64 xs, .int .i64 xb] 39) := ⟨_, rfl⟩
  rw [← eV] at HS HXB ⊢
  clear eV g0 g1' g2' g3' g4' g5' g6'
  obtain ⟨gx, egx⟩ : ∃ g, g = V4.heap.size := ⟨_, rfl⟩
  rw [← egx] at HXB ⊢
  have hgx : w.heap.size + 1 + 1 < gx ∧ gx ≠ G ∧ gx ≠ g1 ∧ gx ≠ g2 := ⟨by omega, by omega, by omega, by omega⟩
  clear egx hltB hlt1 hlt2 hltr
  clear a0 a1 a2 o0 o1 o2 o3 o4 o5 o6
  have a0 := (unhide HS).arg.cell (i := 0) rfl
  have a1 := (unhide HS).arg.cell (i := 1) rfl
  have a2 := (unhide HS).arg.cell (i := 2) rfl
  have o0 := (unhide HS).op.cell (i := 0) rfl
  have o1 := (unhide HS).op.cell (i := 1) rfl
  have o2 := (unhide HS).op.cell (i := 2) rfl
  have o3 := (unhide HS).op.cell (i := 3) rfl
  have o4 := (unhide HS).op.cell (i := 4) rfl
  have o5 := (unhide HS).op.cell (i := 5) rfl
  have o6 := (unhide HS).op.cell (i := 6) rfl
  have x0 := (unhide HXB).cell (i := 0) rfl
  have x1 := (unhide HXB).cell (i := 1) rfl
  have x2 := (unhide HXB).cell (i := 2) rfl
  have x3 := (unhide HXB).cell (i := 3) rfl
  have x4 := (unhide HXB).cell (i := 4) rfl
  have x5 := (unhide HXB).cell (i := 5) rfl
  have x6 := (unhide HXB).cell (i := 6) rfl
  have QS := hide fun V => l16From_any 2 V
  have hxs : xs = 1 := unhide HST
  subst hxs
  clear HST e1
  have ER3 : Hid (R = movH (L, T, tk) k (xi, (j : Int), xm, xv, xr, 1, xb) (2, id, ow, ma, va, ra, nw)) := unhide ER2
  have ER4 : Hid (R = match setV (xi, (j : Int), xm, xv, xr, 1, xb) (mo, bn, bd) tk 2 with | none => ((L, T, tk), 5) | some (b, t, tk') => ((L.set k (putL (xi, (j : Int), xm, xv, xr, 1, xb) b (leftS 2)), T.set j t, tk'), 0)) := by
    show _ = _
    rw [unhide ER3]
    unfold movH
    dsimp only
    rw [show ((j : Int)).toNat = j from rfl, unhide HT]
    cases setV (xi, (j : Int), xm, xv, xr, 1, xb) (mo, bn, bd) tk 2 <;> rfl
  have ESV : Hid (setV (xi, (j : Int), xm, xv, xr, 1, xb) (mo, bn, bd) tk 2 = some (xb, (mo, bn, bd), tk)) := by show _ = _; rfl
  have dst : ((1 : Int) != wantS 2) = false := rfl
  have d8 : ((2 : Int) == 8) = false := rfl
  clear ER2 ER3
  refine wp_region_quiet_lit (by kernel_rfl) (by kernel_rfl) ?_
  repeat (go_big_quiet_step (fail))
  go_big_quiet_want
  go_big_quiet_op
  go_big_quiet_call (exact Calls.quiet_of_same (unhide QS _))
  repeat (go_big_quiet_step (fail))
  refine wpQuiet_nil ?_
  intro _ hw'
  obtain ⟨nq, hw''⟩ := hw'
  subst hw''
  replace HS := hide ((unhide HS).step (below_drewN (Below.refl _ _) nq))
  replace HXB := hide ((unhide HXB).step (below_drewN (Below.refl _ _) nq))
  clear a0 a1 a2 o0 o1 o2 o3 o4 o5 o6
  clear x0 x1 x2 x3 x4 x5 x6
  generalize V5.drewN nq = V6 at *
  have QD := hide fun V => specDuty6_any xm xv xr V
  rw [hdb] at QD
  obtain ⟨du, edu⟩ : ∃ z, z = dutV xm xv xr := ⟨_, rfl⟩
  rw [← edu] at QD hdu
  try rw [← edu] at ESV
  have EDU := hide edu
  clear edu
  have x0 := (unhide HXB).cell (i := 0) rfl
  have x1 := (unhide HXB).cell (i := 1) rfl
  have x2 := (unhide HXB).cell (i := 2) rfl
  have x3 := (unhide HXB).cell (i := 3) rfl
  have x4 := (unhide HXB).cell (i := 4) rfl
  have x5 := (unhide HXB).cell (i := 5) rfl
  have x6 := (unhide HXB).cell (i := 6) rfl
  have a0 := (unhide HS).arg.cell (i := 0) rfl
  have a1 := (unhide HS).arg.cell (i := 1) rfl
  have a2 := (unhide HS).arg.cell (i := 2) rfl
  have o0 := (unhide HS).op.cell (i := 0) rfl
  have o1 := (unhide HS).op.cell (i := 1) rfl
  have o2 := (unhide HS).op.cell (i := 2) rfl
  have o3 := (unhide HS).op.cell (i := 3) rfl
  have o4 := (unhide HS).op.cell (i := 4) rfl
  have o5 := (unhide HS).op.cell (i := 5) rfl
  have o6 := (unhide HS).op.cell (i := 6) rfl
  have t0 := wcell3 ht0 (unhide HS).below
  have t1 := wcell3 ht1 (unhide HS).below
  have t2 := wcell3 ht2 (unhide HS).below
  have AT := Below.alloc1 V6 (.cells #[.int .i64 mo, .int .i64 bn, .int .i64 bd] 37)
  have HTB := hide (ownV_alloc V6 #[.int .i64 mo, .int .i64 bn, .int .i64 bd] 37)
  have hltx := (unhide HXB).lt
  have hltB := (unhide HS).box.lt
  have hlt1 := (unhide HS).lots.lt
  have hlt2 := (unhide HS).trs.lt
  go_upto_region 16 with (go_at_call 18; refine (unhide QD _).mono ?_; rintro e w9 ⟨rfl, h9⟩; have h8 := h9.symm; subst h8; clear h9)
  replace HS := hide ((unhide HS).step AT)
  replace HXB := hide ((unhide HXB).step AT)
  obtain ⟨V7, eV⟩ : ∃ V, V = V6.alloc (.cells #[.int .i64 mo, .int .i64 bn, .int .i64 bd] 37) := ⟨_, rfl⟩
  rw [← eV] at HS HXB HTB ⊢
  clear eV t0 t1 t2 AT QD x0 x1 x2 x3 x4 x5 x6
  clear a0 a1 a2 o0 o1 o2 o3 o4 o5 o6
  obtain ⟨gt, egt⟩ : ∃ g, g = V6.heap.size := ⟨_, rfl⟩
  rw [← egt] at HTB ⊢
  have hgt : w.heap.size + 1 + 1 < gt ∧ gt ≠ G ∧ gt ≠ g1 ∧ gt ≠ g2 := ⟨by omega, by omega, by omega, by omega⟩
  have hgtx : ¬ gt = gx := by omega
  have hgxt : ¬ gx = gt := by omega
  have hGx : ¬ G = gx := by have := hgx.2.1; omega
  have hGt : ¬ G = gt := by have := hgt.2.1; omega
  clear egt hltx hltB hlt1 hlt2
  have a0 := (unhide HS).arg.cell (i := 0) rfl
  have a1 := (unhide HS).arg.cell (i := 1) rfl
  have a2 := (unhide HS).arg.cell (i := 2) rfl
  have o0 := (unhide HS).op.cell (i := 0) rfl
  have o1 := (unhide HS).op.cell (i := 1) rfl
  have o2 := (unhide HS).op.cell (i := 2) rfl
  have o3 := (unhide HS).op.cell (i := 3) rfl
  have o4 := (unhide HS).op.cell (i := 4) rfl
  have o5 := (unhide HS).op.cell (i := 5) rfl
  have o6 := (unhide HS).op.cell (i := 6) rfl
  have b0 := (unhide HS).box.cell (i := 0) rfl
  have b1 := (unhide HS).box.cell (i := 1) rfl
  have b2 := (unhide HS).box.cell (i := 2) rfl
  have bf := (unhide HS).box.frozen
  have x0 := (unhide HXB).cell (i := 0) rfl
  have x1 := (unhide HXB).cell (i := 1) rfl
  have x2 := (unhide HXB).cell (i := 2) rfl
  have x3 := (unhide HXB).cell (i := 3) rfl
  have x4 := (unhide HXB).cell (i := 4) rfl
  have x5 := (unhide HXB).cell (i := 5) rfl
  have x6 := (unhide HXB).cell (i := 6) rfl
  have xf := (unhide HXB).frozen
  have t0 := (unhide HTB).cell (i := 0) rfl
  have t1 := (unhide HTB).cell (i := 1) rfl
  have t2 := (unhide HTB).cell (i := 2) rfl
  have tf := (unhide HTB).frozen
  have EF : Hid (R = ((L.set k (xi, (j : Int), xm, xv, xr, 2, xb), T.set j (mo, bn, bd), tk), 0)) := by show _ = _; rw [unhide ER4, unhide ESV]; rfl
  have HS8 := hide (unhide HS).far hgx 5 (.int .i64 2)
  have HX8 := hide ((unhide HXB).set 5 (.int .i64 2) (by simp))
  have HT8 := hide ((unhide HTB).other (a := ⟨gx, 5, none⟩) hgtx (.int .i64 2))
  go_upto_region 45 with (fail)
  obtain ⟨V8, eV⟩ : ∃ V, V = (V7.setCell ⟨gx, 5, none⟩ (.int .i64 2)) := ⟨_, rfl⟩
  rw [← eV] at HS8 HX8 HT8 ⊢
  dsimp only [List.set] at HS8 HX8 HT8
  clear eV HS HXB HTB b0 b1 b2 bf x0 x1 x2 x3 x4 x5 x6 xf t0 t1 t2 tf
  clear a0 a1 a2 o0 o1 o2 o3 o4 o5 o6
  have HS := HS8
  clear HS8
  have b0 := (unhide HS).box.cell (i := 0) rfl
  have b1 := (unhide HS).box.cell (i := 1) rfl
  have b2 := (unhide HS).box.cell (i := 2) rfl
  have x0 := (unhide HX8).cell (i := 0) rfl
  have x1 := (unhide HX8).cell (i := 1) rfl
  have x2 := (unhide HX8).cell (i := 2) rfl
  have x3 := (unhide HX8).cell (i := 3) rfl
  have x4 := (unhide HX8).cell (i := 4) rfl
  have x5 := (unhide HX8).cell (i := 5) rfl
  have x6 := (unhide HX8).cell (i := 6) rfl
  have c0 := (unhide HS).lots.cell (recCells_get (n := 7) (enc := eLot) (L := L) (i := k) (j := 0) hk (by omega))
  have c1' := (unhide HS).lots.cell (recCells_get (n := 7) (enc := eLot) (L := L) (i := k) (j := 1) hk (by omega))
  have c2' := (unhide HS).lots.cell (recCells_get (n := 7) (enc := eLot) (L := L) (i := k) (j := 2) hk (by omega))
  have c3 := (unhide HS).lots.cell (recCells_get (n := 7) (enc := eLot) (L := L) (i := k) (j := 3) hk (by omega))
  have c4 := (unhide HS).lots.cell (recCells_get (n := 7) (enc := eLot) (L := L) (i := k) (j := 4) hk (by omega))
  have c5 := (unhide HS).lots.cell (recCells_get (n := 7) (enc := eLot) (L := L) (i := k) (j := 5) hk (by omega))
  have c6 := (unhide HS).lots.cell (recCells_get (n := 7) (enc := eLot) (L := L) (i := k) (j := 6) hk (by omega))
  rw [Nat.add_zero] at c0
  rw [unhide HX] at c0 c1' c2' c3 c4 c5 c6
  dsimp only [eLot] at c0 c1' c2' c3 c4 c5 c6
  have cf := (unhide HS).lots.frozen
  have q7 := keptS7 V8 g1 (k * 7) (.int .i64 (xi)) (.int .i64 ((j : Int))) (.int .i64 (xm)) (.int .i64 (xv)) (.int .i64 (xr)) (.int .i64 (2)) (.int .i64 (xb))
  have HS9 := hide ((unhide HS).setLot hk (xi) ((j : Int)) (xm) (xv) (xr) (2) (xb))
  have HX9 := hide ((unhide HX8).kept q7 hgx.2.2.1)
  have HT9 := hide ((unhide HT8).kept q7 hgt.2.2.1)
  clear q7
  go_upto_region 46 with (fail)
  obtain ⟨V9, eV⟩ : ∃ V, V = (((((((V8.setCell ⟨g1, k * 7, none⟩ (.int .i64 (xi))).setCell ⟨g1, k * 7 + 1, none⟩ (.int .i64 ((j : Int)))).setCell ⟨g1, k * 7 + 2, none⟩ (.int .i64 (xm))).setCell ⟨g1, k * 7 + 3, none⟩ (.int .i64 (xv))).setCell ⟨g1, k * 7 + 4, none⟩ (.int .i64 (xr))).setCell ⟨g1, k * 7 + 5, none⟩ (.int .i64 (2))).setCell ⟨g1, k * 7 + 6, none⟩ (.int .i64 (xb))) := ⟨_, rfl⟩
  rw [← eV] at HS9 HX9 HT9 ⊢
  clear eV HS HX8 HT8 b0 b1 b2 x0 x1 x2 x3 x4 x5 x6 c0 c1' c2' c3 c4 c5 c6 cf
  have HS := HS9
  clear HS9
  have b1 := (unhide HS).box.cell (i := 1) rfl
  have x1 := (unhide HX9).cell (i := 1) rfl
  have t0 := (unhide HT9).cell (i := 0) rfl
  have t1 := (unhide HT9).cell (i := 1) rfl
  have t2 := (unhide HT9).cell (i := 2) rfl
  have c0 := (unhide HS).trs.cell (recCells_get (n := 3) (enc := eTrader) (L := T) (i := j) (j := 0) ho (by omega))
  have c1' := (unhide HS).trs.cell (recCells_get (n := 3) (enc := eTrader) (L := T) (i := j) (j := 1) ho (by omega))
  have c2' := (unhide HS).trs.cell (recCells_get (n := 3) (enc := eTrader) (L := T) (i := j) (j := 2) ho (by omega))
  rw [Nat.add_zero] at c0
  rw [unhide HT] at c0 c1' c2'
  dsimp only [eTrader] at c0 c1' c2'
  have cf := (unhide HS).trs.frozen
  have HS9 := hide ((unhide HS).setTr ho (mo) (bn) (bd))
  go_upto_region 47 with (fail)
  obtain ⟨VA, eV⟩ : ∃ V, V = (((V9.setCell ⟨g2, j * 3, none⟩ (.int .i64 (mo))).setCell ⟨g2, j * 3 + 1, none⟩ (.int .i64 (bn))).setCell ⟨g2, j * 3 + 2, none⟩ (.int .i64 (bd))) := ⟨_, rfl⟩
  rw [← eV] at HS9 ⊢
  clear eV HS HX9 HT9 b1 x1 t0 t1 t2 c0 c1' c2' cf
  have HS := HS9
  clear HS9
  have b0 := (unhide HS).box.cell (i := 0) rfl
  have b1 := (unhide HS).box.cell (i := 1) rfl
  have b2 := (unhide HS).box.cell (i := 2) rfl
  have r0 := (unhide HS).res.cell (i := 0) rfl
  have r1 := (unhide HS).res.cell (i := 1) rfl
  have r2 := (unhide HS).res.cell (i := 2) rfl
  have rf := (unhide HS).res.frozen
  have HF := hide (res_fin (c1 := c1) (c2 := c2) (tk := tk) (unhide HS).below (unhide HS).res (unhide HS).lots (unhide HS).trs hap.2.1 hap.2.2.1 (by rw [List.length_set]) (by rw [List.length_set]) hc1 hc2)
  dsimp only at HF
  have hnG : ¬ G = w.heap.size + 1 + 1 := by omega
  go_wp2
  have k0 := (unhide HF).1.cell (i := 0) rfl
  have k1 := (unhide HF).1.cell (i := 1) rfl
  have k2 := (unhide HF).1.cell (i := 2) rfl
  refine bodyPost_ret (v := .tuple #[vHouse (.slice (some ⟨g1, 0, none⟩) L.length c1) (.slice (some ⟨g2, 0, none⟩) T.length c2) (tk), .int .i64 0]) (by simp [results, Try.results23, go_sem, vHouse, k0, k1, k2]) rfl ?_
  exact spA_mk (unhide EF) (unhide HF).2.1 (unhide HF).2.2

end Go.Proofs.Ytojlkdmlelgcbaa

/- Customs: the specification's DoDeed: kind 3. Written by wip/mkcsv.py. -/
namespace Go.Proofs.Ytojlkdmlelgcbaa
open Go.RowKit

set_option maxRecDepth 1000000 in
set_option maxHeartbeats 25600000 in
theorem specLift_any (lv tv : Value) (L : List LotT) (T : List TraderT) (tk id ow ma va ra nw : Int) (w : World) (h : HsIn w lv tv (L, T, tk)) (hs : L.length ≤ 1048576) (hT : T.length ≤ 1048576) (hgood : (houseB (L, T, tk) && deedB T.length (3, id, ow, ma, va, ra, nw)) = true) (hl : lhas L id = true) (hst : (L.getD (lplc L id) default).2.2.2.2.2.1 = wantS 3) :
    Calls Try.prog 23 #[vHouse lv tv tk, vDeed 3 id ow ma va ra nw] w fun e w' => SpA w (doH (L, T, tk) (3, id, ow, ma, va, ra, nw)) e w' := by
  have e1 : (3 : Int) ≠ 1 := by omega
  have HV := hide h
  obtain ⟨h1, h2⟩ := h
  obtain ⟨ao, lcap, rfl, -⟩ := h1
  obtain ⟨fo, fcap, rfl, -⟩ := h2
  dsimp only at HV
  have QC := hide fun V (hV : Below w.heap.size w V) => l16Copy_any _ _ L T tk V ((unhide HV).below hV) hs hT
  have QB := hide fun V (hV : Below w.heap.size w V) => l16Bad_any _ _ L T tk 3 id ow ma va ra nw V ((unhide HV).below hV) hT
  obtain ⟨R, eR⟩ : ∃ r, r = doH (L, T, tk) (3, id, ow, ma, va, ra, nw) := ⟨_, rfl⟩
  rw [← eR]
  have ER := hide eR
  clear eR
  have H3 := hide (s3_new w #[.slice ao L.length lcap, .slice fo T.length fcap, .int .i64 tk] #[.int .i64 3, .int .i64 id, .int .i64 ow, .int .i64 ma, .int .i64 va, .int .i64 ra, .int .i64 nw] #[.slice none 0 0, .slice none 0 0, .int .i64 0] 27 34 27)
  obtain ⟨V0, eV0⟩ : ∃ V, V = ((w.alloc (.cells #[.slice ao L.length lcap, .slice fo T.length fcap, .int .i64 tk] 27)).alloc (.cells #[.int .i64 3, .int .i64 id, .int .i64 ow, .int .i64 ma, .int .i64 va, .int .i64 ra, .int .i64 nw] 34)).alloc (.cells #[.slice none 0 0, .slice none 0 0, .int .i64 0] 27) := ⟨_, rfl⟩
  rw [← eV0] at H3
  have hV0 := (unhide H3).o3.lt
  unfold vHouse at QB ⊢
  unfold CpA vHouse at QC
  unfold vDeed at QB ⊢
  go_enter Try.func23, Try.ntmps23
  go_upto_region 1 with (fail)
  rw [← eV0]
  clear eV0
  have a0 := (unhide H3).o1.cell (i := 0) rfl
  have a1 := (unhide H3).o1.cell (i := 1) rfl
  have a2 := (unhide H3).o1.cell (i := 2) rfl
  go_wp2_with fail
  refine (unhide QC _ (unhide H3).below).mono ?_
  rintro e V1 ⟨g1, c1, g2, c2, rfl, hl1, ht1, hc1, hc2, hg1, hg2, hg12, hb⟩
  have A1 := Below.alloc1 V1 (.cells #[.slice (some ⟨g1, 0, none⟩) L.length c1, .slice (some ⟨g2, 0, none⟩) T.length c2, .int .i64 tk] 27)
  have h3 := (unhide H3).step hb
  have hsz := hb.size
  have hl1l := hl1.lt
  have ht1l := ht1.lt
  have HS : Hid (Sp w (V1.alloc (.cells #[.slice (some ⟨g1, 0, none⟩) L.length c1, .slice (some ⟨g2, 0, none⟩) T.length c2, .int .i64 tk] 27)) [.slice ao L.length lcap, .slice fo T.length fcap, .int .i64 tk] [.int .i64 3, .int .i64 id, .int .i64 ow, .int .i64 ma, .int .i64 va, .int .i64 ra, .int .i64 nw] V1.heap.size g1 g2 [.slice (some ⟨g1, 0, none⟩) L.length c1, .slice (some ⟨g2, 0, none⟩) T.length c2, .int .i64 tk] L T) := ⟨Below.step h3.below A1, h3.o1.step A1, h3.o2.step A1, h3.o3.step A1, ownV_alloc V1 #[.slice (some ⟨g1, 0, none⟩) L.length c1, .slice (some ⟨g2, 0, none⟩) T.length c2, .int .i64 tk] 27, hl1.step A1, ht1.step A1, by omega, by omega, by omega, by omega, by omega, by omega⟩
  clear hb h3 hl1 ht1 H3 QC a0 a1 a2 A1
  go_upto_region 2 with (fail)
  obtain ⟨V2, eV2⟩ : ∃ V, V = V1.alloc (.cells #[.slice (some ⟨g1, 0, none⟩) L.length c1, .slice (some ⟨g2, 0, none⟩) T.length c2, .int .i64 tk] 27) := ⟨_, rfl⟩
  rw [← eV2] at HS ⊢
  clear eV2
  obtain ⟨G, eG⟩ : ∃ g, g = V1.heap.size := ⟨_, rfl⟩
  rw [← eG] at HS ⊢
  clear eG hl1l ht1l hsz
  have hap := (unhide HS).ap
  have a0 := (unhide HS).arg.cell (i := 0) rfl
  have a1 := (unhide HS).arg.cell (i := 1) rfl
  have a2 := (unhide HS).arg.cell (i := 2) rfl
  have o0 := (unhide HS).op.cell (i := 0) rfl
  have o1 := (unhide HS).op.cell (i := 1) rfl
  have o2 := (unhide HS).op.cell (i := 2) rfl
  have o3 := (unhide HS).op.cell (i := 3) rfl
  have o4 := (unhide HS).op.cell (i := 4) rfl
  have o5 := (unhide HS).op.cell (i := 5) rfl
  have o6 := (unhide HS).op.cell (i := 6) rfl
  go_wp2_with fail
  refine (unhide QB _ (unhide HS).below).mono ?_
  rintro e V3 ⟨rfl, hb⟩
  replace HS := hide ((unhide HS).step hb)
  clear hb QB a0 a1 a2 o0 o1 o2 o3 o4 o5 o6
  have HH0 : Hid (HOk (L, T, tk)) := (houseB_iff _).1 (by have := hgood; rw [Bool.and_eq_true] at this; exact this.1)
  have HA := hide (unhide HH0).asc
  dsimp only at HA
  rw [hgood]
  have QF := hide fun V i (hV : Below w.heap.size w V) => l16Find_any _ _ L T tk i V ((unhide HV).below hV) (unhide HA)
  unfold vHouse at QF
  have a0 := (unhide HS).arg.cell (i := 0) rfl
  have a1 := (unhide HS).arg.cell (i := 1) rfl
  have a2 := (unhide HS).arg.cell (i := 2) rfl
  have o0 := (unhide HS).op.cell (i := 0) rfl
  have o1 := (unhide HS).op.cell (i := 1) rfl
  have o2 := (unhide HS).op.cell (i := 2) rfl
  have o3 := (unhide HS).op.cell (i := 3) rfl
  have o4 := (unhide HS).op.cell (i := 4) rfl
  have o5 := (unhide HS).op.cell (i := 5) rfl
  have o6 := (unhide HS).op.cell (i := 6) rfl
  go_wp2_with fail
  refine (unhide QF _ id (unhide HS).below).mono ?_
  rintro e V4 ⟨rfl, hb⟩
  replace HS := hide ((unhide HS).step hb)
  clear hb a0 a1 a2 o0 o1 o2 o3 o4 o5 o6
  have a0 := (unhide HS).arg.cell (i := 0) rfl
  have a1 := (unhide HS).arg.cell (i := 1) rfl
  have a2 := (unhide HS).arg.cell (i := 2) rfl
  have o0 := (unhide HS).op.cell (i := 0) rfl
  have o1 := (unhide HS).op.cell (i := 1) rfl
  have o2 := (unhide HS).op.cell (i := 2) rfl
  have o3 := (unhide HS).op.cell (i := 3) rfl
  have o4 := (unhide HS).op.cell (i := 4) rfl
  have o5 := (unhide HS).op.cell (i := 5) rfl
  have o6 := (unhide HS).op.cell (i := 6) rfl
  obtain ⟨hk, hid⟩ := lhas_yes hl
  have elf : lfnd L id = (lplc L id : Nat) := by rw [lfnd, if_pos hl]
  have ER2 : Hid (R = lotH (L, T, tk) (lplc L id) (L.getD (lplc L id) default) (3, id, ow, ma, va, ra, nw)) := by show _ = _; rw [unhide ER, doH, if_neg (by rw [hgood]; simp)]; unfold actH; rw [if_neg e1, if_neg (by rw [hl]; simp)]
  rw [elf]
  have hLk := (unhide HH0).lots (lplc L id) hk
  dsimp only at hLk
  generalize lplc L id = k at *
  obtain ⟨ao', cap', eao, -, -, hcl⟩ := (unhide HV).1
  dsimp only at eao hcl
  simp only [Value.slice.injEq] at eao
  obtain ⟨rfl, -, rfl⟩ := eao
  obtain ⟨bb, o, xi, xo, xm, xv, xr, xs, xb, rfl, hq0, hq1, hq2, hq3, hq4, hq5, hq6, HX⟩ := recLotAt hcl hk
  rw [unhide HX] at ER2 hLk hst
  have HST := hide hst
  clear hst
  obtain ⟨ho, hoe⟩ := own_lt hLk
  dsimp only at ho hoe
  have htr := (unhide HH0).trs xo.toNat ho
  dsimp only at htr
  rw [hoe] at htr
  obtain ⟨j, ej⟩ : ∃ j : Nat, j = xo.toNat := ⟨_, rfl⟩
  have hxo : xo = (j : Int) := by omega
  rw [← ej] at ho htr
  subst hxo
  obtain ⟨fo', fcap', efo, -, -, hct⟩ := (unhide HV).2
  dsimp only at efo hct
  simp only [Value.slice.injEq] at efo
  obtain ⟨rfl, -, rfl⟩ := efo
  obtain ⟨bb2, o2', mo, bn, bd, rfl, ht0, ht1, ht2, HT⟩ := recTrAt hct ho
  rw [unhide HT] at htr
  obtain ⟨hTO, hbd⟩ := htr
  have hdu := dut_bd xm xv xr
  have hdb := hLk.1
  have hxb := hLk.2.2.2.2
  have hbo := lot_bond hLk
  have htk := (unhide HH0).tk
  have hst0 := hLk.2.2.2.1
  have hmx := dut_parts hLk.1
  dsimp only at hdb hxb hbo htk hst0 hmx
  have HXQ := hide hxb
  have HBD := hide hbd
  clear hxb hbd
  obtain ⟨tt1, tt2, tt3⟩ := hTO
  dsimp only at tt1 tt2 tt3
  have hki : (k : Int) < L.length := by omega
  have hji : (j : Int) < T.length := by omega
  have g0 := wcell3 hq0 (unhide HS).below
  have g1' := wcell3 hq1 (unhide HS).below
  have g2' := wcell3 hq2 (unhide HS).below
  have g3' := wcell3 hq3 (unhide HS).below
  have g4' := wcell3 hq4 (unhide HS).below
  have g5' := wcell3 hq5 (unhide HS).below
  have g6' := wcell3 hq6 (unhide HS).below
  have AX := Below.alloc1 V4 (.cells #[.int .i64 xi, .int .i64 (j : Int), .int .i64 xm, .int .i64 xv, .int .i64 xr, .int .i64 xs, .int .i64 xb] 39)
  have HXB := hide (ownV_alloc V4 #[.int .i64 xi, .int .i64 (j : Int), .int .i64 xm, .int .i64 xv, .int .i64 xr, .int .i64 xs, .int .i64 xb] 39)
  have hltB := (unhide HS).box.lt
  have hlt1 := (unhide HS).lots.lt
  have hlt2 := (unhide HS).trs.lt
  have hltr := (unhide HS).res.lt
  replace HS := hide ((unhide HS).step AX)
  clear hq0 hq1 hq2 hq3 hq4 hq5 hq6 hcl hct elf hid hl ej hoe hLk AX
  go_upto_region 12 with (fail)
  obtain ⟨V5, eV⟩ : ∃ V, V = V4.alloc (.cells #[.int .i64 xi, .int .i64 (j : Int), .int .i64 xm, .int .i64 xv, .int .i64 xr, .int .i64 xs, .int .i64 xb] 39) := ⟨_, rfl⟩
  rw [← eV] at HS HXB ⊢
  clear eV g0 g1' g2' g3' g4' g5' g6'
  obtain ⟨gx, egx⟩ : ∃ g, g = V4.heap.size := ⟨_, rfl⟩
  rw [← egx] at HXB ⊢
  have hgx : w.heap.size + 1 + 1 < gx ∧ gx ≠ G ∧ gx ≠ g1 ∧ gx ≠ g2 := ⟨by omega, by omega, by omega, by omega⟩
  clear egx hltB hlt1 hlt2 hltr
  clear a0 a1 a2 o0 o1 o2 o3 o4 o5 o6
  have a0 := (unhide HS).arg.cell (i := 0) rfl
  have a1 := (unhide HS).arg.cell (i := 1) rfl
  have a2 := (unhide HS).arg.cell (i := 2) rfl
  have o0 := (unhide HS).op.cell (i := 0) rfl
  have o1 := (unhide HS).op.cell (i := 1) rfl
  have o2 := (unhide HS).op.cell (i := 2) rfl
  have o3 := (unhide HS).op.cell (i := 3) rfl
  have o4 := (unhide HS).op.cell (i := 4) rfl
  have o5 := (unhide HS).op.cell (i := 5) rfl
  have o6 := (unhide HS).op.cell (i := 6) rfl
  have x0 := (unhide HXB).cell (i := 0) rfl
  have x1 := (unhide HXB).cell (i := 1) rfl
  have x2 := (unhide HXB).cell (i := 2) rfl
  have x3 := (unhide HXB).cell (i := 3) rfl
  have x4 := (unhide HXB).cell (i := 4) rfl
  have x5 := (unhide HXB).cell (i := 5) rfl
  have x6 := (unhide HXB).cell (i := 6) rfl
  have QS := hide fun V => l16From_any 3 V
  have hxs : xs = 2 := unhide HST
  subst hxs
  clear HST e1
  have ER3 : Hid (R = movH (L, T, tk) k (xi, (j : Int), xm, xv, xr, 2, xb) (3, id, ow, ma, va, ra, nw)) := unhide ER2
  have ER4 : Hid (R = match setV (xi, (j : Int), xm, xv, xr, 2, xb) (mo, bn, bd) tk 3 with | none => ((L, T, tk), 5) | some (b, t, tk') => ((L.set k (putL (xi, (j : Int), xm, xv, xr, 2, xb) b (leftS 3)), T.set j t, tk'), 0)) := by
    show _ = _
    rw [unhide ER3]
    unfold movH
    dsimp only
    rw [show ((j : Int)).toNat = j from rfl, unhide HT]
    cases setV (xi, (j : Int), xm, xv, xr, 2, xb) (mo, bn, bd) tk 3 <;> rfl
  have ESV : Hid (setV (xi, (j : Int), xm, xv, xr, 2, xb) (mo, bn, bd) tk 3 = some (xb, (mo, bn, bd), tk)) := by show _ = _; rfl
  have dst : ((2 : Int) != wantS 3) = false := rfl
  have d8 : ((3 : Int) == 8) = false := rfl
  clear ER2 ER3
  refine wp_region_quiet_lit (by kernel_rfl) (by kernel_rfl) ?_
  repeat (go_big_quiet_step (fail))
  go_big_quiet_want
  go_big_quiet_op
  go_big_quiet_call (exact Calls.quiet_of_same (unhide QS _))
  repeat (go_big_quiet_step (fail))
  refine wpQuiet_nil ?_
  intro _ hw'
  obtain ⟨nq, hw''⟩ := hw'
  subst hw''
  replace HS := hide ((unhide HS).step (below_drewN (Below.refl _ _) nq))
  replace HXB := hide ((unhide HXB).step (below_drewN (Below.refl _ _) nq))
  clear a0 a1 a2 o0 o1 o2 o3 o4 o5 o6
  clear x0 x1 x2 x3 x4 x5 x6
  generalize V5.drewN nq = V6 at *
  have QD := hide fun V => specDuty6_any xm xv xr V
  rw [hdb] at QD
  obtain ⟨du, edu⟩ : ∃ z, z = dutV xm xv xr := ⟨_, rfl⟩
  rw [← edu] at QD hdu
  try rw [← edu] at ESV
  have EDU := hide edu
  clear edu
  have x0 := (unhide HXB).cell (i := 0) rfl
  have x1 := (unhide HXB).cell (i := 1) rfl
  have x2 := (unhide HXB).cell (i := 2) rfl
  have x3 := (unhide HXB).cell (i := 3) rfl
  have x4 := (unhide HXB).cell (i := 4) rfl
  have x5 := (unhide HXB).cell (i := 5) rfl
  have x6 := (unhide HXB).cell (i := 6) rfl
  have a0 := (unhide HS).arg.cell (i := 0) rfl
  have a1 := (unhide HS).arg.cell (i := 1) rfl
  have a2 := (unhide HS).arg.cell (i := 2) rfl
  have o0 := (unhide HS).op.cell (i := 0) rfl
  have o1 := (unhide HS).op.cell (i := 1) rfl
  have o2 := (unhide HS).op.cell (i := 2) rfl
  have o3 := (unhide HS).op.cell (i := 3) rfl
  have o4 := (unhide HS).op.cell (i := 4) rfl
  have o5 := (unhide HS).op.cell (i := 5) rfl
  have o6 := (unhide HS).op.cell (i := 6) rfl
  have t0 := wcell3 ht0 (unhide HS).below
  have t1 := wcell3 ht1 (unhide HS).below
  have t2 := wcell3 ht2 (unhide HS).below
  have AT := Below.alloc1 V6 (.cells #[.int .i64 mo, .int .i64 bn, .int .i64 bd] 37)
  have HTB := hide (ownV_alloc V6 #[.int .i64 mo, .int .i64 bn, .int .i64 bd] 37)
  have hltx := (unhide HXB).lt
  have hltB := (unhide HS).box.lt
  have hlt1 := (unhide HS).lots.lt
  have hlt2 := (unhide HS).trs.lt
  go_upto_region 16 with (go_at_call 18; refine (unhide QD _).mono ?_; rintro e w9 ⟨rfl, h9⟩; have h8 := h9.symm; subst h8; clear h9)
  replace HS := hide ((unhide HS).step AT)
  replace HXB := hide ((unhide HXB).step AT)
  obtain ⟨V7, eV⟩ : ∃ V, V = V6.alloc (.cells #[.int .i64 mo, .int .i64 bn, .int .i64 bd] 37) := ⟨_, rfl⟩
  rw [← eV] at HS HXB HTB ⊢
  clear eV t0 t1 t2 AT QD x0 x1 x2 x3 x4 x5 x6
  clear a0 a1 a2 o0 o1 o2 o3 o4 o5 o6
  obtain ⟨gt, egt⟩ : ∃ g, g = V6.heap.size := ⟨_, rfl⟩
  rw [← egt] at HTB ⊢
  have hgt : w.heap.size + 1 + 1 < gt ∧ gt ≠ G ∧ gt ≠ g1 ∧ gt ≠ g2 := ⟨by omega, by omega, by omega, by omega⟩
  have hgtx : ¬ gt = gx := by omega
  have hgxt : ¬ gx = gt := by omega
  have hGx : ¬ G = gx := by have := hgx.2.1; omega
  have hGt : ¬ G = gt := by have := hgt.2.1; omega
  clear egt hltx hltB hlt1 hlt2
  have a0 := (unhide HS).arg.cell (i := 0) rfl
  have a1 := (unhide HS).arg.cell (i := 1) rfl
  have a2 := (unhide HS).arg.cell (i := 2) rfl
  have o0 := (unhide HS).op.cell (i := 0) rfl
  have o1 := (unhide HS).op.cell (i := 1) rfl
  have o2 := (unhide HS).op.cell (i := 2) rfl
  have o3 := (unhide HS).op.cell (i := 3) rfl
  have o4 := (unhide HS).op.cell (i := 4) rfl
  have o5 := (unhide HS).op.cell (i := 5) rfl
  have o6 := (unhide HS).op.cell (i := 6) rfl
  have b0 := (unhide HS).box.cell (i := 0) rfl
  have b1 := (unhide HS).box.cell (i := 1) rfl
  have b2 := (unhide HS).box.cell (i := 2) rfl
  have bf := (unhide HS).box.frozen
  have x0 := (unhide HXB).cell (i := 0) rfl
  have x1 := (unhide HXB).cell (i := 1) rfl
  have x2 := (unhide HXB).cell (i := 2) rfl
  have x3 := (unhide HXB).cell (i := 3) rfl
  have x4 := (unhide HXB).cell (i := 4) rfl
  have x5 := (unhide HXB).cell (i := 5) rfl
  have x6 := (unhide HXB).cell (i := 6) rfl
  have xf := (unhide HXB).frozen
  have t0 := (unhide HTB).cell (i := 0) rfl
  have t1 := (unhide HTB).cell (i := 1) rfl
  have t2 := (unhide HTB).cell (i := 2) rfl
  have tf := (unhide HTB).frozen
  have EF : Hid (R = ((L.set k (xi, (j : Int), xm, xv, xr, 1, xb), T.set j (mo, bn, bd), tk), 0)) := by show _ = _; rw [unhide ER4, unhide ESV]; rfl
  have HS8 := hide (unhide HS).far hgx 5 (.int .i64 1)
  have HX8 := hide ((unhide HXB).set 5 (.int .i64 1) (by simp))
  have HT8 := hide ((unhide HTB).other (a := ⟨gx, 5, none⟩) hgtx (.int .i64 1))
  go_upto_region 45 with (fail)
  obtain ⟨V8, eV⟩ : ∃ V, V = (V7.setCell ⟨gx, 5, none⟩ (.int .i64 1)) := ⟨_, rfl⟩
  rw [← eV] at HS8 HX8 HT8 ⊢
  dsimp only [List.set] at HS8 HX8 HT8
  clear eV HS HXB HTB b0 b1 b2 bf x0 x1 x2 x3 x4 x5 x6 xf t0 t1 t2 tf
  clear a0 a1 a2 o0 o1 o2 o3 o4 o5 o6
  have HS := HS8
  clear HS8
  have b0 := (unhide HS).box.cell (i := 0) rfl
  have b1 := (unhide HS).box.cell (i := 1) rfl
  have b2 := (unhide HS).box.cell (i := 2) rfl
  have x0 := (unhide HX8).cell (i := 0) rfl
  have x1 := (unhide HX8).cell (i := 1) rfl
  have x2 := (unhide HX8).cell (i := 2) rfl
  have x3 := (unhide HX8).cell (i := 3) rfl
  have x4 := (unhide HX8).cell (i := 4) rfl
  have x5 := (unhide HX8).cell (i := 5) rfl
  have x6 := (unhide HX8).cell (i := 6) rfl
  have c0 := (unhide HS).lots.cell (recCells_get (n := 7) (enc := eLot) (L := L) (i := k) (j := 0) hk (by omega))
  have c1' := (unhide HS).lots.cell (recCells_get (n := 7) (enc := eLot) (L := L) (i := k) (j := 1) hk (by omega))
  have c2' := (unhide HS).lots.cell (recCells_get (n := 7) (enc := eLot) (L := L) (i := k) (j := 2) hk (by omega))
  have c3 := (unhide HS).lots.cell (recCells_get (n := 7) (enc := eLot) (L := L) (i := k) (j := 3) hk (by omega))
  have c4 := (unhide HS).lots.cell (recCells_get (n := 7) (enc := eLot) (L := L) (i := k) (j := 4) hk (by omega))
  have c5 := (unhide HS).lots.cell (recCells_get (n := 7) (enc := eLot) (L := L) (i := k) (j := 5) hk (by omega))
  have c6 := (unhide HS).lots.cell (recCells_get (n := 7) (enc := eLot) (L := L) (i := k) (j := 6) hk (by omega))
  rw [Nat.add_zero] at c0
  rw [unhide HX] at c0 c1' c2' c3 c4 c5 c6
  dsimp only [eLot] at c0 c1' c2' c3 c4 c5 c6
  have cf := (unhide HS).lots.frozen
  have q7 := keptS7 V8 g1 (k * 7) (.int .i64 (xi)) (.int .i64 ((j : Int))) (.int .i64 (xm)) (.int .i64 (xv)) (.int .i64 (xr)) (.int .i64 (1)) (.int .i64 (xb))
  have HS9 := hide ((unhide HS).setLot hk (xi) ((j : Int)) (xm) (xv) (xr) (1) (xb))
  have HX9 := hide ((unhide HX8).kept q7 hgx.2.2.1)
  have HT9 := hide ((unhide HT8).kept q7 hgt.2.2.1)
  clear q7
  go_upto_region 46 with (fail)
  obtain ⟨V9, eV⟩ : ∃ V, V = (((((((V8.setCell ⟨g1, k * 7, none⟩ (.int .i64 (xi))).setCell ⟨g1, k * 7 + 1, none⟩ (.int .i64 ((j : Int)))).setCell ⟨g1, k * 7 + 2, none⟩ (.int .i64 (xm))).setCell ⟨g1, k * 7 + 3, none⟩ (.int .i64 (xv))).setCell ⟨g1, k * 7 + 4, none⟩ (.int .i64 (xr))).setCell ⟨g1, k * 7 + 5, none⟩ (.int .i64 (1))).setCell ⟨g1, k * 7 + 6, none⟩ (.int .i64 (xb))) := ⟨_, rfl⟩
  rw [← eV] at HS9 HX9 HT9 ⊢
  clear eV HS HX8 HT8 b0 b1 b2 x0 x1 x2 x3 x4 x5 x6 c0 c1' c2' c3 c4 c5 c6 cf
  have HS := HS9
  clear HS9
  have b1 := (unhide HS).box.cell (i := 1) rfl
  have x1 := (unhide HX9).cell (i := 1) rfl
  have t0 := (unhide HT9).cell (i := 0) rfl
  have t1 := (unhide HT9).cell (i := 1) rfl
  have t2 := (unhide HT9).cell (i := 2) rfl
  have c0 := (unhide HS).trs.cell (recCells_get (n := 3) (enc := eTrader) (L := T) (i := j) (j := 0) ho (by omega))
  have c1' := (unhide HS).trs.cell (recCells_get (n := 3) (enc := eTrader) (L := T) (i := j) (j := 1) ho (by omega))
  have c2' := (unhide HS).trs.cell (recCells_get (n := 3) (enc := eTrader) (L := T) (i := j) (j := 2) ho (by omega))
  rw [Nat.add_zero] at c0
  rw [unhide HT] at c0 c1' c2'
  dsimp only [eTrader] at c0 c1' c2'
  have cf := (unhide HS).trs.frozen
  have HS9 := hide ((unhide HS).setTr ho (mo) (bn) (bd))
  go_upto_region 47 with (fail)
  obtain ⟨VA, eV⟩ : ∃ V, V = (((V9.setCell ⟨g2, j * 3, none⟩ (.int .i64 (mo))).setCell ⟨g2, j * 3 + 1, none⟩ (.int .i64 (bn))).setCell ⟨g2, j * 3 + 2, none⟩ (.int .i64 (bd))) := ⟨_, rfl⟩
  rw [← eV] at HS9 ⊢
  clear eV HS HX9 HT9 b1 x1 t0 t1 t2 c0 c1' c2' cf
  have HS := HS9
  clear HS9
  have b0 := (unhide HS).box.cell (i := 0) rfl
  have b1 := (unhide HS).box.cell (i := 1) rfl
  have b2 := (unhide HS).box.cell (i := 2) rfl
  have r0 := (unhide HS).res.cell (i := 0) rfl
  have r1 := (unhide HS).res.cell (i := 1) rfl
  have r2 := (unhide HS).res.cell (i := 2) rfl
  have rf := (unhide HS).res.frozen
  have HF := hide (res_fin (c1 := c1) (c2 := c2) (tk := tk) (unhide HS).below (unhide HS).res (unhide HS).lots (unhide HS).trs hap.2.1 hap.2.2.1 (by rw [List.length_set]) (by rw [List.length_set]) hc1 hc2)
  dsimp only at HF
  have hnG : ¬ G = w.heap.size + 1 + 1 := by omega
  go_wp2
  have k0 := (unhide HF).1.cell (i := 0) rfl
  have k1 := (unhide HF).1.cell (i := 1) rfl
  have k2 := (unhide HF).1.cell (i := 2) rfl
  refine bodyPost_ret (v := .tuple #[vHouse (.slice (some ⟨g1, 0, none⟩) L.length c1) (.slice (some ⟨g2, 0, none⟩) T.length c2) (tk), .int .i64 0]) (by simp [results, Try.results23, go_sem, vHouse, k0, k1, k2]) rfl ?_
  exact spA_mk (unhide EF) (unhide HF).2.1 (unhide HF).2.2

end Go.Proofs.Ytojlkdmlelgcbaa

/- Customs: the specification's DoDeed: kind 4. Written by wip/mkcsv.py. -/
namespace Go.Proofs.Ytojlkdmlelgcbaa
open Go.RowKit

set_option maxRecDepth 1000000 in
set_option maxHeartbeats 25600000 in
theorem specPay_any (lv tv : Value) (L : List LotT) (T : List TraderT) (tk id ow ma va ra nw : Int) (w : World) (h : HsIn w lv tv (L, T, tk)) (hs : L.length ≤ 1048576) (hT : T.length ≤ 1048576) (hgood : (houseB (L, T, tk) && deedB T.length (4, id, ow, ma, va, ra, nw)) = true) (hl : lhas L id = true) (hst : (L.getD (lplc L id) default).2.2.2.2.2.1 = wantS 4) :
    Calls Try.prog 23 #[vHouse lv tv tk, vDeed 4 id ow ma va ra nw] w fun e w' => SpA w (doH (L, T, tk) (4, id, ow, ma, va, ra, nw)) e w' := by
  have e1 : (4 : Int) ≠ 1 := by omega
  have HV := hide h
  obtain ⟨h1, h2⟩ := h
  obtain ⟨ao, lcap, rfl, -⟩ := h1
  obtain ⟨fo, fcap, rfl, -⟩ := h2
  dsimp only at HV
  have QC := hide fun V (hV : Below w.heap.size w V) => l16Copy_any _ _ L T tk V ((unhide HV).below hV) hs hT
  have QB := hide fun V (hV : Below w.heap.size w V) => l16Bad_any _ _ L T tk 4 id ow ma va ra nw V ((unhide HV).below hV) hT
  obtain ⟨R, eR⟩ : ∃ r, r = doH (L, T, tk) (4, id, ow, ma, va, ra, nw) := ⟨_, rfl⟩
  rw [← eR]
  have ER := hide eR
  clear eR
  have H3 := hide (s3_new w #[.slice ao L.length lcap, .slice fo T.length fcap, .int .i64 tk] #[.int .i64 4, .int .i64 id, .int .i64 ow, .int .i64 ma, .int .i64 va, .int .i64 ra, .int .i64 nw] #[.slice none 0 0, .slice none 0 0, .int .i64 0] 27 34 27)
  obtain ⟨V0, eV0⟩ : ∃ V, V = ((w.alloc (.cells #[.slice ao L.length lcap, .slice fo T.length fcap, .int .i64 tk] 27)).alloc (.cells #[.int .i64 4, .int .i64 id, .int .i64 ow, .int .i64 ma, .int .i64 va, .int .i64 ra, .int .i64 nw] 34)).alloc (.cells #[.slice none 0 0, .slice none 0 0, .int .i64 0] 27) := ⟨_, rfl⟩
  rw [← eV0] at H3
  have hV0 := (unhide H3).o3.lt
  unfold vHouse at QB ⊢
  unfold CpA vHouse at QC
  unfold vDeed at QB ⊢
  go_enter Try.func23, Try.ntmps23
  go_upto_region 1 with (fail)
  rw [← eV0]
  clear eV0
  have a0 := (unhide H3).o1.cell (i := 0) rfl
  have a1 := (unhide H3).o1.cell (i := 1) rfl
  have a2 := (unhide H3).o1.cell (i := 2) rfl
  go_wp2_with fail
  refine (unhide QC _ (unhide H3).below).mono ?_
  rintro e V1 ⟨g1, c1, g2, c2, rfl, hl1, ht1, hc1, hc2, hg1, hg2, hg12, hb⟩
  have A1 := Below.alloc1 V1 (.cells #[.slice (some ⟨g1, 0, none⟩) L.length c1, .slice (some ⟨g2, 0, none⟩) T.length c2, .int .i64 tk] 27)
  have h3 := (unhide H3).step hb
  have hsz := hb.size
  have hl1l := hl1.lt
  have ht1l := ht1.lt
  have HS : Hid (Sp w (V1.alloc (.cells #[.slice (some ⟨g1, 0, none⟩) L.length c1, .slice (some ⟨g2, 0, none⟩) T.length c2, .int .i64 tk] 27)) [.slice ao L.length lcap, .slice fo T.length fcap, .int .i64 tk] [.int .i64 4, .int .i64 id, .int .i64 ow, .int .i64 ma, .int .i64 va, .int .i64 ra, .int .i64 nw] V1.heap.size g1 g2 [.slice (some ⟨g1, 0, none⟩) L.length c1, .slice (some ⟨g2, 0, none⟩) T.length c2, .int .i64 tk] L T) := ⟨Below.step h3.below A1, h3.o1.step A1, h3.o2.step A1, h3.o3.step A1, ownV_alloc V1 #[.slice (some ⟨g1, 0, none⟩) L.length c1, .slice (some ⟨g2, 0, none⟩) T.length c2, .int .i64 tk] 27, hl1.step A1, ht1.step A1, by omega, by omega, by omega, by omega, by omega, by omega⟩
  clear hb h3 hl1 ht1 H3 QC a0 a1 a2 A1
  go_upto_region 2 with (fail)
  obtain ⟨V2, eV2⟩ : ∃ V, V = V1.alloc (.cells #[.slice (some ⟨g1, 0, none⟩) L.length c1, .slice (some ⟨g2, 0, none⟩) T.length c2, .int .i64 tk] 27) := ⟨_, rfl⟩
  rw [← eV2] at HS ⊢
  clear eV2
  obtain ⟨G, eG⟩ : ∃ g, g = V1.heap.size := ⟨_, rfl⟩
  rw [← eG] at HS ⊢
  clear eG hl1l ht1l hsz
  have hap := (unhide HS).ap
  have a0 := (unhide HS).arg.cell (i := 0) rfl
  have a1 := (unhide HS).arg.cell (i := 1) rfl
  have a2 := (unhide HS).arg.cell (i := 2) rfl
  have o0 := (unhide HS).op.cell (i := 0) rfl
  have o1 := (unhide HS).op.cell (i := 1) rfl
  have o2 := (unhide HS).op.cell (i := 2) rfl
  have o3 := (unhide HS).op.cell (i := 3) rfl
  have o4 := (unhide HS).op.cell (i := 4) rfl
  have o5 := (unhide HS).op.cell (i := 5) rfl
  have o6 := (unhide HS).op.cell (i := 6) rfl
  go_wp2_with fail
  refine (unhide QB _ (unhide HS).below).mono ?_
  rintro e V3 ⟨rfl, hb⟩
  replace HS := hide ((unhide HS).step hb)
  clear hb QB a0 a1 a2 o0 o1 o2 o3 o4 o5 o6
  have HH0 : Hid (HOk (L, T, tk)) := (houseB_iff _).1 (by have := hgood; rw [Bool.and_eq_true] at this; exact this.1)
  have HA := hide (unhide HH0).asc
  dsimp only at HA
  rw [hgood]
  have QF := hide fun V i (hV : Below w.heap.size w V) => l16Find_any _ _ L T tk i V ((unhide HV).below hV) (unhide HA)
  unfold vHouse at QF
  have a0 := (unhide HS).arg.cell (i := 0) rfl
  have a1 := (unhide HS).arg.cell (i := 1) rfl
  have a2 := (unhide HS).arg.cell (i := 2) rfl
  have o0 := (unhide HS).op.cell (i := 0) rfl
  have o1 := (unhide HS).op.cell (i := 1) rfl
  have o2 := (unhide HS).op.cell (i := 2) rfl
  have o3 := (unhide HS).op.cell (i := 3) rfl
  have o4 := (unhide HS).op.cell (i := 4) rfl
  have o5 := (unhide HS).op.cell (i := 5) rfl
  have o6 := (unhide HS).op.cell (i := 6) rfl
  go_wp2_with fail
  refine (unhide QF _ id (unhide HS).below).mono ?_
  rintro e V4 ⟨rfl, hb⟩
  replace HS := hide ((unhide HS).step hb)
  clear hb a0 a1 a2 o0 o1 o2 o3 o4 o5 o6
  have a0 := (unhide HS).arg.cell (i := 0) rfl
  have a1 := (unhide HS).arg.cell (i := 1) rfl
  have a2 := (unhide HS).arg.cell (i := 2) rfl
  have o0 := (unhide HS).op.cell (i := 0) rfl
  have o1 := (unhide HS).op.cell (i := 1) rfl
  have o2 := (unhide HS).op.cell (i := 2) rfl
  have o3 := (unhide HS).op.cell (i := 3) rfl
  have o4 := (unhide HS).op.cell (i := 4) rfl
  have o5 := (unhide HS).op.cell (i := 5) rfl
  have o6 := (unhide HS).op.cell (i := 6) rfl
  obtain ⟨hk, hid⟩ := lhas_yes hl
  have elf : lfnd L id = (lplc L id : Nat) := by rw [lfnd, if_pos hl]
  have ER2 : Hid (R = lotH (L, T, tk) (lplc L id) (L.getD (lplc L id) default) (4, id, ow, ma, va, ra, nw)) := by show _ = _; rw [unhide ER, doH, if_neg (by rw [hgood]; simp)]; unfold actH; rw [if_neg e1, if_neg (by rw [hl]; simp)]
  rw [elf]
  have hLk := (unhide HH0).lots (lplc L id) hk
  dsimp only at hLk
  generalize lplc L id = k at *
  obtain ⟨ao', cap', eao, -, -, hcl⟩ := (unhide HV).1
  dsimp only at eao hcl
  simp only [Value.slice.injEq] at eao
  obtain ⟨rfl, -, rfl⟩ := eao
  obtain ⟨bb, o, xi, xo, xm, xv, xr, xs, xb, rfl, hq0, hq1, hq2, hq3, hq4, hq5, hq6, HX⟩ := recLotAt hcl hk
  rw [unhide HX] at ER2 hLk hst
  have HST := hide hst
  clear hst
  obtain ⟨ho, hoe⟩ := own_lt hLk
  dsimp only at ho hoe
  have htr := (unhide HH0).trs xo.toNat ho
  dsimp only at htr
  rw [hoe] at htr
  obtain ⟨j, ej⟩ : ∃ j : Nat, j = xo.toNat := ⟨_, rfl⟩
  have hxo : xo = (j : Int) := by omega
  rw [← ej] at ho htr
  subst hxo
  obtain ⟨fo', fcap', efo, -, -, hct⟩ := (unhide HV).2
  dsimp only at efo hct
  simp only [Value.slice.injEq] at efo
  obtain ⟨rfl, -, rfl⟩ := efo
  obtain ⟨bb2, o2', mo, bn, bd, rfl, ht0, ht1, ht2, HT⟩ := recTrAt hct ho
  rw [unhide HT] at htr
  obtain ⟨hTO, hbd⟩ := htr
  have hdu := dut_bd xm xv xr
  have hdb := hLk.1
  have hxb := hLk.2.2.2.2
  have hbo := lot_bond hLk
  have htk := (unhide HH0).tk
  have hst0 := hLk.2.2.2.1
  have hmx := dut_parts hLk.1
  dsimp only at hdb hxb hbo htk hst0 hmx
  have HXQ := hide hxb
  have HBD := hide hbd
  clear hxb hbd
  obtain ⟨tt1, tt2, tt3⟩ := hTO
  dsimp only at tt1 tt2 tt3
  have hki : (k : Int) < L.length := by omega
  have hji : (j : Int) < T.length := by omega
  have g0 := wcell3 hq0 (unhide HS).below
  have g1' := wcell3 hq1 (unhide HS).below
  have g2' := wcell3 hq2 (unhide HS).below
  have g3' := wcell3 hq3 (unhide HS).below
  have g4' := wcell3 hq4 (unhide HS).below
  have g5' := wcell3 hq5 (unhide HS).below
  have g6' := wcell3 hq6 (unhide HS).below
  have AX := Below.alloc1 V4 (.cells #[.int .i64 xi, .int .i64 (j : Int), .int .i64 xm, .int .i64 xv, .int .i64 xr, .int .i64 xs, .int .i64 xb] 39)
  have HXB := hide (ownV_alloc V4 #[.int .i64 xi, .int .i64 (j : Int), .int .i64 xm, .int .i64 xv, .int .i64 xr, .int .i64 xs, .int .i64 xb] 39)
  have hltB := (unhide HS).box.lt
  have hlt1 := (unhide HS).lots.lt
  have hlt2 := (unhide HS).trs.lt
  have hltr := (unhide HS).res.lt
  replace HS := hide ((unhide HS).step AX)
  clear hq0 hq1 hq2 hq3 hq4 hq5 hq6 hcl hct elf hid hl ej hoe hLk AX
  go_upto_region 12 with (fail)
  obtain ⟨V5, eV⟩ : ∃ V, V = V4.alloc (.cells #[.int .i64 xi, .int .i64 (j : Int), .int .i64 xm, .int .i64 xv, .int .i64 xr, .int .i64 xs, .int .i64 xb] 39) := ⟨_, rfl⟩
  rw [← eV] at HS HXB ⊢
  clear eV g0 g1' g2' g3' g4' g5' g6'
  obtain ⟨gx, egx⟩ : ∃ g, g = V4.heap.size := ⟨_, rfl⟩
  rw [← egx] at HXB ⊢
  have hgx : w.heap.size + 1 + 1 < gx ∧ gx ≠ G ∧ gx ≠ g1 ∧ gx ≠ g2 := ⟨by omega, by omega, by omega, by omega⟩
  clear egx hltB hlt1 hlt2 hltr
  clear a0 a1 a2 o0 o1 o2 o3 o4 o5 o6
  have a0 := (unhide HS).arg.cell (i := 0) rfl
  have a1 := (unhide HS).arg.cell (i := 1) rfl
  have a2 := (unhide HS).arg.cell (i := 2) rfl
  have o0 := (unhide HS).op.cell (i := 0) rfl
  have o1 := (unhide HS).op.cell (i := 1) rfl
  have o2 := (unhide HS).op.cell (i := 2) rfl
  have o3 := (unhide HS).op.cell (i := 3) rfl
  have o4 := (unhide HS).op.cell (i := 4) rfl
  have o5 := (unhide HS).op.cell (i := 5) rfl
  have o6 := (unhide HS).op.cell (i := 6) rfl
  have x0 := (unhide HXB).cell (i := 0) rfl
  have x1 := (unhide HXB).cell (i := 1) rfl
  have x2 := (unhide HXB).cell (i := 2) rfl
  have x3 := (unhide HXB).cell (i := 3) rfl
  have x4 := (unhide HXB).cell (i := 4) rfl
  have x5 := (unhide HXB).cell (i := 5) rfl
  have x6 := (unhide HXB).cell (i := 6) rfl
  have QS := hide fun V => l16From_any 4 V
  have hxs : xs = 1 := unhide HST
  subst hxs
  clear HST e1
  have ER3 : Hid (R = movH (L, T, tk) k (xi, (j : Int), xm, xv, xr, 1, xb) (4, id, ow, ma, va, ra, nw)) := unhide ER2
  have ER4 : Hid (R = match setV (xi, (j : Int), xm, xv, xr, 1, xb) (mo, bn, bd) tk 4 with | none => ((L, T, tk), 5) | some (b, t, tk') => ((L.set k (putL (xi, (j : Int), xm, xv, xr, 1, xb) b (leftS 4)), T.set j t, tk'), 0)) := by
    show _ = _
    rw [unhide ER3]
    unfold movH
    dsimp only
    rw [show ((j : Int)).toNat = j from rfl, unhide HT]
    cases setV (xi, (j : Int), xm, xv, xr, 1, xb) (mo, bn, bd) tk 4 <;> rfl
  have ESV : Hid (setV (xi, (j : Int), xm, xv, xr, 1, xb) (mo, bn, bd) tk 4 = if mo < dutV xm xv xr ∨ 1000000000000000 < tk + dutV xm xv xr then none else some (xb, (mo - dutV xm xv xr, bn, bd), tk + dutV xm xv xr)) := by show _ = _; rfl
  have dst : ((1 : Int) != wantS 4) = false := rfl
  have d8 : ((4 : Int) == 8) = false := rfl
  clear ER2 ER3
  refine wp_region_quiet_lit (by kernel_rfl) (by kernel_rfl) ?_
  repeat (go_big_quiet_step (fail))
  go_big_quiet_want
  go_big_quiet_op
  go_big_quiet_call (exact Calls.quiet_of_same (unhide QS _))
  repeat (go_big_quiet_step (fail))
  refine wpQuiet_nil ?_
  intro _ hw'
  obtain ⟨nq, hw''⟩ := hw'
  subst hw''
  replace HS := hide ((unhide HS).step (below_drewN (Below.refl _ _) nq))
  replace HXB := hide ((unhide HXB).step (below_drewN (Below.refl _ _) nq))
  clear a0 a1 a2 o0 o1 o2 o3 o4 o5 o6
  clear x0 x1 x2 x3 x4 x5 x6
  generalize V5.drewN nq = V6 at *
  have QD := hide fun V => specDuty6_any xm xv xr V
  rw [hdb] at QD
  obtain ⟨du, edu⟩ : ∃ z, z = dutV xm xv xr := ⟨_, rfl⟩
  rw [← edu] at QD hdu
  try rw [← edu] at ESV
  have EDU := hide edu
  clear edu
  have x0 := (unhide HXB).cell (i := 0) rfl
  have x1 := (unhide HXB).cell (i := 1) rfl
  have x2 := (unhide HXB).cell (i := 2) rfl
  have x3 := (unhide HXB).cell (i := 3) rfl
  have x4 := (unhide HXB).cell (i := 4) rfl
  have x5 := (unhide HXB).cell (i := 5) rfl
  have x6 := (unhide HXB).cell (i := 6) rfl
  have a0 := (unhide HS).arg.cell (i := 0) rfl
  have a1 := (unhide HS).arg.cell (i := 1) rfl
  have a2 := (unhide HS).arg.cell (i := 2) rfl
  have o0 := (unhide HS).op.cell (i := 0) rfl
  have o1 := (unhide HS).op.cell (i := 1) rfl
  have o2 := (unhide HS).op.cell (i := 2) rfl
  have o3 := (unhide HS).op.cell (i := 3) rfl
  have o4 := (unhide HS).op.cell (i := 4) rfl
  have o5 := (unhide HS).op.cell (i := 5) rfl
  have o6 := (unhide HS).op.cell (i := 6) rfl
  have t0 := wcell3 ht0 (unhide HS).below
  have t1 := wcell3 ht1 (unhide HS).below
  have t2 := wcell3 ht2 (unhide HS).below
  have AT := Below.alloc1 V6 (.cells #[.int .i64 mo, .int .i64 bn, .int .i64 bd] 37)
  have HTB := hide (ownV_alloc V6 #[.int .i64 mo, .int .i64 bn, .int .i64 bd] 37)
  have hltx := (unhide HXB).lt
  have hltB := (unhide HS).box.lt
  have hlt1 := (unhide HS).lots.lt
  have hlt2 := (unhide HS).trs.lt
  go_upto_region 16 with (go_at_call 18; refine (unhide QD _).mono ?_; rintro e w9 ⟨rfl, h9⟩; have h8 := h9.symm; subst h8; clear h9)
  replace HS := hide ((unhide HS).step AT)
  replace HXB := hide ((unhide HXB).step AT)
  obtain ⟨V7, eV⟩ : ∃ V, V = V6.alloc (.cells #[.int .i64 mo, .int .i64 bn, .int .i64 bd] 37) := ⟨_, rfl⟩
  rw [← eV] at HS HXB HTB ⊢
  clear eV t0 t1 t2 AT QD x0 x1 x2 x3 x4 x5 x6
  clear a0 a1 a2 o0 o1 o2 o3 o4 o5 o6
  obtain ⟨gt, egt⟩ : ∃ g, g = V6.heap.size := ⟨_, rfl⟩
  rw [← egt] at HTB ⊢
  have hgt : w.heap.size + 1 + 1 < gt ∧ gt ≠ G ∧ gt ≠ g1 ∧ gt ≠ g2 := ⟨by omega, by omega, by omega, by omega⟩
  have hgtx : ¬ gt = gx := by omega
  have hgxt : ¬ gx = gt := by omega
  have hGx : ¬ G = gx := by have := hgx.2.1; omega
  have hGt : ¬ G = gt := by have := hgt.2.1; omega
  clear egt hltx hltB hlt1 hlt2
  have a0 := (unhide HS).arg.cell (i := 0) rfl
  have a1 := (unhide HS).arg.cell (i := 1) rfl
  have a2 := (unhide HS).arg.cell (i := 2) rfl
  have o0 := (unhide HS).op.cell (i := 0) rfl
  have o1 := (unhide HS).op.cell (i := 1) rfl
  have o2 := (unhide HS).op.cell (i := 2) rfl
  have o3 := (unhide HS).op.cell (i := 3) rfl
  have o4 := (unhide HS).op.cell (i := 4) rfl
  have o5 := (unhide HS).op.cell (i := 5) rfl
  have o6 := (unhide HS).op.cell (i := 6) rfl
  have b0 := (unhide HS).box.cell (i := 0) rfl
  have b1 := (unhide HS).box.cell (i := 1) rfl
  have b2 := (unhide HS).box.cell (i := 2) rfl
  have bf := (unhide HS).box.frozen
  have x0 := (unhide HXB).cell (i := 0) rfl
  have x1 := (unhide HXB).cell (i := 1) rfl
  have x2 := (unhide HXB).cell (i := 2) rfl
  have x3 := (unhide HXB).cell (i := 3) rfl
  have x4 := (unhide HXB).cell (i := 4) rfl
  have x5 := (unhide HXB).cell (i := 5) rfl
  have x6 := (unhide HXB).cell (i := 6) rfl
  have xf := (unhide HXB).frozen
  have t0 := (unhide HTB).cell (i := 0) rfl
  have t1 := (unhide HTB).cell (i := 1) rfl
  have t2 := (unhide HTB).cell (i := 2) rfl
  have tf := (unhide HTB).frozen
  have e1 : IntKind.i64.wrap (tk + du) = tk + du := by rw [IntKind.wrap_i64]; omega
  have e2 : IntKind.i64.wrap (mo - du) = mo - du := by rw [IntKind.wrap_i64]; omega
  by_cases hm : mo < du ∨ 1000000000000000 < tk + du
  · have EF : Hid (R = ((L, T, tk), 5)) := by show _ = _; rw [unhide ER4, unhide ESV, if_pos hm]
    by_cases hm1 : mo < du
    · have dm1 : decide (mo < du) = true := by simpa using hm1
      clear hm hm1
      have b0 := (unhide HS).box.cell (i := 0) rfl
      have b1 := (unhide HS).box.cell (i := 1) rfl
      have b2 := (unhide HS).box.cell (i := 2) rfl
      have r0 := (unhide HS).res.cell (i := 0) rfl
      have r1 := (unhide HS).res.cell (i := 1) rfl
      have r2 := (unhide HS).res.cell (i := 2) rfl
      have rf := (unhide HS).res.frozen
      have HF := hide (res_fin (c1 := c1) (c2 := c2) (tk := tk) (unhide HS).below (unhide HS).res (unhide HS).lots (unhide HS).trs hap.2.1 hap.2.2.1 rfl rfl hc1 hc2)
      dsimp only at HF
      have hnG : ¬ G = w.heap.size + 1 + 1 := by omega
      go_wp2
      have k0 := (unhide HF).1.cell (i := 0) rfl
      have k1 := (unhide HF).1.cell (i := 1) rfl
      have k2 := (unhide HF).1.cell (i := 2) rfl
      refine bodyPost_ret (v := .tuple #[vHouse (.slice (some ⟨g1, 0, none⟩) L.length c1) (.slice (some ⟨g2, 0, none⟩) T.length c2) (tk), .int .i64 5]) (by simp [results, Try.results23, go_sem, vHouse, k0, k1, k2]) rfl ?_
      exact spA_mk (unhide EF) (unhide HF).2.1 (unhide HF).2.2
    · have dm1 : decide (mo < du) = false := by simpa using hm1
      have dm2 : decide (1000000000000000 < tk + du) = true := by rw [decide_eq_true_eq]; omega
      clear hm hm1
      have b0 := (unhide HS).box.cell (i := 0) rfl
      have b1 := (unhide HS).box.cell (i := 1) rfl
      have b2 := (unhide HS).box.cell (i := 2) rfl
      have r0 := (unhide HS).res.cell (i := 0) rfl
      have r1 := (unhide HS).res.cell (i := 1) rfl
      have r2 := (unhide HS).res.cell (i := 2) rfl
      have rf := (unhide HS).res.frozen
      have HF := hide (res_fin (c1 := c1) (c2 := c2) (tk := tk) (unhide HS).below (unhide HS).res (unhide HS).lots (unhide HS).trs hap.2.1 hap.2.2.1 rfl rfl hc1 hc2)
      dsimp only at HF
      have hnG : ¬ G = w.heap.size + 1 + 1 := by omega
      go_wp2
      have k0 := (unhide HF).1.cell (i := 0) rfl
      have k1 := (unhide HF).1.cell (i := 1) rfl
      have k2 := (unhide HF).1.cell (i := 2) rfl
      refine bodyPost_ret (v := .tuple #[vHouse (.slice (some ⟨g1, 0, none⟩) L.length c1) (.slice (some ⟨g2, 0, none⟩) T.length c2) (tk), .int .i64 5]) (by simp [results, Try.results23, go_sem, vHouse, k0, k1, k2]) rfl ?_
      exact spA_mk (unhide EF) (unhide HF).2.1 (unhide HF).2.2
  have dm1 : decide (mo < du) = false := by rw [decide_eq_false_iff_not]; omega
  have dm2 : decide (1000000000000000 < tk + du) = false := by rw [decide_eq_false_iff_not]; omega
  have HM := hide hm
  clear hm
  have EF : Hid (R = ((L.set k (xi, (j : Int), xm, xv, xr, 4, xb), T.set j (mo - du, bn, bd), tk + du), 0)) := by show _ = _; rw [unhide ER4, unhide ESV]; rw [if_neg (unhide HM)]; rfl
  have HS8 := hide (((unhide HS).far hgt 0 (.int .i64 (mo - du))).setBox 2 (.int .i64 (tk + du)) (by simp)).far hgx 5 (.int .i64 4)
  have HX8 := hide ((((unhide HXB).other (a := ⟨gt, 0, none⟩) hgxt (.int .i64 (mo - du))).other (a := ⟨G, 2, none⟩) hgx.2.1 (.int .i64 (tk + du))).set 5 (.int .i64 4) (by simp))
  have HT8 := hide ((((unhide HTB).set 0 (.int .i64 (mo - du)) (by simp)).other (a := ⟨G, 2, none⟩) hgt.2.1 (.int .i64 (tk + du))).other (a := ⟨gx, 5, none⟩) hgtx (.int .i64 4))
  go_upto_region 45 with (fail)
  obtain ⟨V8, eV⟩ : ∃ V, V = (((V7.setCell ⟨gt, 0, none⟩ (.int .i64 (mo - du))).setCell ⟨G, 2, none⟩ (.int .i64 (tk + du))).setCell ⟨gx, 5, none⟩ (.int .i64 4)) := ⟨_, rfl⟩
  rw [← eV] at HS8 HX8 HT8 ⊢
  dsimp only [List.set] at HS8 HX8 HT8
  clear eV HS HXB HTB b0 b1 b2 bf x0 x1 x2 x3 x4 x5 x6 xf t0 t1 t2 tf
  clear a0 a1 a2 o0 o1 o2 o3 o4 o5 o6
  have HS := HS8
  clear HS8
  have b0 := (unhide HS).box.cell (i := 0) rfl
  have b1 := (unhide HS).box.cell (i := 1) rfl
  have b2 := (unhide HS).box.cell (i := 2) rfl
  have x0 := (unhide HX8).cell (i := 0) rfl
  have x1 := (unhide HX8).cell (i := 1) rfl
  have x2 := (unhide HX8).cell (i := 2) rfl
  have x3 := (unhide HX8).cell (i := 3) rfl
  have x4 := (unhide HX8).cell (i := 4) rfl
  have x5 := (unhide HX8).cell (i := 5) rfl
  have x6 := (unhide HX8).cell (i := 6) rfl
  have c0 := (unhide HS).lots.cell (recCells_get (n := 7) (enc := eLot) (L := L) (i := k) (j := 0) hk (by omega))
  have c1' := (unhide HS).lots.cell (recCells_get (n := 7) (enc := eLot) (L := L) (i := k) (j := 1) hk (by omega))
  have c2' := (unhide HS).lots.cell (recCells_get (n := 7) (enc := eLot) (L := L) (i := k) (j := 2) hk (by omega))
  have c3 := (unhide HS).lots.cell (recCells_get (n := 7) (enc := eLot) (L := L) (i := k) (j := 3) hk (by omega))
  have c4 := (unhide HS).lots.cell (recCells_get (n := 7) (enc := eLot) (L := L) (i := k) (j := 4) hk (by omega))
  have c5 := (unhide HS).lots.cell (recCells_get (n := 7) (enc := eLot) (L := L) (i := k) (j := 5) hk (by omega))
  have c6 := (unhide HS).lots.cell (recCells_get (n := 7) (enc := eLot) (L := L) (i := k) (j := 6) hk (by omega))
  rw [Nat.add_zero] at c0
  rw [unhide HX] at c0 c1' c2' c3 c4 c5 c6
  dsimp only [eLot] at c0 c1' c2' c3 c4 c5 c6
  have cf := (unhide HS).lots.frozen
  have q7 := keptS7 V8 g1 (k * 7) (.int .i64 (xi)) (.int .i64 ((j : Int))) (.int .i64 (xm)) (.int .i64 (xv)) (.int .i64 (xr)) (.int .i64 (4)) (.int .i64 (xb))
  have HS9 := hide ((unhide HS).setLot hk (xi) ((j : Int)) (xm) (xv) (xr) (4) (xb))
  have HX9 := hide ((unhide HX8).kept q7 hgx.2.2.1)
  have HT9 := hide ((unhide HT8).kept q7 hgt.2.2.1)
  clear q7
  go_upto_region 46 with (fail)
  obtain ⟨V9, eV⟩ : ∃ V, V = (((((((V8.setCell ⟨g1, k * 7, none⟩ (.int .i64 (xi))).setCell ⟨g1, k * 7 + 1, none⟩ (.int .i64 ((j : Int)))).setCell ⟨g1, k * 7 + 2, none⟩ (.int .i64 (xm))).setCell ⟨g1, k * 7 + 3, none⟩ (.int .i64 (xv))).setCell ⟨g1, k * 7 + 4, none⟩ (.int .i64 (xr))).setCell ⟨g1, k * 7 + 5, none⟩ (.int .i64 (4))).setCell ⟨g1, k * 7 + 6, none⟩ (.int .i64 (xb))) := ⟨_, rfl⟩
  rw [← eV] at HS9 HX9 HT9 ⊢
  clear eV HS HX8 HT8 b0 b1 b2 x0 x1 x2 x3 x4 x5 x6 c0 c1' c2' c3 c4 c5 c6 cf
  have HS := HS9
  clear HS9
  have b1 := (unhide HS).box.cell (i := 1) rfl
  have x1 := (unhide HX9).cell (i := 1) rfl
  have t0 := (unhide HT9).cell (i := 0) rfl
  have t1 := (unhide HT9).cell (i := 1) rfl
  have t2 := (unhide HT9).cell (i := 2) rfl
  have c0 := (unhide HS).trs.cell (recCells_get (n := 3) (enc := eTrader) (L := T) (i := j) (j := 0) ho (by omega))
  have c1' := (unhide HS).trs.cell (recCells_get (n := 3) (enc := eTrader) (L := T) (i := j) (j := 1) ho (by omega))
  have c2' := (unhide HS).trs.cell (recCells_get (n := 3) (enc := eTrader) (L := T) (i := j) (j := 2) ho (by omega))
  rw [Nat.add_zero] at c0
  rw [unhide HT] at c0 c1' c2'
  dsimp only [eTrader] at c0 c1' c2'
  have cf := (unhide HS).trs.frozen
  have HS9 := hide ((unhide HS).setTr ho (mo - du) (bn) (bd))
  go_upto_region 47 with (fail)
  obtain ⟨VA, eV⟩ : ∃ V, V = (((V9.setCell ⟨g2, j * 3, none⟩ (.int .i64 (mo - du))).setCell ⟨g2, j * 3 + 1, none⟩ (.int .i64 (bn))).setCell ⟨g2, j * 3 + 2, none⟩ (.int .i64 (bd))) := ⟨_, rfl⟩
  rw [← eV] at HS9 ⊢
  clear eV HS HX9 HT9 b1 x1 t0 t1 t2 c0 c1' c2' cf
  have HS := HS9
  clear HS9
  have b0 := (unhide HS).box.cell (i := 0) rfl
  have b1 := (unhide HS).box.cell (i := 1) rfl
  have b2 := (unhide HS).box.cell (i := 2) rfl
  have r0 := (unhide HS).res.cell (i := 0) rfl
  have r1 := (unhide HS).res.cell (i := 1) rfl
  have r2 := (unhide HS).res.cell (i := 2) rfl
  have rf := (unhide HS).res.frozen
  have HF := hide (res_fin (c1 := c1) (c2 := c2) (tk := tk + du) (unhide HS).below (unhide HS).res (unhide HS).lots (unhide HS).trs hap.2.1 hap.2.2.1 (by rw [List.length_set]) (by rw [List.length_set]) hc1 hc2)
  dsimp only at HF
  have hnG : ¬ G = w.heap.size + 1 + 1 := by omega
  go_wp2
  have k0 := (unhide HF).1.cell (i := 0) rfl
  have k1 := (unhide HF).1.cell (i := 1) rfl
  have k2 := (unhide HF).1.cell (i := 2) rfl
  refine bodyPost_ret (v := .tuple #[vHouse (.slice (some ⟨g1, 0, none⟩) L.length c1) (.slice (some ⟨g2, 0, none⟩) T.length c2) (tk + du), .int .i64 0]) (by simp [results, Try.results23, go_sem, vHouse, k0, k1, k2]) rfl ?_
  exact spA_mk (unhide EF) (unhide HF).2.1 (unhide HF).2.2

end Go.Proofs.Ytojlkdmlelgcbaa

/- Customs: the specification's DoDeed: kind 5. Written by wip/mkcsv.py. -/
namespace Go.Proofs.Ytojlkdmlelgcbaa
open Go.RowKit

set_option maxRecDepth 1000000 in
set_option maxHeartbeats 25600000 in
theorem specTransit_any (lv tv : Value) (L : List LotT) (T : List TraderT) (tk id ow ma va ra nw : Int) (w : World) (h : HsIn w lv tv (L, T, tk)) (hs : L.length ≤ 1048576) (hT : T.length ≤ 1048576) (hgood : (houseB (L, T, tk) && deedB T.length (5, id, ow, ma, va, ra, nw)) = true) (hl : lhas L id = true) (hst : (L.getD (lplc L id) default).2.2.2.2.2.1 = wantS 5) :
    Calls Try.prog 23 #[vHouse lv tv tk, vDeed 5 id ow ma va ra nw] w fun e w' => SpA w (doH (L, T, tk) (5, id, ow, ma, va, ra, nw)) e w' := by
  have e1 : (5 : Int) ≠ 1 := by omega
  have HV := hide h
  obtain ⟨h1, h2⟩ := h
  obtain ⟨ao, lcap, rfl, -⟩ := h1
  obtain ⟨fo, fcap, rfl, -⟩ := h2
  dsimp only at HV
  have QC := hide fun V (hV : Below w.heap.size w V) => l16Copy_any _ _ L T tk V ((unhide HV).below hV) hs hT
  have QB := hide fun V (hV : Below w.heap.size w V) => l16Bad_any _ _ L T tk 5 id ow ma va ra nw V ((unhide HV).below hV) hT
  obtain ⟨R, eR⟩ : ∃ r, r = doH (L, T, tk) (5, id, ow, ma, va, ra, nw) := ⟨_, rfl⟩
  rw [← eR]
  have ER := hide eR
  clear eR
  have H3 := hide (s3_new w #[.slice ao L.length lcap, .slice fo T.length fcap, .int .i64 tk] #[.int .i64 5, .int .i64 id, .int .i64 ow, .int .i64 ma, .int .i64 va, .int .i64 ra, .int .i64 nw] #[.slice none 0 0, .slice none 0 0, .int .i64 0] 27 34 27)
  obtain ⟨V0, eV0⟩ : ∃ V, V = ((w.alloc (.cells #[.slice ao L.length lcap, .slice fo T.length fcap, .int .i64 tk] 27)).alloc (.cells #[.int .i64 5, .int .i64 id, .int .i64 ow, .int .i64 ma, .int .i64 va, .int .i64 ra, .int .i64 nw] 34)).alloc (.cells #[.slice none 0 0, .slice none 0 0, .int .i64 0] 27) := ⟨_, rfl⟩
  rw [← eV0] at H3
  have hV0 := (unhide H3).o3.lt
  unfold vHouse at QB ⊢
  unfold CpA vHouse at QC
  unfold vDeed at QB ⊢
  go_enter Try.func23, Try.ntmps23
  go_upto_region 1 with (fail)
  rw [← eV0]
  clear eV0
  have a0 := (unhide H3).o1.cell (i := 0) rfl
  have a1 := (unhide H3).o1.cell (i := 1) rfl
  have a2 := (unhide H3).o1.cell (i := 2) rfl
  go_wp2_with fail
  refine (unhide QC _ (unhide H3).below).mono ?_
  rintro e V1 ⟨g1, c1, g2, c2, rfl, hl1, ht1, hc1, hc2, hg1, hg2, hg12, hb⟩
  have A1 := Below.alloc1 V1 (.cells #[.slice (some ⟨g1, 0, none⟩) L.length c1, .slice (some ⟨g2, 0, none⟩) T.length c2, .int .i64 tk] 27)
  have h3 := (unhide H3).step hb
  have hsz := hb.size
  have hl1l := hl1.lt
  have ht1l := ht1.lt
  have HS : Hid (Sp w (V1.alloc (.cells #[.slice (some ⟨g1, 0, none⟩) L.length c1, .slice (some ⟨g2, 0, none⟩) T.length c2, .int .i64 tk] 27)) [.slice ao L.length lcap, .slice fo T.length fcap, .int .i64 tk] [.int .i64 5, .int .i64 id, .int .i64 ow, .int .i64 ma, .int .i64 va, .int .i64 ra, .int .i64 nw] V1.heap.size g1 g2 [.slice (some ⟨g1, 0, none⟩) L.length c1, .slice (some ⟨g2, 0, none⟩) T.length c2, .int .i64 tk] L T) := ⟨Below.step h3.below A1, h3.o1.step A1, h3.o2.step A1, h3.o3.step A1, ownV_alloc V1 #[.slice (some ⟨g1, 0, none⟩) L.length c1, .slice (some ⟨g2, 0, none⟩) T.length c2, .int .i64 tk] 27, hl1.step A1, ht1.step A1, by omega, by omega, by omega, by omega, by omega, by omega⟩
  clear hb h3 hl1 ht1 H3 QC a0 a1 a2 A1
  go_upto_region 2 with (fail)
  obtain ⟨V2, eV2⟩ : ∃ V, V = V1.alloc (.cells #[.slice (some ⟨g1, 0, none⟩) L.length c1, .slice (some ⟨g2, 0, none⟩) T.length c2, .int .i64 tk] 27) := ⟨_, rfl⟩
  rw [← eV2] at HS ⊢
  clear eV2
  obtain ⟨G, eG⟩ : ∃ g, g = V1.heap.size := ⟨_, rfl⟩
  rw [← eG] at HS ⊢
  clear eG hl1l ht1l hsz
  have hap := (unhide HS).ap
  have a0 := (unhide HS).arg.cell (i := 0) rfl
  have a1 := (unhide HS).arg.cell (i := 1) rfl
  have a2 := (unhide HS).arg.cell (i := 2) rfl
  have o0 := (unhide HS).op.cell (i := 0) rfl
  have o1 := (unhide HS).op.cell (i := 1) rfl
  have o2 := (unhide HS).op.cell (i := 2) rfl
  have o3 := (unhide HS).op.cell (i := 3) rfl
  have o4 := (unhide HS).op.cell (i := 4) rfl
  have o5 := (unhide HS).op.cell (i := 5) rfl
  have o6 := (unhide HS).op.cell (i := 6) rfl
  go_wp2_with fail
  refine (unhide QB _ (unhide HS).below).mono ?_
  rintro e V3 ⟨rfl, hb⟩
  replace HS := hide ((unhide HS).step hb)
  clear hb QB a0 a1 a2 o0 o1 o2 o3 o4 o5 o6
  have HH0 : Hid (HOk (L, T, tk)) := (houseB_iff _).1 (by have := hgood; rw [Bool.and_eq_true] at this; exact this.1)
  have HA := hide (unhide HH0).asc
  dsimp only at HA
  rw [hgood]
  have QF := hide fun V i (hV : Below w.heap.size w V) => l16Find_any _ _ L T tk i V ((unhide HV).below hV) (unhide HA)
  unfold vHouse at QF
  have a0 := (unhide HS).arg.cell (i := 0) rfl
  have a1 := (unhide HS).arg.cell (i := 1) rfl
  have a2 := (unhide HS).arg.cell (i := 2) rfl
  have o0 := (unhide HS).op.cell (i := 0) rfl
  have o1 := (unhide HS).op.cell (i := 1) rfl
  have o2 := (unhide HS).op.cell (i := 2) rfl
  have o3 := (unhide HS).op.cell (i := 3) rfl
  have o4 := (unhide HS).op.cell (i := 4) rfl
  have o5 := (unhide HS).op.cell (i := 5) rfl
  have o6 := (unhide HS).op.cell (i := 6) rfl
  go_wp2_with fail
  refine (unhide QF _ id (unhide HS).below).mono ?_
  rintro e V4 ⟨rfl, hb⟩
  replace HS := hide ((unhide HS).step hb)
  clear hb a0 a1 a2 o0 o1 o2 o3 o4 o5 o6
  have a0 := (unhide HS).arg.cell (i := 0) rfl
  have a1 := (unhide HS).arg.cell (i := 1) rfl
  have a2 := (unhide HS).arg.cell (i := 2) rfl
  have o0 := (unhide HS).op.cell (i := 0) rfl
  have o1 := (unhide HS).op.cell (i := 1) rfl
  have o2 := (unhide HS).op.cell (i := 2) rfl
  have o3 := (unhide HS).op.cell (i := 3) rfl
  have o4 := (unhide HS).op.cell (i := 4) rfl
  have o5 := (unhide HS).op.cell (i := 5) rfl
  have o6 := (unhide HS).op.cell (i := 6) rfl
  obtain ⟨hk, hid⟩ := lhas_yes hl
  have elf : lfnd L id = (lplc L id : Nat) := by rw [lfnd, if_pos hl]
  have ER2 : Hid (R = lotH (L, T, tk) (lplc L id) (L.getD (lplc L id) default) (5, id, ow, ma, va, ra, nw)) := by show _ = _; rw [unhide ER, doH, if_neg (by rw [hgood]; simp)]; unfold actH; rw [if_neg e1, if_neg (by rw [hl]; simp)]
  rw [elf]
  have hLk := (unhide HH0).lots (lplc L id) hk
  dsimp only at hLk
  generalize lplc L id = k at *
  obtain ⟨ao', cap', eao, -, -, hcl⟩ := (unhide HV).1
  dsimp only at eao hcl
  simp only [Value.slice.injEq] at eao
  obtain ⟨rfl, -, rfl⟩ := eao
  obtain ⟨bb, o, xi, xo, xm, xv, xr, xs, xb, rfl, hq0, hq1, hq2, hq3, hq4, hq5, hq6, HX⟩ := recLotAt hcl hk
  rw [unhide HX] at ER2 hLk hst
  have HST := hide hst
  clear hst
  obtain ⟨ho, hoe⟩ := own_lt hLk
  dsimp only at ho hoe
  have htr := (unhide HH0).trs xo.toNat ho
  dsimp only at htr
  rw [hoe] at htr
  obtain ⟨j, ej⟩ : ∃ j : Nat, j = xo.toNat := ⟨_, rfl⟩
  have hxo : xo = (j : Int) := by omega
  rw [← ej] at ho htr
  subst hxo
  obtain ⟨fo', fcap', efo, -, -, hct⟩ := (unhide HV).2
  dsimp only at efo hct
  simp only [Value.slice.injEq] at efo
  obtain ⟨rfl, -, rfl⟩ := efo
  obtain ⟨bb2, o2', mo, bn, bd, rfl, ht0, ht1, ht2, HT⟩ := recTrAt hct ho
  rw [unhide HT] at htr
  obtain ⟨hTO, hbd⟩ := htr
  have hdu := dut_bd xm xv xr
  have hdb := hLk.1
  have hxb := hLk.2.2.2.2
  have hbo := lot_bond hLk
  have htk := (unhide HH0).tk
  have hst0 := hLk.2.2.2.1
  have hmx := dut_parts hLk.1
  dsimp only at hdb hxb hbo htk hst0 hmx
  have HXQ := hide hxb
  have HBD := hide hbd
  clear hxb hbd
  obtain ⟨tt1, tt2, tt3⟩ := hTO
  dsimp only at tt1 tt2 tt3
  have hki : (k : Int) < L.length := by omega
  have hji : (j : Int) < T.length := by omega
  have g0 := wcell3 hq0 (unhide HS).below
  have g1' := wcell3 hq1 (unhide HS).below
  have g2' := wcell3 hq2 (unhide HS).below
  have g3' := wcell3 hq3 (unhide HS).below
  have g4' := wcell3 hq4 (unhide HS).below
  have g5' := wcell3 hq5 (unhide HS).below
  have g6' := wcell3 hq6 (unhide HS).below
  have AX := Below.alloc1 V4 (.cells #[.int .i64 xi, .int .i64 (j : Int), .int .i64 xm, .int .i64 xv, .int .i64 xr, .int .i64 xs, .int .i64 xb] 39)
  have HXB := hide (ownV_alloc V4 #[.int .i64 xi, .int .i64 (j : Int), .int .i64 xm, .int .i64 xv, .int .i64 xr, .int .i64 xs, .int .i64 xb] 39)
  have hltB := (unhide HS).box.lt
  have hlt1 := (unhide HS).lots.lt
  have hlt2 := (unhide HS).trs.lt
  have hltr := (unhide HS).res.lt
  replace HS := hide ((unhide HS).step AX)
  clear hq0 hq1 hq2 hq3 hq4 hq5 hq6 hcl hct elf hid hl ej hoe hLk AX
  go_upto_region 12 with (fail)
  obtain ⟨V5, eV⟩ : ∃ V, V = V4.alloc (.cells #[.int .i64 xi, .int .i64 (j : Int), .int .i64 xm, .int .i64 xv, .int .i64 xr, .int .i64 xs, .int .i64 xb] 39) := ⟨_, rfl⟩
  rw [← eV] at HS HXB ⊢
  clear eV g0 g1' g2' g3' g4' g5' g6'
  obtain ⟨gx, egx⟩ : ∃ g, g = V4.heap.size := ⟨_, rfl⟩
  rw [← egx] at HXB ⊢
  have hgx : w.heap.size + 1 + 1 < gx ∧ gx ≠ G ∧ gx ≠ g1 ∧ gx ≠ g2 := ⟨by omega, by omega, by omega, by omega⟩
  clear egx hltB hlt1 hlt2 hltr
  clear a0 a1 a2 o0 o1 o2 o3 o4 o5 o6
  have a0 := (unhide HS).arg.cell (i := 0) rfl
  have a1 := (unhide HS).arg.cell (i := 1) rfl
  have a2 := (unhide HS).arg.cell (i := 2) rfl
  have o0 := (unhide HS).op.cell (i := 0) rfl
  have o1 := (unhide HS).op.cell (i := 1) rfl
  have o2 := (unhide HS).op.cell (i := 2) rfl
  have o3 := (unhide HS).op.cell (i := 3) rfl
  have o4 := (unhide HS).op.cell (i := 4) rfl
  have o5 := (unhide HS).op.cell (i := 5) rfl
  have o6 := (unhide HS).op.cell (i := 6) rfl
  have x0 := (unhide HXB).cell (i := 0) rfl
  have x1 := (unhide HXB).cell (i := 1) rfl
  have x2 := (unhide HXB).cell (i := 2) rfl
  have x3 := (unhide HXB).cell (i := 3) rfl
  have x4 := (unhide HXB).cell (i := 4) rfl
  have x5 := (unhide HXB).cell (i := 5) rfl
  have x6 := (unhide HXB).cell (i := 6) rfl
  have QS := hide fun V => l16From_any 5 V
  have hxs : xs = 1 := unhide HST
  subst hxs
  clear HST e1
  have ER3 : Hid (R = movH (L, T, tk) k (xi, (j : Int), xm, xv, xr, 1, xb) (5, id, ow, ma, va, ra, nw)) := unhide ER2
  have ER4 : Hid (R = match setV (xi, (j : Int), xm, xv, xr, 1, xb) (mo, bn, bd) tk 5 with | none => ((L, T, tk), 5) | some (b, t, tk') => ((L.set k (putL (xi, (j : Int), xm, xv, xr, 1, xb) b (leftS 5)), T.set j t, tk'), 0)) := by
    show _ = _
    rw [unhide ER3]
    unfold movH
    dsimp only
    rw [show ((j : Int)).toNat = j from rfl, unhide HT]
    cases setV (xi, (j : Int), xm, xv, xr, 1, xb) (mo, bn, bd) tk 5 <;> rfl
  have ESV : Hid (setV (xi, (j : Int), xm, xv, xr, 1, xb) (mo, bn, bd) tk 5 = if bn - bd < dutV xm xv xr then none else some (dutV xm xv xr, (mo, bn, bd + dutV xm xv xr), tk)) := by show _ = _; rfl
  have dst : ((1 : Int) != wantS 5) = false := rfl
  have d8 : ((5 : Int) == 8) = false := rfl
  clear ER2 ER3
  refine wp_region_quiet_lit (by kernel_rfl) (by kernel_rfl) ?_
  repeat (go_big_quiet_step (fail))
  go_big_quiet_want
  go_big_quiet_op
  go_big_quiet_call (exact Calls.quiet_of_same (unhide QS _))
  repeat (go_big_quiet_step (fail))
  refine wpQuiet_nil ?_
  intro _ hw'
  obtain ⟨nq, hw''⟩ := hw'
  subst hw''
  replace HS := hide ((unhide HS).step (below_drewN (Below.refl _ _) nq))
  replace HXB := hide ((unhide HXB).step (below_drewN (Below.refl _ _) nq))
  clear a0 a1 a2 o0 o1 o2 o3 o4 o5 o6
  clear x0 x1 x2 x3 x4 x5 x6
  generalize V5.drewN nq = V6 at *
  have QD := hide fun V => specDuty6_any xm xv xr V
  rw [hdb] at QD
  obtain ⟨du, edu⟩ : ∃ z, z = dutV xm xv xr := ⟨_, rfl⟩
  rw [← edu] at QD hdu
  try rw [← edu] at ESV
  have EDU := hide edu
  clear edu
  have x0 := (unhide HXB).cell (i := 0) rfl
  have x1 := (unhide HXB).cell (i := 1) rfl
  have x2 := (unhide HXB).cell (i := 2) rfl
  have x3 := (unhide HXB).cell (i := 3) rfl
  have x4 := (unhide HXB).cell (i := 4) rfl
  have x5 := (unhide HXB).cell (i := 5) rfl
  have x6 := (unhide HXB).cell (i := 6) rfl
  have a0 := (unhide HS).arg.cell (i := 0) rfl
  have a1 := (unhide HS).arg.cell (i := 1) rfl
  have a2 := (unhide HS).arg.cell (i := 2) rfl
  have o0 := (unhide HS).op.cell (i := 0) rfl
  have o1 := (unhide HS).op.cell (i := 1) rfl
  have o2 := (unhide HS).op.cell (i := 2) rfl
  have o3 := (unhide HS).op.cell (i := 3) rfl
  have o4 := (unhide HS).op.cell (i := 4) rfl
  have o5 := (unhide HS).op.cell (i := 5) rfl
  have o6 := (unhide HS).op.cell (i := 6) rfl
  have t0 := wcell3 ht0 (unhide HS).below
  have t1 := wcell3 ht1 (unhide HS).below
  have t2 := wcell3 ht2 (unhide HS).below
  have AT := Below.alloc1 V6 (.cells #[.int .i64 mo, .int .i64 bn, .int .i64 bd] 37)
  have HTB := hide (ownV_alloc V6 #[.int .i64 mo, .int .i64 bn, .int .i64 bd] 37)
  have hltx := (unhide HXB).lt
  have hltB := (unhide HS).box.lt
  have hlt1 := (unhide HS).lots.lt
  have hlt2 := (unhide HS).trs.lt
  go_upto_region 16 with (go_at_call 18; refine (unhide QD _).mono ?_; rintro e w9 ⟨rfl, h9⟩; have h8 := h9.symm; subst h8; clear h9)
  replace HS := hide ((unhide HS).step AT)
  replace HXB := hide ((unhide HXB).step AT)
  obtain ⟨V7, eV⟩ : ∃ V, V = V6.alloc (.cells #[.int .i64 mo, .int .i64 bn, .int .i64 bd] 37) := ⟨_, rfl⟩
  rw [← eV] at HS HXB HTB ⊢
  clear eV t0 t1 t2 AT QD x0 x1 x2 x3 x4 x5 x6
  clear a0 a1 a2 o0 o1 o2 o3 o4 o5 o6
  obtain ⟨gt, egt⟩ : ∃ g, g = V6.heap.size := ⟨_, rfl⟩
  rw [← egt] at HTB ⊢
  have hgt : w.heap.size + 1 + 1 < gt ∧ gt ≠ G ∧ gt ≠ g1 ∧ gt ≠ g2 := ⟨by omega, by omega, by omega, by omega⟩
  have hgtx : ¬ gt = gx := by omega
  have hgxt : ¬ gx = gt := by omega
  have hGx : ¬ G = gx := by have := hgx.2.1; omega
  have hGt : ¬ G = gt := by have := hgt.2.1; omega
  clear egt hltx hltB hlt1 hlt2
  have a0 := (unhide HS).arg.cell (i := 0) rfl
  have a1 := (unhide HS).arg.cell (i := 1) rfl
  have a2 := (unhide HS).arg.cell (i := 2) rfl
  have o0 := (unhide HS).op.cell (i := 0) rfl
  have o1 := (unhide HS).op.cell (i := 1) rfl
  have o2 := (unhide HS).op.cell (i := 2) rfl
  have o3 := (unhide HS).op.cell (i := 3) rfl
  have o4 := (unhide HS).op.cell (i := 4) rfl
  have o5 := (unhide HS).op.cell (i := 5) rfl
  have o6 := (unhide HS).op.cell (i := 6) rfl
  have b0 := (unhide HS).box.cell (i := 0) rfl
  have b1 := (unhide HS).box.cell (i := 1) rfl
  have b2 := (unhide HS).box.cell (i := 2) rfl
  have bf := (unhide HS).box.frozen
  have x0 := (unhide HXB).cell (i := 0) rfl
  have x1 := (unhide HXB).cell (i := 1) rfl
  have x2 := (unhide HXB).cell (i := 2) rfl
  have x3 := (unhide HXB).cell (i := 3) rfl
  have x4 := (unhide HXB).cell (i := 4) rfl
  have x5 := (unhide HXB).cell (i := 5) rfl
  have x6 := (unhide HXB).cell (i := 6) rfl
  have xf := (unhide HXB).frozen
  have t0 := (unhide HTB).cell (i := 0) rfl
  have t1 := (unhide HTB).cell (i := 1) rfl
  have t2 := (unhide HTB).cell (i := 2) rfl
  have tf := (unhide HTB).frozen
  have e1 : IntKind.i64.wrap (bn - bd) = bn - bd := by rw [IntKind.wrap_i64]; omega
  have e2 : IntKind.i64.wrap (bd + du) = bd + du := by rw [IntKind.wrap_i64]; omega
  by_cases hm : bn - bd < du
  · have EF : Hid (R = ((L, T, tk), 5)) := by show _ = _; rw [unhide ER4, unhide ESV, if_pos hm]
    have dm1 : decide (bn - bd < du) = true := by simpa using hm
    clear hm
    have b0 := (unhide HS).box.cell (i := 0) rfl
    have b1 := (unhide HS).box.cell (i := 1) rfl
    have b2 := (unhide HS).box.cell (i := 2) rfl
    have r0 := (unhide HS).res.cell (i := 0) rfl
    have r1 := (unhide HS).res.cell (i := 1) rfl
    have r2 := (unhide HS).res.cell (i := 2) rfl
    have rf := (unhide HS).res.frozen
    have HF := hide (res_fin (c1 := c1) (c2 := c2) (tk := tk) (unhide HS).below (unhide HS).res (unhide HS).lots (unhide HS).trs hap.2.1 hap.2.2.1 rfl rfl hc1 hc2)
    dsimp only at HF
    have hnG : ¬ G = w.heap.size + 1 + 1 := by omega
    go_wp2
    have k0 := (unhide HF).1.cell (i := 0) rfl
    have k1 := (unhide HF).1.cell (i := 1) rfl
    have k2 := (unhide HF).1.cell (i := 2) rfl
    refine bodyPost_ret (v := .tuple #[vHouse (.slice (some ⟨g1, 0, none⟩) L.length c1) (.slice (some ⟨g2, 0, none⟩) T.length c2) (tk), .int .i64 5]) (by simp [results, Try.results23, go_sem, vHouse, k0, k1, k2]) rfl ?_
    exact spA_mk (unhide EF) (unhide HF).2.1 (unhide HF).2.2
  have dm1 : decide (bn - bd < du) = false := by simpa using hm
  have HM := hide hm
  clear hm
  have EF : Hid (R = ((L.set k (xi, (j : Int), xm, xv, xr, 3, du), T.set j (mo, bn, bd + du), tk), 0)) := by show _ = _; rw [unhide ER4, unhide ESV]; rw [if_neg (unhide HM)]; rfl
  have HS8 := hide (((unhide HS).far hgt 2 (.int .i64 (bd + du))).far hgx 6 (.int .i64 du)).far hgx 5 (.int .i64 3)
  have HX8 := hide ((((unhide HXB).other (a := ⟨gt, 2, none⟩) hgxt (.int .i64 (bd + du))).set 6 (.int .i64 du) (by simp)).set 5 (.int .i64 3) (by simp))
  have HT8 := hide ((((unhide HTB).set 2 (.int .i64 (bd + du)) (by simp)).other (a := ⟨gx, 6, none⟩) hgtx (.int .i64 du)).other (a := ⟨gx, 5, none⟩) hgtx (.int .i64 3))
  go_upto_region 45 with (fail)
  obtain ⟨V8, eV⟩ : ∃ V, V = (((V7.setCell ⟨gt, 2, none⟩ (.int .i64 (bd + du))).setCell ⟨gx, 6, none⟩ (.int .i64 du)).setCell ⟨gx, 5, none⟩ (.int .i64 3)) := ⟨_, rfl⟩
  rw [← eV] at HS8 HX8 HT8 ⊢
  dsimp only [List.set] at HS8 HX8 HT8
  clear eV HS HXB HTB b0 b1 b2 bf x0 x1 x2 x3 x4 x5 x6 xf t0 t1 t2 tf
  clear a0 a1 a2 o0 o1 o2 o3 o4 o5 o6
  have HS := HS8
  clear HS8
  have b0 := (unhide HS).box.cell (i := 0) rfl
  have b1 := (unhide HS).box.cell (i := 1) rfl
  have b2 := (unhide HS).box.cell (i := 2) rfl
  have x0 := (unhide HX8).cell (i := 0) rfl
  have x1 := (unhide HX8).cell (i := 1) rfl
  have x2 := (unhide HX8).cell (i := 2) rfl
  have x3 := (unhide HX8).cell (i := 3) rfl
  have x4 := (unhide HX8).cell (i := 4) rfl
  have x5 := (unhide HX8).cell (i := 5) rfl
  have x6 := (unhide HX8).cell (i := 6) rfl
  have c0 := (unhide HS).lots.cell (recCells_get (n := 7) (enc := eLot) (L := L) (i := k) (j := 0) hk (by omega))
  have c1' := (unhide HS).lots.cell (recCells_get (n := 7) (enc := eLot) (L := L) (i := k) (j := 1) hk (by omega))
  have c2' := (unhide HS).lots.cell (recCells_get (n := 7) (enc := eLot) (L := L) (i := k) (j := 2) hk (by omega))
  have c3 := (unhide HS).lots.cell (recCells_get (n := 7) (enc := eLot) (L := L) (i := k) (j := 3) hk (by omega))
  have c4 := (unhide HS).lots.cell (recCells_get (n := 7) (enc := eLot) (L := L) (i := k) (j := 4) hk (by omega))
  have c5 := (unhide HS).lots.cell (recCells_get (n := 7) (enc := eLot) (L := L) (i := k) (j := 5) hk (by omega))
  have c6 := (unhide HS).lots.cell (recCells_get (n := 7) (enc := eLot) (L := L) (i := k) (j := 6) hk (by omega))
  rw [Nat.add_zero] at c0
  rw [unhide HX] at c0 c1' c2' c3 c4 c5 c6
  dsimp only [eLot] at c0 c1' c2' c3 c4 c5 c6
  have cf := (unhide HS).lots.frozen
  have q7 := keptS7 V8 g1 (k * 7) (.int .i64 (xi)) (.int .i64 ((j : Int))) (.int .i64 (xm)) (.int .i64 (xv)) (.int .i64 (xr)) (.int .i64 (3)) (.int .i64 (du))
  have HS9 := hide ((unhide HS).setLot hk (xi) ((j : Int)) (xm) (xv) (xr) (3) (du))
  have HX9 := hide ((unhide HX8).kept q7 hgx.2.2.1)
  have HT9 := hide ((unhide HT8).kept q7 hgt.2.2.1)
  clear q7
  go_upto_region 46 with (fail)
  obtain ⟨V9, eV⟩ : ∃ V, V = (((((((V8.setCell ⟨g1, k * 7, none⟩ (.int .i64 (xi))).setCell ⟨g1, k * 7 + 1, none⟩ (.int .i64 ((j : Int)))).setCell ⟨g1, k * 7 + 2, none⟩ (.int .i64 (xm))).setCell ⟨g1, k * 7 + 3, none⟩ (.int .i64 (xv))).setCell ⟨g1, k * 7 + 4, none⟩ (.int .i64 (xr))).setCell ⟨g1, k * 7 + 5, none⟩ (.int .i64 (3))).setCell ⟨g1, k * 7 + 6, none⟩ (.int .i64 (du))) := ⟨_, rfl⟩
  rw [← eV] at HS9 HX9 HT9 ⊢
  clear eV HS HX8 HT8 b0 b1 b2 x0 x1 x2 x3 x4 x5 x6 c0 c1' c2' c3 c4 c5 c6 cf
  have HS := HS9
  clear HS9
  have b1 := (unhide HS).box.cell (i := 1) rfl
  have x1 := (unhide HX9).cell (i := 1) rfl
  have t0 := (unhide HT9).cell (i := 0) rfl
  have t1 := (unhide HT9).cell (i := 1) rfl
  have t2 := (unhide HT9).cell (i := 2) rfl
  have c0 := (unhide HS).trs.cell (recCells_get (n := 3) (enc := eTrader) (L := T) (i := j) (j := 0) ho (by omega))
  have c1' := (unhide HS).trs.cell (recCells_get (n := 3) (enc := eTrader) (L := T) (i := j) (j := 1) ho (by omega))
  have c2' := (unhide HS).trs.cell (recCells_get (n := 3) (enc := eTrader) (L := T) (i := j) (j := 2) ho (by omega))
  rw [Nat.add_zero] at c0
  rw [unhide HT] at c0 c1' c2'
  dsimp only [eTrader] at c0 c1' c2'
  have cf := (unhide HS).trs.frozen
  have HS9 := hide ((unhide HS).setTr ho (mo) (bn) (bd + du))
  go_upto_region 47 with (fail)
  obtain ⟨VA, eV⟩ : ∃ V, V = (((V9.setCell ⟨g2, j * 3, none⟩ (.int .i64 (mo))).setCell ⟨g2, j * 3 + 1, none⟩ (.int .i64 (bn))).setCell ⟨g2, j * 3 + 2, none⟩ (.int .i64 (bd + du))) := ⟨_, rfl⟩
  rw [← eV] at HS9 ⊢
  clear eV HS HX9 HT9 b1 x1 t0 t1 t2 c0 c1' c2' cf
  have HS := HS9
  clear HS9
  have b0 := (unhide HS).box.cell (i := 0) rfl
  have b1 := (unhide HS).box.cell (i := 1) rfl
  have b2 := (unhide HS).box.cell (i := 2) rfl
  have r0 := (unhide HS).res.cell (i := 0) rfl
  have r1 := (unhide HS).res.cell (i := 1) rfl
  have r2 := (unhide HS).res.cell (i := 2) rfl
  have rf := (unhide HS).res.frozen
  have HF := hide (res_fin (c1 := c1) (c2 := c2) (tk := tk) (unhide HS).below (unhide HS).res (unhide HS).lots (unhide HS).trs hap.2.1 hap.2.2.1 (by rw [List.length_set]) (by rw [List.length_set]) hc1 hc2)
  dsimp only at HF
  have hnG : ¬ G = w.heap.size + 1 + 1 := by omega
  go_wp2
  have k0 := (unhide HF).1.cell (i := 0) rfl
  have k1 := (unhide HF).1.cell (i := 1) rfl
  have k2 := (unhide HF).1.cell (i := 2) rfl
  refine bodyPost_ret (v := .tuple #[vHouse (.slice (some ⟨g1, 0, none⟩) L.length c1) (.slice (some ⟨g2, 0, none⟩) T.length c2) (tk), .int .i64 0]) (by simp [results, Try.results23, go_sem, vHouse, k0, k1, k2]) rfl ?_
  exact spA_mk (unhide EF) (unhide HF).2.1 (unhide HF).2.2

end Go.Proofs.Ytojlkdmlelgcbaa

/- Customs: the specification's DoDeed: kind 6. Written by wip/mkcsv.py. -/
namespace Go.Proofs.Ytojlkdmlelgcbaa
open Go.RowKit

set_option maxRecDepth 1000000 in
set_option maxHeartbeats 25600000 in
theorem specArrive_any (lv tv : Value) (L : List LotT) (T : List TraderT) (tk id ow ma va ra nw : Int) (w : World) (h : HsIn w lv tv (L, T, tk)) (hs : L.length ≤ 1048576) (hT : T.length ≤ 1048576) (hgood : (houseB (L, T, tk) && deedB T.length (6, id, ow, ma, va, ra, nw)) = true) (hl : lhas L id = true) (hst : (L.getD (lplc L id) default).2.2.2.2.2.1 = wantS 6) :
    Calls Try.prog 23 #[vHouse lv tv tk, vDeed 6 id ow ma va ra nw] w fun e w' => SpA w (doH (L, T, tk) (6, id, ow, ma, va, ra, nw)) e w' := by
  have e1 : (6 : Int) ≠ 1 := by omega
  have HV := hide h
  obtain ⟨h1, h2⟩ := h
  obtain ⟨ao, lcap, rfl, -⟩ := h1
  obtain ⟨fo, fcap, rfl, -⟩ := h2
  dsimp only at HV
  have QC := hide fun V (hV : Below w.heap.size w V) => l16Copy_any _ _ L T tk V ((unhide HV).below hV) hs hT
  have QB := hide fun V (hV : Below w.heap.size w V) => l16Bad_any _ _ L T tk 6 id ow ma va ra nw V ((unhide HV).below hV) hT
  obtain ⟨R, eR⟩ : ∃ r, r = doH (L, T, tk) (6, id, ow, ma, va, ra, nw) := ⟨_, rfl⟩
  rw [← eR]
  have ER := hide eR
  clear eR
  have H3 := hide (s3_new w #[.slice ao L.length lcap, .slice fo T.length fcap, .int .i64 tk] #[.int .i64 6, .int .i64 id, .int .i64 ow, .int .i64 ma, .int .i64 va, .int .i64 ra, .int .i64 nw] #[.slice none 0 0, .slice none 0 0, .int .i64 0] 27 34 27)
  obtain ⟨V0, eV0⟩ : ∃ V, V = ((w.alloc (.cells #[.slice ao L.length lcap, .slice fo T.length fcap, .int .i64 tk] 27)).alloc (.cells #[.int .i64 6, .int .i64 id, .int .i64 ow, .int .i64 ma, .int .i64 va, .int .i64 ra, .int .i64 nw] 34)).alloc (.cells #[.slice none 0 0, .slice none 0 0, .int .i64 0] 27) := ⟨_, rfl⟩
  rw [← eV0] at H3
  have hV0 := (unhide H3).o3.lt
  unfold vHouse at QB ⊢
  unfold CpA vHouse at QC
  unfold vDeed at QB ⊢
  go_enter Try.func23, Try.ntmps23
  go_upto_region 1 with (fail)
  rw [← eV0]
  clear eV0
  have a0 := (unhide H3).o1.cell (i := 0) rfl
  have a1 := (unhide H3).o1.cell (i := 1) rfl
  have a2 := (unhide H3).o1.cell (i := 2) rfl
  go_wp2_with fail
  refine (unhide QC _ (unhide H3).below).mono ?_
  rintro e V1 ⟨g1, c1, g2, c2, rfl, hl1, ht1, hc1, hc2, hg1, hg2, hg12, hb⟩
  have A1 := Below.alloc1 V1 (.cells #[.slice (some ⟨g1, 0, none⟩) L.length c1, .slice (some ⟨g2, 0, none⟩) T.length c2, .int .i64 tk] 27)
  have h3 := (unhide H3).step hb
  have hsz := hb.size
  have hl1l := hl1.lt
  have ht1l := ht1.lt
  have HS : Hid (Sp w (V1.alloc (.cells #[.slice (some ⟨g1, 0, none⟩) L.length c1, .slice (some ⟨g2, 0, none⟩) T.length c2, .int .i64 tk] 27)) [.slice ao L.length lcap, .slice fo T.length fcap, .int .i64 tk] [.int .i64 6, .int .i64 id, .int .i64 ow, .int .i64 ma, .int .i64 va, .int .i64 ra, .int .i64 nw] V1.heap.size g1 g2 [.slice (some ⟨g1, 0, none⟩) L.length c1, .slice (some ⟨g2, 0, none⟩) T.length c2, .int .i64 tk] L T) := ⟨Below.step h3.below A1, h3.o1.step A1, h3.o2.step A1, h3.o3.step A1, ownV_alloc V1 #[.slice (some ⟨g1, 0, none⟩) L.length c1, .slice (some ⟨g2, 0, none⟩) T.length c2, .int .i64 tk] 27, hl1.step A1, ht1.step A1, by omega, by omega, by omega, by omega, by omega, by omega⟩
  clear hb h3 hl1 ht1 H3 QC a0 a1 a2 A1
  go_upto_region 2 with (fail)
  obtain ⟨V2, eV2⟩ : ∃ V, V = V1.alloc (.cells #[.slice (some ⟨g1, 0, none⟩) L.length c1, .slice (some ⟨g2, 0, none⟩) T.length c2, .int .i64 tk] 27) := ⟨_, rfl⟩
  rw [← eV2] at HS ⊢
  clear eV2
  obtain ⟨G, eG⟩ : ∃ g, g = V1.heap.size := ⟨_, rfl⟩
  rw [← eG] at HS ⊢
  clear eG hl1l ht1l hsz
  have hap := (unhide HS).ap
  have a0 := (unhide HS).arg.cell (i := 0) rfl
  have a1 := (unhide HS).arg.cell (i := 1) rfl
  have a2 := (unhide HS).arg.cell (i := 2) rfl
  have o0 := (unhide HS).op.cell (i := 0) rfl
  have o1 := (unhide HS).op.cell (i := 1) rfl
  have o2 := (unhide HS).op.cell (i := 2) rfl
  have o3 := (unhide HS).op.cell (i := 3) rfl
  have o4 := (unhide HS).op.cell (i := 4) rfl
  have o5 := (unhide HS).op.cell (i := 5) rfl
  have o6 := (unhide HS).op.cell (i := 6) rfl
  go_wp2_with fail
  refine (unhide QB _ (unhide HS).below).mono ?_
  rintro e V3 ⟨rfl, hb⟩
  replace HS := hide ((unhide HS).step hb)
  clear hb QB a0 a1 a2 o0 o1 o2 o3 o4 o5 o6
  have HH0 : Hid (HOk (L, T, tk)) := (houseB_iff _).1 (by have := hgood; rw [Bool.and_eq_true] at this; exact this.1)
  have HA := hide (unhide HH0).asc
  dsimp only at HA
  rw [hgood]
  have QF := hide fun V i (hV : Below w.heap.size w V) => l16Find_any _ _ L T tk i V ((unhide HV).below hV) (unhide HA)
  unfold vHouse at QF
  have a0 := (unhide HS).arg.cell (i := 0) rfl
  have a1 := (unhide HS).arg.cell (i := 1) rfl
  have a2 := (unhide HS).arg.cell (i := 2) rfl
  have o0 := (unhide HS).op.cell (i := 0) rfl
  have o1 := (unhide HS).op.cell (i := 1) rfl
  have o2 := (unhide HS).op.cell (i := 2) rfl
  have o3 := (unhide HS).op.cell (i := 3) rfl
  have o4 := (unhide HS).op.cell (i := 4) rfl
  have o5 := (unhide HS).op.cell (i := 5) rfl
  have o6 := (unhide HS).op.cell (i := 6) rfl
  go_wp2_with fail
  refine (unhide QF _ id (unhide HS).below).mono ?_
  rintro e V4 ⟨rfl, hb⟩
  replace HS := hide ((unhide HS).step hb)
  clear hb a0 a1 a2 o0 o1 o2 o3 o4 o5 o6
  have a0 := (unhide HS).arg.cell (i := 0) rfl
  have a1 := (unhide HS).arg.cell (i := 1) rfl
  have a2 := (unhide HS).arg.cell (i := 2) rfl
  have o0 := (unhide HS).op.cell (i := 0) rfl
  have o1 := (unhide HS).op.cell (i := 1) rfl
  have o2 := (unhide HS).op.cell (i := 2) rfl
  have o3 := (unhide HS).op.cell (i := 3) rfl
  have o4 := (unhide HS).op.cell (i := 4) rfl
  have o5 := (unhide HS).op.cell (i := 5) rfl
  have o6 := (unhide HS).op.cell (i := 6) rfl
  obtain ⟨hk, hid⟩ := lhas_yes hl
  have elf : lfnd L id = (lplc L id : Nat) := by rw [lfnd, if_pos hl]
  have ER2 : Hid (R = lotH (L, T, tk) (lplc L id) (L.getD (lplc L id) default) (6, id, ow, ma, va, ra, nw)) := by show _ = _; rw [unhide ER, doH, if_neg (by rw [hgood]; simp)]; unfold actH; rw [if_neg e1, if_neg (by rw [hl]; simp)]
  rw [elf]
  have hLk := (unhide HH0).lots (lplc L id) hk
  dsimp only at hLk
  generalize lplc L id = k at *
  obtain ⟨ao', cap', eao, -, -, hcl⟩ := (unhide HV).1
  dsimp only at eao hcl
  simp only [Value.slice.injEq] at eao
  obtain ⟨rfl, -, rfl⟩ := eao
  obtain ⟨bb, o, xi, xo, xm, xv, xr, xs, xb, rfl, hq0, hq1, hq2, hq3, hq4, hq5, hq6, HX⟩ := recLotAt hcl hk
  rw [unhide HX] at ER2 hLk hst
  have HST := hide hst
  clear hst
  obtain ⟨ho, hoe⟩ := own_lt hLk
  dsimp only at ho hoe
  have htr := (unhide HH0).trs xo.toNat ho
  dsimp only at htr
  rw [hoe] at htr
  obtain ⟨j, ej⟩ : ∃ j : Nat, j = xo.toNat := ⟨_, rfl⟩
  have hxo : xo = (j : Int) := by omega
  rw [← ej] at ho htr
  subst hxo
  obtain ⟨fo', fcap', efo, -, -, hct⟩ := (unhide HV).2
  dsimp only at efo hct
  simp only [Value.slice.injEq] at efo
  obtain ⟨rfl, -, rfl⟩ := efo
  obtain ⟨bb2, o2', mo, bn, bd, rfl, ht0, ht1, ht2, HT⟩ := recTrAt hct ho
  rw [unhide HT] at htr
  obtain ⟨hTO, hbd⟩ := htr
  have hdu := dut_bd xm xv xr
  have hdb := hLk.1
  have hxb := hLk.2.2.2.2
  have hbo := lot_bond hLk
  have htk := (unhide HH0).tk
  have hst0 := hLk.2.2.2.1
  have hmx := dut_parts hLk.1
  dsimp only at hdb hxb hbo htk hst0 hmx
  have HXQ := hide hxb
  have HBD := hide hbd
  clear hxb hbd
  obtain ⟨tt1, tt2, tt3⟩ := hTO
  dsimp only at tt1 tt2 tt3
  have hki : (k : Int) < L.length := by omega
  have hji : (j : Int) < T.length := by omega
  have g0 := wcell3 hq0 (unhide HS).below
  have g1' := wcell3 hq1 (unhide HS).below
  have g2' := wcell3 hq2 (unhide HS).below
  have g3' := wcell3 hq3 (unhide HS).below
  have g4' := wcell3 hq4 (unhide HS).below
  have g5' := wcell3 hq5 (unhide HS).below
  have g6' := wcell3 hq6 (unhide HS).below
  have AX := Below.alloc1 V4 (.cells #[.int .i64 xi, .int .i64 (j : Int), .int .i64 xm, .int .i64 xv, .int .i64 xr, .int .i64 xs, .int .i64 xb] 39)
  have HXB := hide (ownV_alloc V4 #[.int .i64 xi, .int .i64 (j : Int), .int .i64 xm, .int .i64 xv, .int .i64 xr, .int .i64 xs, .int .i64 xb] 39)
  have hltB := (unhide HS).box.lt
  have hlt1 := (unhide HS).lots.lt
  have hlt2 := (unhide HS).trs.lt
  have hltr := (unhide HS).res.lt
  replace HS := hide ((unhide HS).step AX)
  clear hq0 hq1 hq2 hq3 hq4 hq5 hq6 hcl hct elf hid hl ej hoe hLk AX
  go_upto_region 12 with (fail)
  obtain ⟨V5, eV⟩ : ∃ V, V = V4.alloc (.cells #[.int .i64 xi, .int .i64 (j : Int), .int .i64 xm, .int .i64 xv, .int .i64 xr, .int .i64 xs, .int .i64 xb] 39) := ⟨_, rfl⟩
  rw [← eV] at HS HXB ⊢
  clear eV g0 g1' g2' g3' g4' g5' g6'
  obtain ⟨gx, egx⟩ : ∃ g, g = V4.heap.size := ⟨_, rfl⟩
  rw [← egx] at HXB ⊢
  have hgx : w.heap.size + 1 + 1 < gx ∧ gx ≠ G ∧ gx ≠ g1 ∧ gx ≠ g2 := ⟨by omega, by omega, by omega, by omega⟩
  clear egx hltB hlt1 hlt2 hltr
  clear a0 a1 a2 o0 o1 o2 o3 o4 o5 o6
  have a0 := (unhide HS).arg.cell (i := 0) rfl
  have a1 := (unhide HS).arg.cell (i := 1) rfl
  have a2 := (unhide HS).arg.cell (i := 2) rfl
  have o0 := (unhide HS).op.cell (i := 0) rfl
  have o1 := (unhide HS).op.cell (i := 1) rfl
  have o2 := (unhide HS).op.cell (i := 2) rfl
  have o3 := (unhide HS).op.cell (i := 3) rfl
  have o4 := (unhide HS).op.cell (i := 4) rfl
  have o5 := (unhide HS).op.cell (i := 5) rfl
  have o6 := (unhide HS).op.cell (i := 6) rfl
  have x0 := (unhide HXB).cell (i := 0) rfl
  have x1 := (unhide HXB).cell (i := 1) rfl
  have x2 := (unhide HXB).cell (i := 2) rfl
  have x3 := (unhide HXB).cell (i := 3) rfl
  have x4 := (unhide HXB).cell (i := 4) rfl
  have x5 := (unhide HXB).cell (i := 5) rfl
  have x6 := (unhide HXB).cell (i := 6) rfl
  have QS := hide fun V => l16From_any 6 V
  have hxs : xs = 3 := unhide HST
  subst hxs
  clear HST e1
  have ER3 : Hid (R = movH (L, T, tk) k (xi, (j : Int), xm, xv, xr, 3, xb) (6, id, ow, ma, va, ra, nw)) := unhide ER2
  have ER4 : Hid (R = match setV (xi, (j : Int), xm, xv, xr, 3, xb) (mo, bn, bd) tk 6 with | none => ((L, T, tk), 5) | some (b, t, tk') => ((L.set k (putL (xi, (j : Int), xm, xv, xr, 3, xb) b (leftS 6)), T.set j t, tk'), 0)) := by
    show _ = _
    rw [unhide ER3]
    unfold movH
    dsimp only
    rw [show ((j : Int)).toNat = j from rfl, unhide HT]
    cases setV (xi, (j : Int), xm, xv, xr, 3, xb) (mo, bn, bd) tk 6 <;> rfl
  have ESV : Hid (setV (xi, (j : Int), xm, xv, xr, 3, xb) (mo, bn, bd) tk 6 = some (0, (mo, bn, bd - dutV xm xv xr), tk)) := by show _ = _; have e9 : xb = dutV xm xv xr := (by have h9 := unhide HXQ; rwa [if_pos rfl] at h9); show some (0, (mo, bn, bd - xb), tk) = _; rw [e9]
  have dst : ((3 : Int) != wantS 6) = false := rfl
  have d8 : ((6 : Int) == 8) = false := rfl
  clear ER2 ER3
  refine wp_region_quiet_lit (by kernel_rfl) (by kernel_rfl) ?_
  repeat (go_big_quiet_step (fail))
  go_big_quiet_want
  go_big_quiet_op
  go_big_quiet_call (exact Calls.quiet_of_same (unhide QS _))
  repeat (go_big_quiet_step (fail))
  refine wpQuiet_nil ?_
  intro _ hw'
  obtain ⟨nq, hw''⟩ := hw'
  subst hw''
  replace HS := hide ((unhide HS).step (below_drewN (Below.refl _ _) nq))
  replace HXB := hide ((unhide HXB).step (below_drewN (Below.refl _ _) nq))
  clear a0 a1 a2 o0 o1 o2 o3 o4 o5 o6
  clear x0 x1 x2 x3 x4 x5 x6
  generalize V5.drewN nq = V6 at *
  have QD := hide fun V => specDuty6_any xm xv xr V
  rw [hdb] at QD
  obtain ⟨du, edu⟩ : ∃ z, z = dutV xm xv xr := ⟨_, rfl⟩
  rw [← edu] at QD hdu
  try rw [← edu] at ESV
  have EDU := hide edu
  clear edu
  have x0 := (unhide HXB).cell (i := 0) rfl
  have x1 := (unhide HXB).cell (i := 1) rfl
  have x2 := (unhide HXB).cell (i := 2) rfl
  have x3 := (unhide HXB).cell (i := 3) rfl
  have x4 := (unhide HXB).cell (i := 4) rfl
  have x5 := (unhide HXB).cell (i := 5) rfl
  have x6 := (unhide HXB).cell (i := 6) rfl
  have a0 := (unhide HS).arg.cell (i := 0) rfl
  have a1 := (unhide HS).arg.cell (i := 1) rfl
  have a2 := (unhide HS).arg.cell (i := 2) rfl
  have o0 := (unhide HS).op.cell (i := 0) rfl
  have o1 := (unhide HS).op.cell (i := 1) rfl
  have o2 := (unhide HS).op.cell (i := 2) rfl
  have o3 := (unhide HS).op.cell (i := 3) rfl
  have o4 := (unhide HS).op.cell (i := 4) rfl
  have o5 := (unhide HS).op.cell (i := 5) rfl
  have o6 := (unhide HS).op.cell (i := 6) rfl
  have t0 := wcell3 ht0 (unhide HS).below
  have t1 := wcell3 ht1 (unhide HS).below
  have t2 := wcell3 ht2 (unhide HS).below
  have AT := Below.alloc1 V6 (.cells #[.int .i64 mo, .int .i64 bn, .int .i64 bd] 37)
  have HTB := hide (ownV_alloc V6 #[.int .i64 mo, .int .i64 bn, .int .i64 bd] 37)
  have hltx := (unhide HXB).lt
  have hltB := (unhide HS).box.lt
  have hlt1 := (unhide HS).lots.lt
  have hlt2 := (unhide HS).trs.lt
  go_upto_region 16 with (go_at_call 18; refine (unhide QD _).mono ?_; rintro e w9 ⟨rfl, h9⟩; have h8 := h9.symm; subst h8; clear h9)
  replace HS := hide ((unhide HS).step AT)
  replace HXB := hide ((unhide HXB).step AT)
  obtain ⟨V7, eV⟩ : ∃ V, V = V6.alloc (.cells #[.int .i64 mo, .int .i64 bn, .int .i64 bd] 37) := ⟨_, rfl⟩
  rw [← eV] at HS HXB HTB ⊢
  clear eV t0 t1 t2 AT QD x0 x1 x2 x3 x4 x5 x6
  clear a0 a1 a2 o0 o1 o2 o3 o4 o5 o6
  obtain ⟨gt, egt⟩ : ∃ g, g = V6.heap.size := ⟨_, rfl⟩
  rw [← egt] at HTB ⊢
  have hgt : w.heap.size + 1 + 1 < gt ∧ gt ≠ G ∧ gt ≠ g1 ∧ gt ≠ g2 := ⟨by omega, by omega, by omega, by omega⟩
  have hgtx : ¬ gt = gx := by omega
  have hgxt : ¬ gx = gt := by omega
  have hGx : ¬ G = gx := by have := hgx.2.1; omega
  have hGt : ¬ G = gt := by have := hgt.2.1; omega
  clear egt hltx hltB hlt1 hlt2
  have a0 := (unhide HS).arg.cell (i := 0) rfl
  have a1 := (unhide HS).arg.cell (i := 1) rfl
  have a2 := (unhide HS).arg.cell (i := 2) rfl
  have o0 := (unhide HS).op.cell (i := 0) rfl
  have o1 := (unhide HS).op.cell (i := 1) rfl
  have o2 := (unhide HS).op.cell (i := 2) rfl
  have o3 := (unhide HS).op.cell (i := 3) rfl
  have o4 := (unhide HS).op.cell (i := 4) rfl
  have o5 := (unhide HS).op.cell (i := 5) rfl
  have o6 := (unhide HS).op.cell (i := 6) rfl
  have b0 := (unhide HS).box.cell (i := 0) rfl
  have b1 := (unhide HS).box.cell (i := 1) rfl
  have b2 := (unhide HS).box.cell (i := 2) rfl
  have bf := (unhide HS).box.frozen
  have x0 := (unhide HXB).cell (i := 0) rfl
  have x1 := (unhide HXB).cell (i := 1) rfl
  have x2 := (unhide HXB).cell (i := 2) rfl
  have x3 := (unhide HXB).cell (i := 3) rfl
  have x4 := (unhide HXB).cell (i := 4) rfl
  have x5 := (unhide HXB).cell (i := 5) rfl
  have x6 := (unhide HXB).cell (i := 6) rfl
  have xf := (unhide HXB).frozen
  have t0 := (unhide HTB).cell (i := 0) rfl
  have t1 := (unhide HTB).cell (i := 1) rfl
  have t2 := (unhide HTB).cell (i := 2) rfl
  have tf := (unhide HTB).frozen
  have e2 : IntKind.i64.wrap (bd - du) = bd - du := by rw [IntKind.wrap_i64]; omega
  have EF : Hid (R = ((L.set k (xi, (j : Int), xm, xv, xr, 5, 0), T.set j (mo, bn, bd - du), tk), 0)) := by show _ = _; rw [unhide ER4, unhide ESV]; rfl
  have HS8 := hide (((unhide HS).far hgt 2 (.int .i64 (bd - du))).far hgx 6 (.int .i64 0)).far hgx 5 (.int .i64 5)
  have HX8 := hide ((((unhide HXB).other (a := ⟨gt, 2, none⟩) hgxt (.int .i64 (bd - du))).set 6 (.int .i64 0) (by simp)).set 5 (.int .i64 5) (by simp))
  have HT8 := hide ((((unhide HTB).set 2 (.int .i64 (bd - du)) (by simp)).other (a := ⟨gx, 6, none⟩) hgtx (.int .i64 0)).other (a := ⟨gx, 5, none⟩) hgtx (.int .i64 5))
  go_upto_region 45 with (fail)
  obtain ⟨V8, eV⟩ : ∃ V, V = (((V7.setCell ⟨gt, 2, none⟩ (.int .i64 (bd - du))).setCell ⟨gx, 6, none⟩ (.int .i64 0)).setCell ⟨gx, 5, none⟩ (.int .i64 5)) := ⟨_, rfl⟩
  rw [← eV] at HS8 HX8 HT8 ⊢
  dsimp only [List.set] at HS8 HX8 HT8
  clear eV HS HXB HTB b0 b1 b2 bf x0 x1 x2 x3 x4 x5 x6 xf t0 t1 t2 tf
  clear a0 a1 a2 o0 o1 o2 o3 o4 o5 o6
  have HS := HS8
  clear HS8
  have b0 := (unhide HS).box.cell (i := 0) rfl
  have b1 := (unhide HS).box.cell (i := 1) rfl
  have b2 := (unhide HS).box.cell (i := 2) rfl
  have x0 := (unhide HX8).cell (i := 0) rfl
  have x1 := (unhide HX8).cell (i := 1) rfl
  have x2 := (unhide HX8).cell (i := 2) rfl
  have x3 := (unhide HX8).cell (i := 3) rfl
  have x4 := (unhide HX8).cell (i := 4) rfl
  have x5 := (unhide HX8).cell (i := 5) rfl
  have x6 := (unhide HX8).cell (i := 6) rfl
  have c0 := (unhide HS).lots.cell (recCells_get (n := 7) (enc := eLot) (L := L) (i := k) (j := 0) hk (by omega))
  have c1' := (unhide HS).lots.cell (recCells_get (n := 7) (enc := eLot) (L := L) (i := k) (j := 1) hk (by omega))
  have c2' := (unhide HS).lots.cell (recCells_get (n := 7) (enc := eLot) (L := L) (i := k) (j := 2) hk (by omega))
  have c3 := (unhide HS).lots.cell (recCells_get (n := 7) (enc := eLot) (L := L) (i := k) (j := 3) hk (by omega))
  have c4 := (unhide HS).lots.cell (recCells_get (n := 7) (enc := eLot) (L := L) (i := k) (j := 4) hk (by omega))
  have c5 := (unhide HS).lots.cell (recCells_get (n := 7) (enc := eLot) (L := L) (i := k) (j := 5) hk (by omega))
  have c6 := (unhide HS).lots.cell (recCells_get (n := 7) (enc := eLot) (L := L) (i := k) (j := 6) hk (by omega))
  rw [Nat.add_zero] at c0
  rw [unhide HX] at c0 c1' c2' c3 c4 c5 c6
  dsimp only [eLot] at c0 c1' c2' c3 c4 c5 c6
  have cf := (unhide HS).lots.frozen
  have q7 := keptS7 V8 g1 (k * 7) (.int .i64 (xi)) (.int .i64 ((j : Int))) (.int .i64 (xm)) (.int .i64 (xv)) (.int .i64 (xr)) (.int .i64 (5)) (.int .i64 (0))
  have HS9 := hide ((unhide HS).setLot hk (xi) ((j : Int)) (xm) (xv) (xr) (5) (0))
  have HX9 := hide ((unhide HX8).kept q7 hgx.2.2.1)
  have HT9 := hide ((unhide HT8).kept q7 hgt.2.2.1)
  clear q7
  go_upto_region 46 with (fail)
  obtain ⟨V9, eV⟩ : ∃ V, V = (((((((V8.setCell ⟨g1, k * 7, none⟩ (.int .i64 (xi))).setCell ⟨g1, k * 7 + 1, none⟩ (.int .i64 ((j : Int)))).setCell ⟨g1, k * 7 + 2, none⟩ (.int .i64 (xm))).setCell ⟨g1, k * 7 + 3, none⟩ (.int .i64 (xv))).setCell ⟨g1, k * 7 + 4, none⟩ (.int .i64 (xr))).setCell ⟨g1, k * 7 + 5, none⟩ (.int .i64 (5))).setCell ⟨g1, k * 7 + 6, none⟩ (.int .i64 (0))) := ⟨_, rfl⟩
  rw [← eV] at HS9 HX9 HT9 ⊢
  clear eV HS HX8 HT8 b0 b1 b2 x0 x1 x2 x3 x4 x5 x6 c0 c1' c2' c3 c4 c5 c6 cf
  have HS := HS9
  clear HS9
  have b1 := (unhide HS).box.cell (i := 1) rfl
  have x1 := (unhide HX9).cell (i := 1) rfl
  have t0 := (unhide HT9).cell (i := 0) rfl
  have t1 := (unhide HT9).cell (i := 1) rfl
  have t2 := (unhide HT9).cell (i := 2) rfl
  have c0 := (unhide HS).trs.cell (recCells_get (n := 3) (enc := eTrader) (L := T) (i := j) (j := 0) ho (by omega))
  have c1' := (unhide HS).trs.cell (recCells_get (n := 3) (enc := eTrader) (L := T) (i := j) (j := 1) ho (by omega))
  have c2' := (unhide HS).trs.cell (recCells_get (n := 3) (enc := eTrader) (L := T) (i := j) (j := 2) ho (by omega))
  rw [Nat.add_zero] at c0
  rw [unhide HT] at c0 c1' c2'
  dsimp only [eTrader] at c0 c1' c2'
  have cf := (unhide HS).trs.frozen
  have HS9 := hide ((unhide HS).setTr ho (mo) (bn) (bd - du))
  go_upto_region 47 with (fail)
  obtain ⟨VA, eV⟩ : ∃ V, V = (((V9.setCell ⟨g2, j * 3, none⟩ (.int .i64 (mo))).setCell ⟨g2, j * 3 + 1, none⟩ (.int .i64 (bn))).setCell ⟨g2, j * 3 + 2, none⟩ (.int .i64 (bd - du))) := ⟨_, rfl⟩
  rw [← eV] at HS9 ⊢
  clear eV HS HX9 HT9 b1 x1 t0 t1 t2 c0 c1' c2' cf
  have HS := HS9
  clear HS9
  have b0 := (unhide HS).box.cell (i := 0) rfl
  have b1 := (unhide HS).box.cell (i := 1) rfl
  have b2 := (unhide HS).box.cell (i := 2) rfl
  have r0 := (unhide HS).res.cell (i := 0) rfl
  have r1 := (unhide HS).res.cell (i := 1) rfl
  have r2 := (unhide HS).res.cell (i := 2) rfl
  have rf := (unhide HS).res.frozen
  have HF := hide (res_fin (c1 := c1) (c2 := c2) (tk := tk) (unhide HS).below (unhide HS).res (unhide HS).lots (unhide HS).trs hap.2.1 hap.2.2.1 (by rw [List.length_set]) (by rw [List.length_set]) hc1 hc2)
  dsimp only at HF
  have hnG : ¬ G = w.heap.size + 1 + 1 := by omega
  go_wp2
  have k0 := (unhide HF).1.cell (i := 0) rfl
  have k1 := (unhide HF).1.cell (i := 1) rfl
  have k2 := (unhide HF).1.cell (i := 2) rfl
  refine bodyPost_ret (v := .tuple #[vHouse (.slice (some ⟨g1, 0, none⟩) L.length c1) (.slice (some ⟨g2, 0, none⟩) T.length c2) (tk), .int .i64 0]) (by simp [results, Try.results23, go_sem, vHouse, k0, k1, k2]) rfl ?_
  exact spA_mk (unhide EF) (unhide HF).2.1 (unhide HF).2.2

end Go.Proofs.Ytojlkdmlelgcbaa

/- Customs: the specification's DoDeed: kind 7. Written by wip/mkcsv.py. -/
namespace Go.Proofs.Ytojlkdmlelgcbaa
open Go.RowKit

set_option maxRecDepth 1000000 in
set_option maxHeartbeats 25600000 in
theorem specTake_any (lv tv : Value) (L : List LotT) (T : List TraderT) (tk id ow ma va ra nw : Int) (w : World) (h : HsIn w lv tv (L, T, tk)) (hs : L.length ≤ 1048576) (hT : T.length ≤ 1048576) (hgood : (houseB (L, T, tk) && deedB T.length (7, id, ow, ma, va, ra, nw)) = true) (hl : lhas L id = true) (hst : (L.getD (lplc L id) default).2.2.2.2.2.1 = wantS 7) :
    Calls Try.prog 23 #[vHouse lv tv tk, vDeed 7 id ow ma va ra nw] w fun e w' => SpA w (doH (L, T, tk) (7, id, ow, ma, va, ra, nw)) e w' := by
  have e1 : (7 : Int) ≠ 1 := by omega
  have HV := hide h
  obtain ⟨h1, h2⟩ := h
  obtain ⟨ao, lcap, rfl, -⟩ := h1
  obtain ⟨fo, fcap, rfl, -⟩ := h2
  dsimp only at HV
  have QC := hide fun V (hV : Below w.heap.size w V) => l16Copy_any _ _ L T tk V ((unhide HV).below hV) hs hT
  have QB := hide fun V (hV : Below w.heap.size w V) => l16Bad_any _ _ L T tk 7 id ow ma va ra nw V ((unhide HV).below hV) hT
  obtain ⟨R, eR⟩ : ∃ r, r = doH (L, T, tk) (7, id, ow, ma, va, ra, nw) := ⟨_, rfl⟩
  rw [← eR]
  have ER := hide eR
  clear eR
  have H3 := hide (s3_new w #[.slice ao L.length lcap, .slice fo T.length fcap, .int .i64 tk] #[.int .i64 7, .int .i64 id, .int .i64 ow, .int .i64 ma, .int .i64 va, .int .i64 ra, .int .i64 nw] #[.slice none 0 0, .slice none 0 0, .int .i64 0] 27 34 27)
  obtain ⟨V0, eV0⟩ : ∃ V, V = ((w.alloc (.cells #[.slice ao L.length lcap, .slice fo T.length fcap, .int .i64 tk] 27)).alloc (.cells #[.int .i64 7, .int .i64 id, .int .i64 ow, .int .i64 ma, .int .i64 va, .int .i64 ra, .int .i64 nw] 34)).alloc (.cells #[.slice none 0 0, .slice none 0 0, .int .i64 0] 27) := ⟨_, rfl⟩
  rw [← eV0] at H3
  have hV0 := (unhide H3).o3.lt
  unfold vHouse at QB ⊢
  unfold CpA vHouse at QC
  unfold vDeed at QB ⊢
  go_enter Try.func23, Try.ntmps23
  go_upto_region 1 with (fail)
  rw [← eV0]
  clear eV0
  have a0 := (unhide H3).o1.cell (i := 0) rfl
  have a1 := (unhide H3).o1.cell (i := 1) rfl
  have a2 := (unhide H3).o1.cell (i := 2) rfl
  go_wp2_with fail
  refine (unhide QC _ (unhide H3).below).mono ?_
  rintro e V1 ⟨g1, c1, g2, c2, rfl, hl1, ht1, hc1, hc2, hg1, hg2, hg12, hb⟩
  have A1 := Below.alloc1 V1 (.cells #[.slice (some ⟨g1, 0, none⟩) L.length c1, .slice (some ⟨g2, 0, none⟩) T.length c2, .int .i64 tk] 27)
  have h3 := (unhide H3).step hb
  have hsz := hb.size
  have hl1l := hl1.lt
  have ht1l := ht1.lt
  have HS : Hid (Sp w (V1.alloc (.cells #[.slice (some ⟨g1, 0, none⟩) L.length c1, .slice (some ⟨g2, 0, none⟩) T.length c2, .int .i64 tk] 27)) [.slice ao L.length lcap, .slice fo T.length fcap, .int .i64 tk] [.int .i64 7, .int .i64 id, .int .i64 ow, .int .i64 ma, .int .i64 va, .int .i64 ra, .int .i64 nw] V1.heap.size g1 g2 [.slice (some ⟨g1, 0, none⟩) L.length c1, .slice (some ⟨g2, 0, none⟩) T.length c2, .int .i64 tk] L T) := ⟨Below.step h3.below A1, h3.o1.step A1, h3.o2.step A1, h3.o3.step A1, ownV_alloc V1 #[.slice (some ⟨g1, 0, none⟩) L.length c1, .slice (some ⟨g2, 0, none⟩) T.length c2, .int .i64 tk] 27, hl1.step A1, ht1.step A1, by omega, by omega, by omega, by omega, by omega, by omega⟩
  clear hb h3 hl1 ht1 H3 QC a0 a1 a2 A1
  go_upto_region 2 with (fail)
  obtain ⟨V2, eV2⟩ : ∃ V, V = V1.alloc (.cells #[.slice (some ⟨g1, 0, none⟩) L.length c1, .slice (some ⟨g2, 0, none⟩) T.length c2, .int .i64 tk] 27) := ⟨_, rfl⟩
  rw [← eV2] at HS ⊢
  clear eV2
  obtain ⟨G, eG⟩ : ∃ g, g = V1.heap.size := ⟨_, rfl⟩
  rw [← eG] at HS ⊢
  clear eG hl1l ht1l hsz
  have hap := (unhide HS).ap
  have a0 := (unhide HS).arg.cell (i := 0) rfl
  have a1 := (unhide HS).arg.cell (i := 1) rfl
  have a2 := (unhide HS).arg.cell (i := 2) rfl
  have o0 := (unhide HS).op.cell (i := 0) rfl
  have o1 := (unhide HS).op.cell (i := 1) rfl
  have o2 := (unhide HS).op.cell (i := 2) rfl
  have o3 := (unhide HS).op.cell (i := 3) rfl
  have o4 := (unhide HS).op.cell (i := 4) rfl
  have o5 := (unhide HS).op.cell (i := 5) rfl
  have o6 := (unhide HS).op.cell (i := 6) rfl
  go_wp2_with fail
  refine (unhide QB _ (unhide HS).below).mono ?_
  rintro e V3 ⟨rfl, hb⟩
  replace HS := hide ((unhide HS).step hb)
  clear hb QB a0 a1 a2 o0 o1 o2 o3 o4 o5 o6
  have HH0 : Hid (HOk (L, T, tk)) := (houseB_iff _).1 (by have := hgood; rw [Bool.and_eq_true] at this; exact this.1)
  have HA := hide (unhide HH0).asc
  dsimp only at HA
  rw [hgood]
  have QF := hide fun V i (hV : Below w.heap.size w V) => l16Find_any _ _ L T tk i V ((unhide HV).below hV) (unhide HA)
  unfold vHouse at QF
  have a0 := (unhide HS).arg.cell (i := 0) rfl
  have a1 := (unhide HS).arg.cell (i := 1) rfl
  have a2 := (unhide HS).arg.cell (i := 2) rfl
  have o0 := (unhide HS).op.cell (i := 0) rfl
  have o1 := (unhide HS).op.cell (i := 1) rfl
  have o2 := (unhide HS).op.cell (i := 2) rfl
  have o3 := (unhide HS).op.cell (i := 3) rfl
  have o4 := (unhide HS).op.cell (i := 4) rfl
  have o5 := (unhide HS).op.cell (i := 5) rfl
  have o6 := (unhide HS).op.cell (i := 6) rfl
  go_wp2_with fail
  refine (unhide QF _ id (unhide HS).below).mono ?_
  rintro e V4 ⟨rfl, hb⟩
  replace HS := hide ((unhide HS).step hb)
  clear hb a0 a1 a2 o0 o1 o2 o3 o4 o5 o6
  have a0 := (unhide HS).arg.cell (i := 0) rfl
  have a1 := (unhide HS).arg.cell (i := 1) rfl
  have a2 := (unhide HS).arg.cell (i := 2) rfl
  have o0 := (unhide HS).op.cell (i := 0) rfl
  have o1 := (unhide HS).op.cell (i := 1) rfl
  have o2 := (unhide HS).op.cell (i := 2) rfl
  have o3 := (unhide HS).op.cell (i := 3) rfl
  have o4 := (unhide HS).op.cell (i := 4) rfl
  have o5 := (unhide HS).op.cell (i := 5) rfl
  have o6 := (unhide HS).op.cell (i := 6) rfl
  obtain ⟨hk, hid⟩ := lhas_yes hl
  have elf : lfnd L id = (lplc L id : Nat) := by rw [lfnd, if_pos hl]
  have ER2 : Hid (R = lotH (L, T, tk) (lplc L id) (L.getD (lplc L id) default) (7, id, ow, ma, va, ra, nw)) := by show _ = _; rw [unhide ER, doH, if_neg (by rw [hgood]; simp)]; unfold actH; rw [if_neg e1, if_neg (by rw [hl]; simp)]
  rw [elf]
  have hLk := (unhide HH0).lots (lplc L id) hk
  dsimp only at hLk
  generalize lplc L id = k at *
  obtain ⟨ao', cap', eao, -, -, hcl⟩ := (unhide HV).1
  dsimp only at eao hcl
  simp only [Value.slice.injEq] at eao
  obtain ⟨rfl, -, rfl⟩ := eao
  obtain ⟨bb, o, xi, xo, xm, xv, xr, xs, xb, rfl, hq0, hq1, hq2, hq3, hq4, hq5, hq6, HX⟩ := recLotAt hcl hk
  rw [unhide HX] at ER2 hLk hst
  have HST := hide hst
  clear hst
  obtain ⟨ho, hoe⟩ := own_lt hLk
  dsimp only at ho hoe
  have htr := (unhide HH0).trs xo.toNat ho
  dsimp only at htr
  rw [hoe] at htr
  obtain ⟨j, ej⟩ : ∃ j : Nat, j = xo.toNat := ⟨_, rfl⟩
  have hxo : xo = (j : Int) := by omega
  rw [← ej] at ho htr
  subst hxo
  obtain ⟨fo', fcap', efo, -, -, hct⟩ := (unhide HV).2
  dsimp only at efo hct
  simp only [Value.slice.injEq] at efo
  obtain ⟨rfl, -, rfl⟩ := efo
  obtain ⟨bb2, o2', mo, bn, bd, rfl, ht0, ht1, ht2, HT⟩ := recTrAt hct ho
  rw [unhide HT] at htr
  obtain ⟨hTO, hbd⟩ := htr
  have hdu := dut_bd xm xv xr
  have hdb := hLk.1
  have hxb := hLk.2.2.2.2
  have hbo := lot_bond hLk
  have htk := (unhide HH0).tk
  have hst0 := hLk.2.2.2.1
  have hmx := dut_parts hLk.1
  dsimp only at hdb hxb hbo htk hst0 hmx
  have HXQ := hide hxb
  have HBD := hide hbd
  clear hxb hbd
  obtain ⟨tt1, tt2, tt3⟩ := hTO
  dsimp only at tt1 tt2 tt3
  have hki : (k : Int) < L.length := by omega
  have hji : (j : Int) < T.length := by omega
  have g0 := wcell3 hq0 (unhide HS).below
  have g1' := wcell3 hq1 (unhide HS).below
  have g2' := wcell3 hq2 (unhide HS).below
  have g3' := wcell3 hq3 (unhide HS).below
  have g4' := wcell3 hq4 (unhide HS).below
  have g5' := wcell3 hq5 (unhide HS).below
  have g6' := wcell3 hq6 (unhide HS).below
  have AX := Below.alloc1 V4 (.cells #[.int .i64 xi, .int .i64 (j : Int), .int .i64 xm, .int .i64 xv, .int .i64 xr, .int .i64 xs, .int .i64 xb] 39)
  have HXB := hide (ownV_alloc V4 #[.int .i64 xi, .int .i64 (j : Int), .int .i64 xm, .int .i64 xv, .int .i64 xr, .int .i64 xs, .int .i64 xb] 39)
  have hltB := (unhide HS).box.lt
  have hlt1 := (unhide HS).lots.lt
  have hlt2 := (unhide HS).trs.lt
  have hltr := (unhide HS).res.lt
  replace HS := hide ((unhide HS).step AX)
  clear hq0 hq1 hq2 hq3 hq4 hq5 hq6 hcl hct elf hid hl ej hoe hLk AX
  go_upto_region 12 with (fail)
  obtain ⟨V5, eV⟩ : ∃ V, V = V4.alloc (.cells #[.int .i64 xi, .int .i64 (j : Int), .int .i64 xm, .int .i64 xv, .int .i64 xr, .int .i64 xs, .int .i64 xb] 39) := ⟨_, rfl⟩
  rw [← eV] at HS HXB ⊢
  clear eV g0 g1' g2' g3' g4' g5' g6'
  obtain ⟨gx, egx⟩ : ∃ g, g = V4.heap.size := ⟨_, rfl⟩
  rw [← egx] at HXB ⊢
  have hgx : w.heap.size + 1 + 1 < gx ∧ gx ≠ G ∧ gx ≠ g1 ∧ gx ≠ g2 := ⟨by omega, by omega, by omega, by omega⟩
  clear egx hltB hlt1 hlt2 hltr
  clear a0 a1 a2 o0 o1 o2 o3 o4 o5 o6
  have a0 := (unhide HS).arg.cell (i := 0) rfl
  have a1 := (unhide HS).arg.cell (i := 1) rfl
  have a2 := (unhide HS).arg.cell (i := 2) rfl
  have o0 := (unhide HS).op.cell (i := 0) rfl
  have o1 := (unhide HS).op.cell (i := 1) rfl
  have o2 := (unhide HS).op.cell (i := 2) rfl
  have o3 := (unhide HS).op.cell (i := 3) rfl
  have o4 := (unhide HS).op.cell (i := 4) rfl
  have o5 := (unhide HS).op.cell (i := 5) rfl
  have o6 := (unhide HS).op.cell (i := 6) rfl
  have x0 := (unhide HXB).cell (i := 0) rfl
  have x1 := (unhide HXB).cell (i := 1) rfl
  have x2 := (unhide HXB).cell (i := 2) rfl
  have x3 := (unhide HXB).cell (i := 3) rfl
  have x4 := (unhide HXB).cell (i := 4) rfl
  have x5 := (unhide HXB).cell (i := 5) rfl
  have x6 := (unhide HXB).cell (i := 6) rfl
  have QS := hide fun V => l16From_any 7 V
  have hxs : xs = 4 := unhide HST
  subst hxs
  clear HST e1
  have ER3 : Hid (R = movH (L, T, tk) k (xi, (j : Int), xm, xv, xr, 4, xb) (7, id, ow, ma, va, ra, nw)) := unhide ER2
  have ER4 : Hid (R = match setV (xi, (j : Int), xm, xv, xr, 4, xb) (mo, bn, bd) tk 7 with | none => ((L, T, tk), 5) | some (b, t, tk') => ((L.set k (putL (xi, (j : Int), xm, xv, xr, 4, xb) b (leftS 7)), T.set j t, tk'), 0)) := by
    show _ = _
    rw [unhide ER3]
    unfold movH
    dsimp only
    rw [show ((j : Int)).toNat = j from rfl, unhide HT]
    cases setV (xi, (j : Int), xm, xv, xr, 4, xb) (mo, bn, bd) tk 7 <;> rfl
  have ESV : Hid (setV (xi, (j : Int), xm, xv, xr, 4, xb) (mo, bn, bd) tk 7 = some (xb, (mo, bn, bd), tk)) := by show _ = _; rfl
  have dst : ((4 : Int) != wantS 7) = false := rfl
  have d8 : ((7 : Int) == 8) = false := rfl
  clear ER2 ER3
  refine wp_region_quiet_lit (by kernel_rfl) (by kernel_rfl) ?_
  repeat (go_big_quiet_step (fail))
  go_big_quiet_want
  go_big_quiet_op
  go_big_quiet_call (exact Calls.quiet_of_same (unhide QS _))
  repeat (go_big_quiet_step (fail))
  refine wpQuiet_nil ?_
  intro _ hw'
  obtain ⟨nq, hw''⟩ := hw'
  subst hw''
  replace HS := hide ((unhide HS).step (below_drewN (Below.refl _ _) nq))
  replace HXB := hide ((unhide HXB).step (below_drewN (Below.refl _ _) nq))
  clear a0 a1 a2 o0 o1 o2 o3 o4 o5 o6
  clear x0 x1 x2 x3 x4 x5 x6
  generalize V5.drewN nq = V6 at *
  have QD := hide fun V => specDuty6_any xm xv xr V
  rw [hdb] at QD
  obtain ⟨du, edu⟩ : ∃ z, z = dutV xm xv xr := ⟨_, rfl⟩
  rw [← edu] at QD hdu
  try rw [← edu] at ESV
  have EDU := hide edu
  clear edu
  have x0 := (unhide HXB).cell (i := 0) rfl
  have x1 := (unhide HXB).cell (i := 1) rfl
  have x2 := (unhide HXB).cell (i := 2) rfl
  have x3 := (unhide HXB).cell (i := 3) rfl
  have x4 := (unhide HXB).cell (i := 4) rfl
  have x5 := (unhide HXB).cell (i := 5) rfl
  have x6 := (unhide HXB).cell (i := 6) rfl
  have a0 := (unhide HS).arg.cell (i := 0) rfl
  have a1 := (unhide HS).arg.cell (i := 1) rfl
  have a2 := (unhide HS).arg.cell (i := 2) rfl
  have o0 := (unhide HS).op.cell (i := 0) rfl
  have o1 := (unhide HS).op.cell (i := 1) rfl
  have o2 := (unhide HS).op.cell (i := 2) rfl
  have o3 := (unhide HS).op.cell (i := 3) rfl
  have o4 := (unhide HS).op.cell (i := 4) rfl
  have o5 := (unhide HS).op.cell (i := 5) rfl
  have o6 := (unhide HS).op.cell (i := 6) rfl
  have t0 := wcell3 ht0 (unhide HS).below
  have t1 := wcell3 ht1 (unhide HS).below
  have t2 := wcell3 ht2 (unhide HS).below
  have AT := Below.alloc1 V6 (.cells #[.int .i64 mo, .int .i64 bn, .int .i64 bd] 37)
  have HTB := hide (ownV_alloc V6 #[.int .i64 mo, .int .i64 bn, .int .i64 bd] 37)
  have hltx := (unhide HXB).lt
  have hltB := (unhide HS).box.lt
  have hlt1 := (unhide HS).lots.lt
  have hlt2 := (unhide HS).trs.lt
  go_upto_region 16 with (go_at_call 18; refine (unhide QD _).mono ?_; rintro e w9 ⟨rfl, h9⟩; have h8 := h9.symm; subst h8; clear h9)
  replace HS := hide ((unhide HS).step AT)
  replace HXB := hide ((unhide HXB).step AT)
  obtain ⟨V7, eV⟩ : ∃ V, V = V6.alloc (.cells #[.int .i64 mo, .int .i64 bn, .int .i64 bd] 37) := ⟨_, rfl⟩
  rw [← eV] at HS HXB HTB ⊢
  clear eV t0 t1 t2 AT QD x0 x1 x2 x3 x4 x5 x6
  clear a0 a1 a2 o0 o1 o2 o3 o4 o5 o6
  obtain ⟨gt, egt⟩ : ∃ g, g = V6.heap.size := ⟨_, rfl⟩
  rw [← egt] at HTB ⊢
  have hgt : w.heap.size + 1 + 1 < gt ∧ gt ≠ G ∧ gt ≠ g1 ∧ gt ≠ g2 := ⟨by omega, by omega, by omega, by omega⟩
  have hgtx : ¬ gt = gx := by omega
  have hgxt : ¬ gx = gt := by omega
  have hGx : ¬ G = gx := by have := hgx.2.1; omega
  have hGt : ¬ G = gt := by have := hgt.2.1; omega
  clear egt hltx hltB hlt1 hlt2
  have a0 := (unhide HS).arg.cell (i := 0) rfl
  have a1 := (unhide HS).arg.cell (i := 1) rfl
  have a2 := (unhide HS).arg.cell (i := 2) rfl
  have o0 := (unhide HS).op.cell (i := 0) rfl
  have o1 := (unhide HS).op.cell (i := 1) rfl
  have o2 := (unhide HS).op.cell (i := 2) rfl
  have o3 := (unhide HS).op.cell (i := 3) rfl
  have o4 := (unhide HS).op.cell (i := 4) rfl
  have o5 := (unhide HS).op.cell (i := 5) rfl
  have o6 := (unhide HS).op.cell (i := 6) rfl
  have b0 := (unhide HS).box.cell (i := 0) rfl
  have b1 := (unhide HS).box.cell (i := 1) rfl
  have b2 := (unhide HS).box.cell (i := 2) rfl
  have bf := (unhide HS).box.frozen
  have x0 := (unhide HXB).cell (i := 0) rfl
  have x1 := (unhide HXB).cell (i := 1) rfl
  have x2 := (unhide HXB).cell (i := 2) rfl
  have x3 := (unhide HXB).cell (i := 3) rfl
  have x4 := (unhide HXB).cell (i := 4) rfl
  have x5 := (unhide HXB).cell (i := 5) rfl
  have x6 := (unhide HXB).cell (i := 6) rfl
  have xf := (unhide HXB).frozen
  have t0 := (unhide HTB).cell (i := 0) rfl
  have t1 := (unhide HTB).cell (i := 1) rfl
  have t2 := (unhide HTB).cell (i := 2) rfl
  have tf := (unhide HTB).frozen
  have EF : Hid (R = ((L.set k (xi, (j : Int), xm, xv, xr, 5, xb), T.set j (mo, bn, bd), tk), 0)) := by show _ = _; rw [unhide ER4, unhide ESV]; rfl
  have HS8 := hide (unhide HS).far hgx 5 (.int .i64 5)
  have HX8 := hide ((unhide HXB).set 5 (.int .i64 5) (by simp))
  have HT8 := hide ((unhide HTB).other (a := ⟨gx, 5, none⟩) hgtx (.int .i64 5))
  go_upto_region 45 with (fail)
  obtain ⟨V8, eV⟩ : ∃ V, V = (V7.setCell ⟨gx, 5, none⟩ (.int .i64 5)) := ⟨_, rfl⟩
  rw [← eV] at HS8 HX8 HT8 ⊢
  dsimp only [List.set] at HS8 HX8 HT8
  clear eV HS HXB HTB b0 b1 b2 bf x0 x1 x2 x3 x4 x5 x6 xf t0 t1 t2 tf
  clear a0 a1 a2 o0 o1 o2 o3 o4 o5 o6
  have HS := HS8
  clear HS8
  have b0 := (unhide HS).box.cell (i := 0) rfl
  have b1 := (unhide HS).box.cell (i := 1) rfl
  have b2 := (unhide HS).box.cell (i := 2) rfl
  have x0 := (unhide HX8).cell (i := 0) rfl
  have x1 := (unhide HX8).cell (i := 1) rfl
  have x2 := (unhide HX8).cell (i := 2) rfl
  have x3 := (unhide HX8).cell (i := 3) rfl
  have x4 := (unhide HX8).cell (i := 4) rfl
  have x5 := (unhide HX8).cell (i := 5) rfl
  have x6 := (unhide HX8).cell (i := 6) rfl
  have c0 := (unhide HS).lots.cell (recCells_get (n := 7) (enc := eLot) (L := L) (i := k) (j := 0) hk (by omega))
  have c1' := (unhide HS).lots.cell (recCells_get (n := 7) (enc := eLot) (L := L) (i := k) (j := 1) hk (by omega))
  have c2' := (unhide HS).lots.cell (recCells_get (n := 7) (enc := eLot) (L := L) (i := k) (j := 2) hk (by omega))
  have c3 := (unhide HS).lots.cell (recCells_get (n := 7) (enc := eLot) (L := L) (i := k) (j := 3) hk (by omega))
  have c4 := (unhide HS).lots.cell (recCells_get (n := 7) (enc := eLot) (L := L) (i := k) (j := 4) hk (by omega))
  have c5 := (unhide HS).lots.cell (recCells_get (n := 7) (enc := eLot) (L := L) (i := k) (j := 5) hk (by omega))
  have c6 := (unhide HS).lots.cell (recCells_get (n := 7) (enc := eLot) (L := L) (i := k) (j := 6) hk (by omega))
  rw [Nat.add_zero] at c0
  rw [unhide HX] at c0 c1' c2' c3 c4 c5 c6
  dsimp only [eLot] at c0 c1' c2' c3 c4 c5 c6
  have cf := (unhide HS).lots.frozen
  have q7 := keptS7 V8 g1 (k * 7) (.int .i64 (xi)) (.int .i64 ((j : Int))) (.int .i64 (xm)) (.int .i64 (xv)) (.int .i64 (xr)) (.int .i64 (5)) (.int .i64 (xb))
  have HS9 := hide ((unhide HS).setLot hk (xi) ((j : Int)) (xm) (xv) (xr) (5) (xb))
  have HX9 := hide ((unhide HX8).kept q7 hgx.2.2.1)
  have HT9 := hide ((unhide HT8).kept q7 hgt.2.2.1)
  clear q7
  go_upto_region 46 with (fail)
  obtain ⟨V9, eV⟩ : ∃ V, V = (((((((V8.setCell ⟨g1, k * 7, none⟩ (.int .i64 (xi))).setCell ⟨g1, k * 7 + 1, none⟩ (.int .i64 ((j : Int)))).setCell ⟨g1, k * 7 + 2, none⟩ (.int .i64 (xm))).setCell ⟨g1, k * 7 + 3, none⟩ (.int .i64 (xv))).setCell ⟨g1, k * 7 + 4, none⟩ (.int .i64 (xr))).setCell ⟨g1, k * 7 + 5, none⟩ (.int .i64 (5))).setCell ⟨g1, k * 7 + 6, none⟩ (.int .i64 (xb))) := ⟨_, rfl⟩
  rw [← eV] at HS9 HX9 HT9 ⊢
  clear eV HS HX8 HT8 b0 b1 b2 x0 x1 x2 x3 x4 x5 x6 c0 c1' c2' c3 c4 c5 c6 cf
  have HS := HS9
  clear HS9
  have b1 := (unhide HS).box.cell (i := 1) rfl
  have x1 := (unhide HX9).cell (i := 1) rfl
  have t0 := (unhide HT9).cell (i := 0) rfl
  have t1 := (unhide HT9).cell (i := 1) rfl
  have t2 := (unhide HT9).cell (i := 2) rfl
  have c0 := (unhide HS).trs.cell (recCells_get (n := 3) (enc := eTrader) (L := T) (i := j) (j := 0) ho (by omega))
  have c1' := (unhide HS).trs.cell (recCells_get (n := 3) (enc := eTrader) (L := T) (i := j) (j := 1) ho (by omega))
  have c2' := (unhide HS).trs.cell (recCells_get (n := 3) (enc := eTrader) (L := T) (i := j) (j := 2) ho (by omega))
  rw [Nat.add_zero] at c0
  rw [unhide HT] at c0 c1' c2'
  dsimp only [eTrader] at c0 c1' c2'
  have cf := (unhide HS).trs.frozen
  have HS9 := hide ((unhide HS).setTr ho (mo) (bn) (bd))
  go_upto_region 47 with (fail)
  obtain ⟨VA, eV⟩ : ∃ V, V = (((V9.setCell ⟨g2, j * 3, none⟩ (.int .i64 (mo))).setCell ⟨g2, j * 3 + 1, none⟩ (.int .i64 (bn))).setCell ⟨g2, j * 3 + 2, none⟩ (.int .i64 (bd))) := ⟨_, rfl⟩
  rw [← eV] at HS9 ⊢
  clear eV HS HX9 HT9 b1 x1 t0 t1 t2 c0 c1' c2' cf
  have HS := HS9
  clear HS9
  have b0 := (unhide HS).box.cell (i := 0) rfl
  have b1 := (unhide HS).box.cell (i := 1) rfl
  have b2 := (unhide HS).box.cell (i := 2) rfl
  have r0 := (unhide HS).res.cell (i := 0) rfl
  have r1 := (unhide HS).res.cell (i := 1) rfl
  have r2 := (unhide HS).res.cell (i := 2) rfl
  have rf := (unhide HS).res.frozen
  have HF := hide (res_fin (c1 := c1) (c2 := c2) (tk := tk) (unhide HS).below (unhide HS).res (unhide HS).lots (unhide HS).trs hap.2.1 hap.2.2.1 (by rw [List.length_set]) (by rw [List.length_set]) hc1 hc2)
  dsimp only at HF
  have hnG : ¬ G = w.heap.size + 1 + 1 := by omega
  go_wp2
  have k0 := (unhide HF).1.cell (i := 0) rfl
  have k1 := (unhide HF).1.cell (i := 1) rfl
  have k2 := (unhide HF).1.cell (i := 2) rfl
  refine bodyPost_ret (v := .tuple #[vHouse (.slice (some ⟨g1, 0, none⟩) L.length c1) (.slice (some ⟨g2, 0, none⟩) T.length c2) (tk), .int .i64 0]) (by simp [results, Try.results23, go_sem, vHouse, k0, k1, k2]) rfl ?_
  exact spA_mk (unhide EF) (unhide HF).2.1 (unhide HF).2.2

end Go.Proofs.Ytojlkdmlelgcbaa

/- Customs: the specification's DoDeed, whole. Written by wip/mkcsv.py. -/
namespace Go.Proofs.Ytojlkdmlelgcbaa
open Go.RowKit

theorem specDoDeed_any (lv tv : Value) (L : List LotT) (T : List TraderT) (tk kd id ow ma va ra nw : Int) (w : World) (h : HsIn w lv tv (L, T, tk)) (hs : L.length ≤ 1048576) (hT : T.length ≤ 1048576) :
    Calls Try.prog 23 #[vHouse lv tv tk, vDeed kd id ow ma va ra nw] w fun e w' => SpA w (doH (L, T, tk) (kd, id, ow, ma, va, ra, nw)) e w' := by
  cases hg : (houseB (L, T, tk) && deedB T.length (kd, id, ow, ma, va, ra, nw)) with
  | false => exact specBad_any lv tv L T tk kd id ow ma va ra nw w h hs hT hg
  | true =>
  have hk : 1 ≤ kd ∧ kd ≤ 8 := by
    have h9 := hg
    rw [Bool.and_eq_true] at h9
    exact deed_kind h9.2
  by_cases e1 : kd = 1
  · subst e1; exact specLand_any lv tv L T tk id ow ma va ra nw w h hs hT hg
  cases hl : lhas L id with
  | false => exact specNone_any lv tv L T tk kd id ow ma va ra nw w h hs hT hg e1 hl
  | true =>
  by_cases hst : (L.getD (lplc L id) default).2.2.2.2.2.1 = wantS kd
  · have hc : kd = 2 ∨ kd = 3 ∨ kd = 4 ∨ kd = 5 ∨ kd = 6 ∨ kd = 7 ∨ kd = 8 := by omega
    rcases hc with rfl | rfl | rfl | rfl | rfl | rfl | rfl
    · exact specHold_any lv tv L T tk id ow ma va ra nw w h hs hT hg hl hst
    · exact specLift_any lv tv L T tk id ow ma va ra nw w h hs hT hg hl hst
    · exact specPay_any lv tv L T tk id ow ma va ra nw w h hs hT hg hl hst
    · exact specTransit_any lv tv L T tk id ow ma va ra nw w h hs hT hg hl hst
    · exact specArrive_any lv tv L T tk id ow ma va ra nw w h hs hT hg hl hst
    · exact specTake_any lv tv L T tk id ow ma va ra nw w h hs hT hg hl hst
    · exact specSplit_any lv tv L T tk id ow ma va ra nw w h hs hT hg hl hst
  · exact specState_any lv tv L T tk kd id ow ma va ra nw w h hs hT hg e1 hl hst

end Go.Proofs.Ytojlkdmlelgcbaa

/- Customs: words for the walks of the laws of DoDeed and RunDeeds. Written by wip/mk16b.py. -/
namespace Go.Proofs.Ytojlkdmlelgcbaa
open Go.RowKit

/-- The program's answer, told as the specification's. -/
theorem implDoDeed_b (lv tv : Value) (L : List LotT) (T : List TraderT) (tk kd id ow ma va ra nw : Int) (w : World) (h : HsIn w lv tv (L, T, tk)) (hs : L.length ≤ 1048576) (hT : T.length ≤ 1048576) :
    Calls Try.prog 12 #[vHouse lv tv tk, vDeed kd id ow ma va ra nw] w fun e w' => SpA w (doH (L, T, tk) (kd, id, ow, ma, va, ra, nw)) e w' := by
  refine (implDoDeed_any lv tv L T tk kd id ow ma va ra nw w h hs hT).mono ?_
  rintro e w' ⟨gl, cp, gt, rfl, hb, h1, h2, hB⟩
  have hl := do_len (L, T, tk) (kd, id, ow, ma, va, ra, nw)
  dsimp only at hl
  refine ⟨_, _, rfl, fun W2 hk => ?_, hB⟩
  exact (hb.kept hk (fun h => by have h : gl < w.heap.size := h; omega) (fun h => by have h : gt < w.heap.size := h; omega)).inn _ (by omega)
structure Lw (w W : World) (av ov : List Value) : Prop where
  below : Below w.heap.size w W
  arg : OwnV W w.heap.size av
  op : OwnV W (w.heap.size + 1) ov
section
variable {w W W' : World} {av ov : List Value}
theorem Lw.step (h : Lw w W av ov) (hb : Below W.heap.size W W') : Lw w W' av ov := ⟨Below.step h.below hb, h.arg.step hb, h.op.step hb⟩
theorem Lw.kept {T : Nat → Prop} (h : Lw w W av ov) (hk : Kept T W W') (hT : ∀ k, T k → w.heap.size + 1 < k) : Lw w W' av ov :=
  ⟨h.below.trans (hk.below h.below.size fun k x => by have := hT k x; omega), h.arg.kept hk (fun x => by have := hT _ x; omega), h.op.kept hk (fun x => by have := hT _ x; omega)⟩
theorem Lw.lt (h : Lw w W av ov) : w.heap.size + 1 < W.heap.size := h.op.lt
theorem kept_ltn {n g : Nat} (hg : g < n) (h : Kept (fun b => b = g) W W') : Kept (fun b => b < n) W W' := h.mono fun k _ e => by have e : k = g := e; show k < n; omega
end

end Go.Proofs.Ytojlkdmlelgcbaa

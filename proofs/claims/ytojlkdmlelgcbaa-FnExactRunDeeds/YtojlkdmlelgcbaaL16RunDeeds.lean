/- The law of RunDeeds, walked. Written by wip/mk16r.py. -/
import Derived.Test.YtojlkdmlelgcbaaCsVr
import Derived.Test.YtojlkdmlelgcbaaWalkQ
import Derived.Deep.RegionHeld3
import Derived.Deep.DeepCutAuto
import Derived.Deep.Cut
namespace Go.Proofs.Ytojlkdmlelgcbaa
open Go.RowKit

structure Lr (w W : World) (av : List Value) : Prop where
  below : Below w.heap.size w W
  arg : OwnV W w.heap.size av
/-- Codes in a row of their own, or none. -/
def Cdw (W : World) (co : Option Addr) (D : Nat) (cs : List Int) : Prop := cs ≠ [] → co = some ⟨D, 0, none⟩ ∧ OwnV W D (ints cs)
section
variable {w W W' : World} {av : List Value} {co : Option Addr} {D : Nat} {cs : List Int}
theorem Lr.step (h : Lr w W av) (hb : Below W.heap.size W W') : Lr w W' av := ⟨Below.step h.below hb, h.arg.step hb⟩
theorem Lr.kept {T : Nat → Prop} (h : Lr w W av) (hk : Kept T W W') (hT : ∀ k, T k → w.heap.size < k) : Lr w W' av :=
  ⟨h.below.trans (hk.below h.below.size fun k x => by have := hT k x; omega), h.arg.kept hk (fun x => by have := hT _ x; omega)⟩
theorem Lr.lt (h : Lr w W av) : w.heap.size < W.heap.size := h.arg.lt
theorem Cdw.step (h : Cdw W co D cs) (hb : Below W.heap.size W W') : Cdw W' co D cs := fun hc => ⟨(h hc).1, (h hc).2.step hb⟩
theorem Cdw.kept {T : Nat → Prop} (h : Cdw W co D cs) (hk : Kept T W W') (hT : cs ≠ [] → ¬ T D) : Cdw W' co D cs := fun hc => ⟨(h hc).1, (h hc).2.kept hk (hT hc)⟩
theorem Cdw.inn (h : Cdw W co D cs) (hl : cs.length ≤ maxLen) : IntsIn W (.slice co cs.length cs.length) cs := by
  by_cases hc : cs = []
  · subst hc
    exact ⟨co, 0, rfl, Nat.le_refl _, Nat.zero_le _, fun _ hi => absurd hi (Nat.not_lt_zero _)⟩
  · obtain ⟨rfl, ho⟩ := h hc
    exact ho.intsIn (Nat.le_refl _) hl
end
theorem eqIntS_c (v v' : Value) (xs : List Int) (w : World) (h : IntsIn w v xs) (h' : IntsIn w v' xs) :
    Calls Try.prog 30 #[v, v'] w fun e w' => e = .returned (.bool true) ∧ Below w.heap.size w w' := by
  refine (eqIntS_any v v' xs w h h').mono ?_
  rintro e w' ⟨rfl, n, rfl⟩
  exact ⟨rfl, below_drewN (Below.refl _ _) n⟩
theorem markCd (co : Option Addr) (D : Nat) (cs : List Int) (k : Int) (W : World) (h : Cdw W co D cs) (hs : cs.length ≤ 200) (h0 : 0 ≤ k) (h1 : k ≤ 4611686018427387904) :
    Calls Try.prog 33 #[.slice co cs.length cs.length, .int .i64 k] W fun e w' => e = .returned (.int .i64 (k + cs.length)) ∧ Kept (fun b => b = D ∧ cs ≠ []) W w' ∧ Cdw w' co D (marks k cs.length) := by
  refine (markIntS_any co cs.length cs k D W h (by omega) h0 h1).mono ?_
  rintro e w' ⟨rfl, hk, hm⟩
  refine ⟨rfl, hk, fun hc => ?_⟩
  have hne : cs ≠ [] := fun e => hc (by subst e; rfl)
  exact ⟨(h hne).1, hm hne⟩
theorem heldCd (co : Option Addr) (D n : Nat) (k : Int) (W : World) (h : Cdw W co D (marks k n)) (hs : n ≤ 200) (h0 : 0 ≤ k) (h1 : k ≤ 4611686018427387904) :
    Calls Try.prog 34 #[.slice co n n, .int .i64 k] W fun e w' => e = .returned (.int .i64 (k + n)) ∧ Below W.heap.size W w' := by
  have hi := h.inn (by rw [marks_len]; unfold maxLen; omega)
  rw [marks_len] at hi
  refine (heldIntS_any _ (marks k n) k W hi (by rw [marks_len]) (by rw [marks_len]; omega) h0 h1).mono ?_
  rintro e w' ⟨rfl, rfl⟩
  rw [marks_len]
  exact ⟨rfl, Below.refl _ _⟩
/-- The program's answer, told as the specification's. -/
theorem implRunDeeds_b (lv tv ov : Value) (L : List LotT) (T : List TraderT) (tk : Int) (O : List DeedT) (w : World) (h : HsIn w lv tv (L, T, tk)) (hs : L.length ≤ 1048576) (hT : T.length ≤ 1048576) (ho : RDeed w ov O) :
    Calls Try.prog 14 #[vHouse lv tv tk, ov] w fun e w' => RSA w (stH (L, T, tk) O (runN O)) (cdsH (L, T, tk) O (runN O)) e w' := by
  refine (implRunDeeds_any lv tv ov L T tk O w h hs hT ho).mono ?_
  rintro e w' ⟨gl, cp, gt, co, D, rfl, hP, h1, h2, hC, hb⟩
  have hl := st_len (L, T, tk) O (runN O) hs
  dsimp only at hl
  refine ⟨_, _, _, _, _, rfl, fun W2 hk => ⟨?_, ?_⟩, hb⟩
  · exact (hP.kept hk (fun h => by have h : gl < w.heap.size := h; omega) (fun h => by have h : gt < w.heap.size := h; omega)).inn _ (by omega)
  · have hc : Cdw w' co D (cdsH (L, T, tk) O (runN O)) := fun hc => ⟨(hC hc).1, (hC hc).2.2.2.2⟩
    exact (hc.kept hk (fun hc hT => by have := (hC hc).2.1; have hT : D < w.heap.size := hT; omega)).inn (by rw [cdsH_len]; have := runN_200 O; unfold maxLen; omega)

set_option maxRecDepth 1000000 in
set_option maxHeartbeats 16000000 in
theorem lawRunDeeds_any (lv tv : Value) (L : List LotT) (T : List TraderT) (tk : Int) (ov : Value) (O : List DeedT) (w : World) (h : HsIn w lv tv (L, T, tk)) (ho : RDeed w ov O) :
    Calls Try.prog 8 #[vHouse lv tv tk, ov] w fun e w' => e = .returned (.bool true) ∧ Below w.heap.size w w' := by
  have HV := hide h
  obtain ⟨h1, h2⟩ := h
  obtain ⟨ao, cap, rfl, -⟩ := h1
  obtain ⟨fo, fcap, rfl, -⟩ := h2
  dsimp only at HV ⊢
  have hy := ho
  obtain ⟨oo, ocap, rfl, -⟩ := hy
  have HVO := hide ho
  have A1 := Below.alloc1 w (.cells #[.slice ao L.length cap, .slice fo T.length fcap, .int .i64 tk] 55)
  obtain ⟨X0, eX0⟩ : ∃ X, X = w.alloc (.cells #[.slice ao L.length cap, .slice fo T.length fcap, .int .i64 tk] 55) := ⟨_, rfl⟩
  have HL : Hid (Lr w X0 [.slice ao L.length cap, .slice fo T.length fcap, .int .i64 tk]) := by
    show Lr _ _ _
    rw [eX0]
    exact ⟨A1, ownV_alloc _ _ _⟩
  have HTO0 := hide fun V (hV : Below w.heap.size w V) => toHouse_any tk _ _ _ _ _ _ L T V ((unhide HV).1.below hV) ((unhide HV).2.below hV)
  have HSZ := hide fun V (hV : Below w.heap.size w V) l => szHouse_any tk _ _ _ _ _ _ L T l V ((unhide HV).1.below hV) ((unhide HV).2.below hV)
  have HSO := hide fun V (hV : Below w.heap.size w V) l h0 h1 => szDeedS_any _ O l V ((unhide HVO).below hV) h0 h1
  have HTP0 := hide fun V (hV : Below w.heap.size w V) hs => toDeedS_any _ O V ((unhide HVO).below hV) hs
  have HSP0 := hide fun V bv fv ov (hV : HsIn V bv fv (L, T, tk)) (hO : RDeed V ov O) h1 h2 => specRunDeeds_any bv fv ov L T tk O V hV h1 h2 hO
  have HIP0 := hide fun V bv fv ov (hV : HsIn V bv fv (L, T, tk)) (hO : RDeed V ov O) h1 h2 => implRunDeeds_any bv fv ov L T tk O V hV h1 h2 hO
  have HIB0 := hide fun V bv fv ov (hV : HsIn V bv fv (L, T, tk)) (hO : RDeed V ov O) h1 h2 => implRunDeeds_b bv fv ov L T tk O V hV h1 h2 hO
  have HDL := hide (st_len (L, T, tk) O (runN O))
  have hCl : (cdsH (L, T, tk) O (runN O)).length ≤ 200 := by rw [cdsH_len]; exact runN_200 O
  obtain ⟨⟨LL, FF, tk2⟩, ev⟩ : ∃ z, z = stH (L, T, tk) O (runN O) := ⟨_, rfl⟩
  obtain ⟨CS, ec⟩ : ∃ z, z = cdsH (L, T, tk) O (runN O) := ⟨_, rfl⟩
  rw [← ev] at HSP0 HIP0 HIB0 HDL
  rw [← ec] at HSP0 HIP0 HIB0 hCl
  dsimp only at HDL
  clear ev ec ho A1
  unfold vHouse at HSZ HTO0 HSP0 HIP0 HIB0 ⊢
  go_enter Try.func8, Try.ntmps8
  go_upto_region 2 with (fail)
  rw [← eX0]
  clear eX0
  have a0 := (unhide HL).arg.cell (i := 0) rfl
  have a1 := (unhide HL).arg.cell (i := 1) rfl
  have a2 := (unhide HL).arg.cell (i := 2) rfl
  go_wp2_with fail
  refine (unhide HSZ _ (unhide HL).below _ (by omega) (by omega)).mono ?_
  rintro e v0 ⟨r, rfl, hr0, hr1, hr2, hb⟩
  replace HL := hide ((unhide HL).step hb)
  have HR := hide hr2
  clear hb hr2 HSZ a0 a1 a2
  by_cases hr : r < 0
  · have HW := hide (unhide HL).below
    go_wp2
    go_ret
    exact ⟨rfl, unhide HW⟩
  obtain ⟨hsL, hsT⟩ := unhide HR (by omega)
  have hFF : FF.length ≤ 1048576 := by have := (unhide HDL hsL).1; omega
  have hLL : LL.length ≤ 1048576 := (unhide HDL hsL).2
  clear HR HDL
  go_wp2_with fail
  refine (unhide HSO _ (unhide HL).below _ (by omega) (by omega)).mono ?_
  rintro e X ⟨r', rfl, ⟨hs0, hs1, hs2⟩, hb⟩
  replace HL := hide ((unhide HL).step hb)
  have HR := hide hs2
  clear hb hs2 HSO
  by_cases hr' : r' < 0
  · have HW := hide (unhide HL).below
    go_wp2
    go_ret
    exact ⟨rfl, unhide HW⟩
  have hOl : O.length ≤ 1048576 := unhide HR (by omega)
  clear HR
  have HTO := hide fun V hV => unhide HTO0 V hV hsL hsT
  have HTP := hide fun V hV => unhide HTP0 V hV hOl
  have HSP := hide fun V bv fv ov hV hO => unhide HSP0 V bv fv ov hV hO hsL hsT
  have HIP := hide fun V bv fv ov hV hO => unhide HIP0 V bv fv ov hV hO hsL hsT
  have HIB := hide fun V bv fv ov hV hO => unhide HIB0 V bv fv ov hV hO hsL hsT
  have HOm : Hid (O.length ≤ maxLen) := by show _ ≤ _; unfold maxLen; omega
  have HCm : Hid (CS.length ≤ maxLen) := by show _ ≤ _; unfold maxLen; omega
  clear HTO0 HTP0 HSP0 HIP0 HIB0
  have a0 := (unhide HL).arg.cell (i := 0) rfl
  have a1 := (unhide HL).arg.cell (i := 1) rfl
  have a2 := (unhide HL).arg.cell (i := 2) rfl
  go_wp2_with fail
  refine (unhide HTO _ (unhide HL).below).mono ?_
  rintro e v1 ⟨b1, b2, rfl, hb0, hb1, ho1, ho2, hb⟩
  replace HL := hide ((unhide HL).step hb)
  have HK1 := hide (OwnV.hsIn tk ho1 ho2 hsL hsT)
  clear hb ho1 ho2 hb0 hb1 a0 a1 a2
  go_wp2_with fail
  refine (unhide HTP _ (unhide HL).below).mono ?_
  rintro e v2 ⟨go1, rfl, -, ho1, hb⟩
  replace HL := hide ((unhide HL).step hb)
  replace HK1 := hide ((unhide HK1).below hb)
  have HR1 := hide (OwnV.recsIn ho1 (Nat.le_refl _) (unhide HOm))
  clear hb ho1
  go_wp2_with fail
  refine (unhide HSP _ _ _ _ (unhide HK1) (unhide HR1)).mono ?_
  rintro e v3 hA
  obtain ⟨bw, fw, wo, wm, wcap, rfl, hin, hb⟩ := hA
  obtain ⟨hin0, hci⟩ := hin v3 (Kept.refl _ _)
  have hin1 := hin0
  obtain ⟨⟨q1, q3, rfl, -⟩, ⟨p1, p3, rfl, -⟩⟩ := hin1
  obtain rfl : wm = CS.length := by obtain ⟨_, _, e, -⟩ := hci; simp only [Value.slice.injEq] at e; exact e.2.1
  unfold vHouse
  dsimp only at hin0 ⊢
  replace HL := hide ((unhide HL).step hb)
  clear hb hin HK1 HR1
  have HKW := hide hin0
  have HCW := hide hci
  have hlw := (unhide HL).lt
  clear hin0 hci HSP
  obtain ⟨VA, eVA⟩ : ∃ z, z = v3.alloc (.cells #[.slice q1 LL.length q3, .slice p1 FF.length p3, .int .i64 tk2] 27) := ⟨_, rfl⟩
  have hb := Below.alloc1 v3 (.cells #[.slice q1 LL.length q3, .slice p1 FF.length p3, .int .i64 tk2] 27)
  have Hgw := hide (ownV_alloc v3 #[.slice q1 LL.length q3, .slice p1 FF.length p3, .int .i64 tk2] 27)
  have hsVA : v3.heap.size < VA.heap.size := by rw [eVA, World.size_alloc]; omega
  go_upto_region 9 with (fail)
  rw [← eVA] at hb Hgw ⊢
  clear eVA
  replace HL := hide ((unhide HL).step hb)
  replace HKW := hide ((unhide HKW).below hb)
  replace HCW := hide ((unhide HCW).below hb)
  obtain ⟨gw, egw⟩ : ∃ z, z = v3.heap.size := ⟨_, rfl⟩
  rw [← egw] at Hgw ⊢
  have hgw1 : v3.heap.size ≤ gw := by omega
  have hgw2 : gw < VA.heap.size := by omega
  have hgw3 : gw ≤ v3.heap.size := by omega
  clear egw hb
  have HZ := hide (Below.refl VA.heap.size VA)
  have hgw : w.heap.size < gw := by omega
  clear hlw hgw1 hgw3 hsVA
  have a0 := (unhide HL).arg.cell (i := 0) rfl
  have a1 := (unhide HL).arg.cell (i := 1) rfl
  have a2 := (unhide HL).arg.cell (i := 2) rfl
  go_wp2_with fail
  refine (unhide HTO _ (unhide HL).below).mono ?_
  rintro e VB ⟨x1, x2, rfl, hx1, hx12, hox1, hox2, hb⟩
  replace HL := hide ((unhide HL).step hb)
  replace Hgw := hide ((unhide Hgw).step hb)
  replace HZ := hide (Below.step (unhide HZ) hb)
  have hVB := hb.size
  have hx2 := hox2.lt
  have HX := hide (Hb.mk hox1 hox2 ⟨Nat.le_refl _, by unfold maxLen; omega⟩ (by omega) : Hb VB x1 L.length x2 L T)
  clear hb a0 a1 a2 hox1 hox2
  obtain ⟨VC, eVC⟩ : ∃ z, z = VB.alloc (.cells #[.slice (some ⟨x1, 0, none⟩) L.length L.length, .slice (some ⟨x2, 0, none⟩) T.length T.length, .int .i64 tk] 27) := ⟨_, rfl⟩
  have hb := Below.alloc1 VB (.cells #[.slice (some ⟨x1, 0, none⟩) L.length L.length, .slice (some ⟨x2, 0, none⟩) T.length T.length, .int .i64 tk] 27)
  have Hgx := hide (ownV_alloc VB #[.slice (some ⟨x1, 0, none⟩) L.length L.length, .slice (some ⟨x2, 0, none⟩) T.length T.length, .int .i64 tk] 27)
  have hsVC : VB.heap.size < VC.heap.size := by rw [eVC, World.size_alloc]; omega
  go_upto_region 10 with (fail)
  rw [← eVC] at hb Hgx ⊢
  clear eVC
  replace HL := hide ((unhide HL).step hb)
  replace Hgw := hide ((unhide Hgw).step hb)
  replace HZ := hide (Below.step (unhide HZ) hb)
  replace HX := hide ((unhide HX).step hb)
  obtain ⟨gx, egx⟩ : ∃ z, z = VB.heap.size := ⟨_, rfl⟩
  rw [← egx] at Hgx ⊢
  have hgx1 : VB.heap.size ≤ gx := by omega
  have hgx2 : gx < VC.heap.size := by omega
  have hgx3 : gx ≤ VB.heap.size := by omega
  clear egx hb
  go_wp2_with fail
  refine (unhide HTP _ (unhide HL).below).mono ?_
  rintro e VD ⟨gq, rfl, hgq, hoq, hb⟩
  replace HL := hide ((unhide HL).step hb)
  replace Hgw := hide ((unhide Hgw).step hb)
  replace HZ := hide (Below.step (unhide HZ) hb)
  replace HX := hide ((unhide HX).step hb)
  replace Hgx := hide ((unhide Hgx).step hb)
  have hVD := hb.size
  have HQ := hide hoq
  have hgq2 := hoq.lt
  clear hb hoq
  have g0 := (unhide Hgx).cell (i := 0) rfl
  have g1 := (unhide Hgx).cell (i := 1) rfl
  have g2 := (unhide Hgx).cell (i := 2) rfl
  go_wp2_with fail
  refine (unhide HIP _ _ _ _ ((unhide HX).inn tk hsT) (OwnV.recsIn (unhide HQ) (Nat.le_refl _) (unhide HOm))).mono ?_
  rintro e VE hA
  obtain ⟨gl, cp, gt, go, Dd, rfl, hP2, hgl, hgt, hC2, hb⟩ := hA
  unfold vHouse
  dsimp only at hP2 ⊢
  replace HL := hide ((unhide HL).step hb)
  replace Hgw := hide ((unhide Hgw).step hb)
  replace HZ := hide (Below.step (unhide HZ) hb)
  replace HX := hide ((unhide HX).step hb)
  replace Hgx := hide ((unhide Hgx).step hb)
  replace HQ := hide ((unhide HQ).step hb)
  have hVE := hb.size
  have HD : Hid (CS ≠ [] → VD.heap.size ≤ Dd ∧ Dd < VE.heap.size ∧ ¬ Dd = gl ∧ ¬ Dd = gt) := fun hc => ⟨(hC2 hc).2.1, (hC2 hc).2.2.2.2.lt, (hC2 hc).2.2.1, (hC2 hc).2.2.2.1⟩
  have HC : Hid (Cdw VE go Dd CS) := fun hc => ⟨(hC2 hc).1, (hC2 hc).2.2.2.2⟩
  have HG := hide hP2
  have hgll := hP2.lots.lt
  have hgtl := hP2.trs.lt
  clear hb hP2 hC2 g0 g1 g2 HIP
  obtain ⟨VF, eVF⟩ : ∃ z, z = VE.alloc (.cells #[.slice (some ⟨gl, 0, none⟩) LL.length cp, .slice (some ⟨gt, 0, none⟩) FF.length FF.length, .int .i64 tk2] 27) := ⟨_, rfl⟩
  have hb := Below.alloc1 VE (.cells #[.slice (some ⟨gl, 0, none⟩) LL.length cp, .slice (some ⟨gt, 0, none⟩) FF.length FF.length, .int .i64 tk2] 27)
  have Hgg := hide (ownV_alloc VE #[.slice (some ⟨gl, 0, none⟩) LL.length cp, .slice (some ⟨gt, 0, none⟩) FF.length FF.length, .int .i64 tk2] 27)
  have hsVF : VE.heap.size < VF.heap.size := by rw [eVF, World.size_alloc]; omega
  go_upto_region 12 with (fail)
  rw [← eVF] at hb Hgg ⊢
  clear eVF
  replace HL := hide ((unhide HL).step hb)
  replace Hgw := hide ((unhide Hgw).step hb)
  replace HZ := hide (Below.step (unhide HZ) hb)
  replace HX := hide ((unhide HX).step hb)
  replace Hgx := hide ((unhide Hgx).step hb)
  replace HQ := hide ((unhide HQ).step hb)
  replace HC := hide ((unhide HC).step hb)
  replace HG := hide ((unhide HG).step hb)
  obtain ⟨gg, egg⟩ : ∃ z, z = VE.heap.size := ⟨_, rfl⟩
  rw [← egg] at Hgg ⊢
  have hgg1 : VE.heap.size ≤ gg := by omega
  have hgg2 : gg < VF.heap.size := by omega
  have hgg3 : gg ≤ VE.heap.size := by omega
  clear egg hb
  have HEQ := hide fun V h1 h2 => eqHouse_h tk2 (some ⟨gl, 0, none⟩) (some ⟨gt, 0, none⟩) LL.length cp FF.length FF.length q1 p1 LL.length q3 FF.length p3 (LL, FF, tk2) V h1 h2
  unfold vHouse at HEQ
  have HEI := hide fun V v (h1 : IntsIn V v CS) h2 => eqIntS_c v (.slice wo CS.length wcap) CS V h1 h2
  have g0 := (unhide Hgg).cell (i := 0) rfl
  have g1 := (unhide Hgg).cell (i := 1) rfl
  have g2 := (unhide Hgg).cell (i := 2) rfl
  have u0 := (unhide Hgw).cell (i := 0) rfl
  have u1 := (unhide Hgw).cell (i := 1) rfl
  have u2 := (unhide Hgw).cell (i := 2) rfl
  have HKWd := hide ((unhide HKW).below (unhide HZ))
  have HCWd := hide ((unhide HCW).below (unhide HZ))
  go_wp2_with fail
  refine (unhide HEQ _ ((unhide HG).inn tk2 hFF) (unhide HKWd)).mono ?_
  rintro e VG ⟨rfl, hb⟩
  replace HL := hide ((unhide HL).step hb)
  replace Hgw := hide ((unhide Hgw).step hb)
  replace HZ := hide (Below.step (unhide HZ) hb)
  replace HX := hide ((unhide HX).step hb)
  replace Hgx := hide ((unhide Hgx).step hb)
  replace HQ := hide ((unhide HQ).step hb)
  replace HC := hide ((unhide HC).step hb)
  replace HG := hide ((unhide HG).step hb)
  replace Hgg := hide ((unhide Hgg).step hb)
  replace HCWd := hide ((unhide HCWd).below hb)
  clear hb g0 g1 g2 u0 u1 u2 HKWd
  go_wp2_with fail
  refine (unhide HEI _ _ ((unhide HC).inn (unhide HCm)) (unhide HCWd)).mono ?_
  rintro e VH ⟨rfl, hb⟩
  replace HL := hide ((unhide HL).step hb)
  replace Hgw := hide ((unhide Hgw).step hb)
  replace HZ := hide (Below.step (unhide HZ) hb)
  replace HX := hide ((unhide HX).step hb)
  replace Hgx := hide ((unhide Hgx).step hb)
  replace HQ := hide ((unhide HQ).step hb)
  replace HC := hide ((unhide HC).step hb)
  replace HG := hide ((unhide HG).step hb)
  replace Hgg := hide ((unhide Hgg).step hb)
  clear hb HCWd
  have HXB : Hid (∀ V, Below VH.heap.size VH V → HsIn V (.slice (some ⟨x1, 0, none⟩) L.length L.length) (.slice (some ⟨x2, 0, none⟩) T.length T.length) (L, T, tk)) := fun V hV => ((unhide HX).step hV).inn tk hsT
  have HEQX := hide fun V y1 y2 (h1 : HsIn V (.slice (some ⟨x1, 0, none⟩) L.length L.length) (.slice (some ⟨x2, 0, none⟩) T.length T.length) (L, T, tk)) (h2 : HsIn V (.slice y1 L.length L.length) (.slice y2 T.length T.length) (L, T, tk)) => eqHouse_h tk _ _ _ _ _ _ _ _ _ _ _ _ (L, T, tk) V h1 h2
  unfold vHouse at HEQX
  have sa0 := (unhide HL).arg.cell (i := 0) rfl
  have sa1 := (unhide HL).arg.cell (i := 1) rfl
  have sa2 := (unhide HL).arg.cell (i := 2) rfl
  have sg0 := (unhide Hgx).cell (i := 0) rfl
  have sg1 := (unhide Hgx).cell (i := 1) rfl
  have sg2 := (unhide Hgx).cell (i := 2) rfl
  go_upto_region 14 with (fail)
  go_cut [59] (fun s59 wx => s59 = .bool false ∧ Hid (Below VH.heap.size VH wx))
  case first =>
    go_region_held3 (fun w' => w'.cell? ⟨w.heap.size, 0, none⟩ = some (.slice ao L.length cap) ∧ w'.cell? ⟨w.heap.size, 1, none⟩ = some (.slice fo T.length fcap) ∧ w'.cell? ⟨w.heap.size, 2, none⟩ = some (.int .i64 tk) ∧ w'.cell? ⟨gx, 0, none⟩ = some (.slice (some ⟨x1, 0, none⟩) L.length L.length) ∧ w'.cell? ⟨gx, 1, none⟩ = some (.slice (some ⟨x2, 0, none⟩) T.length T.length) ∧ w'.cell? ⟨gx, 2, none⟩ = some (.int .i64 tk)) (go_keep) (first
      | (go_at_call 21; refine (unhide HTO _ (by first | exact (unhide HL).below | exact (unhide HL).below.drew)).mono ?_; rintro e wa ⟨y1, y2, rfl, hy0, hy1, ho1, ho2, hb⟩; (first | (have HB1 : Hid (Below VH.heap.size VH wa) := hb) | (have HB1 : Hid (Below VH.heap.size VH wa) := below_undrewA hb)); have taa0 := ((unhide HL).step (unhide HB1)).arg.cell (i := 0) rfl; have taa1 := ((unhide HL).step (unhide HB1)).arg.cell (i := 1) rfl; have taa2 := ((unhide HL).step (unhide HB1)).arg.cell (i := 2) rfl; have tag0 := ((unhide Hgx).step (unhide HB1)).cell (i := 0) rfl; have tag1 := ((unhide Hgx).step (unhide HB1)).cell (i := 1) rfl; have tag2 := ((unhide Hgx).step (unhide HB1)).cell (i := 2) rfl; have HE1 := hide (unhide HEQX wa _ _ (unhide HXB _ (unhide HB1)) (OwnV.hsIn tk ho1 ho2 hsL hsT)); clear hb ho1 ho2)
      | (go_at_call 22; refine (unhide HE1).mono ?_; rintro e wb ⟨rfl, hb⟩; (first | (have HB2 : Hid (Below wa.heap.size wa wb) := hb) | (have HB2 : Hid (Below wa.heap.size wa wb) := below_undrewA hb)); have tba0 := ((unhide HL).step (Below.step (unhide HB1) (unhide HB2))).arg.cell (i := 0) rfl; have tba1 := ((unhide HL).step (Below.step (unhide HB1) (unhide HB2))).arg.cell (i := 1) rfl; have tba2 := ((unhide HL).step (Below.step (unhide HB1) (unhide HB2))).arg.cell (i := 2) rfl; have tbg0 := ((unhide Hgx).step (Below.step (unhide HB1) (unhide HB2))).cell (i := 0) rfl; have tbg1 := ((unhide Hgx).step (Below.step (unhide HB1) (unhide HB2))).cell (i := 1) rfl; have tbg2 := ((unhide Hgx).step (Below.step (unhide HB1) (unhide HB2))).cell (i := 2) rfl; clear hb))
    all_goals
      go_wp2_with fail
      go_meet
      exact ⟨rfl, hide (Below.step (unhide HB1) (unhide HB2))⟩
  case rest =>
    obtain ⟨rfl, HBX⟩ := hcut
    generalize wc = VI at *
    have hb := unhide HBX
    clear sa0 sa1 sa2 sg0 sg1 sg2 HXB HEQX HBX
    replace HL := hide ((unhide HL).step hb)
    replace Hgw := hide ((unhide Hgw).step hb)
    replace HZ := hide (Below.step (unhide HZ) hb)
    replace HX := hide ((unhide HX).step hb)
    replace Hgx := hide ((unhide Hgx).step hb)
    replace HQ := hide ((unhide HQ).step hb)
    replace HC := hide ((unhide HC).step hb)
    replace HG := hide ((unhide HG).step hb)
    replace Hgg := hide ((unhide Hgg).step hb)
    clear hb
    go_wp2_with fail
    refine (unhide HTP _ (unhide HL).below).mono ?_
    rintro e VJ ⟨go1, rfl, -, ho1, hb⟩
    replace HL := hide ((unhide HL).step hb)
    replace Hgw := hide ((unhide Hgw).step hb)
    replace HZ := hide (Below.step (unhide HZ) hb)
    replace HX := hide ((unhide HX).step hb)
    replace Hgx := hide ((unhide Hgx).step hb)
    replace HQ := hide ((unhide HQ).step hb)
    replace HC := hide ((unhide HC).step hb)
    replace HG := hide ((unhide HG).step hb)
    replace Hgg := hide ((unhide Hgg).step hb)
    have HR1 := hide (OwnV.recsIn ho1 (Nat.le_refl _) (unhide HOm))
    clear hb ho1
    go_wp2_with fail
    refine (eqDeedS_any _ _ O _ (OwnV.recsIn (unhide HQ) (Nat.le_refl _) (unhide HOm)) (unhide HR1)).mono ?_
    rintro e VK ⟨rfl, hb⟩
    replace HL := hide ((unhide HL).step hb)
    replace Hgw := hide ((unhide Hgw).step hb)
    replace HZ := hide (Below.step (unhide HZ) hb)
    replace HX := hide ((unhide HX).step hb)
    replace Hgx := hide ((unhide Hgx).step hb)
    replace HQ := hide ((unhide HQ).step hb)
    replace HC := hide ((unhide HC).step hb)
    replace HG := hide ((unhide HG).step hb)
    replace Hgg := hide ((unhide Hgg).step hb)
    clear hb HR1
    have HM1 := hide fun V hV => markHouse_b x1 L.length x2 T.length L T tk V hV hsL hsT
    have HM2 := hide fun V hV => markHouse_b gl cp gt FF.length LL FF tk2 V hV hLL hFF
    have HH2 := hide fun V hV => heldHouse_b gl cp gt FF.length LL.length FF.length tk2 V hV hLL hFF
    unfold vHouse at HM1 HM2 HH2
    have hn1 : 0 ≤ 1 + 7 * (L.length : Int) + 3 * (T.length : Int) ∧ 1 + 7 * (L.length : Int) + 3 * (T.length : Int) ≤ 1152921504606846976 := by omega
    have hn2 : 0 ≤ 1 + 7 * (LL.length : Int) + 3 * (FF.length : Int) ∧ 1 + 7 * (LL.length : Int) + 3 * (FF.length : Int) ≤ 1152921504606846976 := by omega
    obtain ⟨N1, eN1⟩ : ∃ z : Int, z = 1 + 7 * (L.length : Int) + 3 * (T.length : Int) := ⟨_, rfl⟩
    obtain ⟨N2, eN2⟩ : ∃ z : Int, z = 1 + 7 * (LL.length : Int) + 3 * (FF.length : Int) := ⟨_, rfl⟩
    rw [← eN1] at hn1 HM1
    rw [← eN2] at hn2 HM2 HH2
    clear eN1 eN2
    have HMO := hide fun V hV => markDeedS_any gq O.length O.length (recCells 7 eDeed O) N1 V hV (by rw [recCells_length]; exact Nat.le_refl _) hOl hn1.1 hn1.2
    have HMC := hide fun V hV => markCd go Dd CS N2 V hV hCl hn2.1 (Int.le_trans hn2.2 (by decide))
    have HHC := hide fun V hV => heldCd go Dd CS.length N2 V hV hCl hn2.1 (Int.le_trans hn2.2 (by decide))
    have hm1 : 0 ≤ N1 + 7 * (O.length : Int) := by have := hn1.1; omega
    have hm2 : 0 ≤ N2 + (CS.length : Int) := by have := hn2.1; omega
    obtain ⟨M1, eM1⟩ : ∃ z, z = N1 + 7 * (O.length : Int) := ⟨_, rfl⟩
    obtain ⟨M2, eM2⟩ : ∃ z, z = N2 + (CS.length : Int) := ⟨_, rfl⟩
    rw [← eM1] at hm1 HMO
    rw [← eM2] at hm2 HMC HHC
    have dn1 : decide (M1 < 0) = false := by simp; omega
    have dn2 : decide (N2 < 0) = false := by have := hn2.1; simp; omega
    have dn3 : decide (M2 < 0) = false := by simp; omega
    have hnn : (M2 != M2) = false := by simp
    clear eM1 eM2 hn1 hn2
    have g0 := (unhide Hgx).cell (i := 0) rfl
    have g1 := (unhide Hgx).cell (i := 1) rfl
    have g2 := (unhide Hgx).cell (i := 2) rfl
    go_wp2_with fail
    refine (unhide HM1 _ (unhide HX)).mono ?_
    rintro e VL ⟨rfl, hk, -⟩
    have hVA := (unhide HL).lt
    have hgxs : VA.heap.size ≤ x1 ∧ VA.heap.size ≤ x2 ∧ x1 < VC.heap.size ∧ x2 < VC.heap.size := by omega
    replace HL := hide ((unhide HL).kept hk (fun k h => by rcases h with e | e <;> omega))
    replace Hgw := hide ((unhide Hgw).kept hk (fun h => by rcases h with e | e <;> omega))
    replace Hgg := hide ((unhide Hgg).kept hk (fun h => by rcases h with e | e <;> omega))
    replace HQ := hide ((unhide HQ).kept hk (fun h => by rcases h with e | e <;> omega))
    replace HC := hide ((unhide HC).kept hk (fun hc h => by have := (unhide HD hc).1; rcases h with e | e <;> omega))
    replace HG := hide ((unhide HG).kept hk (fun h => by rcases h with e | e <;> omega) (fun h => by rcases h with e | e <;> omega))
    replace HZ := hide ((unhide HZ).trans (hk.below (unhide HZ).size (fun k h => by rcases h with e | e <;> omega)))
    clear hk g0 g1 g2 HM1 hVA
    clear Hgx HX
    go_wp2_with fail
    refine (unhide HMO _ (unhide HQ)).mono ?_
    rintro e VM ⟨rfl, hk, -⟩
    replace HL := hide ((unhide HL).kept hk (fun k h => by have h : k = gq := h; omega))
    replace Hgw := hide ((unhide Hgw).kept hk (fun h => by have h : gw = gq := h; omega))
    replace Hgg := hide ((unhide Hgg).kept hk (fun h => by have h : gg = gq := h; omega))
    replace HC := hide ((unhide HC).kept hk (fun hc h => by have := (unhide HD hc).1; have h : Dd = gq := h; omega))
    replace HG := hide ((unhide HG).kept hk (fun h => by have h : gl = gq := h; omega) (fun h => by have h : gt = gq := h; omega))
    replace HZ := hide ((unhide HZ).trans (hk.below (unhide HZ).size (fun k h => by have h : k = gq := h; omega)))
    clear hk HMO
    clear HQ
    have g0 := (unhide Hgg).cell (i := 0) rfl
    have g1 := (unhide Hgg).cell (i := 1) rfl
    have g2 := (unhide Hgg).cell (i := 2) rfl
    have u0 := (unhide Hgw).cell (i := 0) rfl
    have u1 := (unhide Hgw).cell (i := 1) rfl
    have u2 := (unhide Hgw).cell (i := 2) rfl
    have HKWd := hide ((unhide HKW).below (unhide HZ))
    have HCWd := hide ((unhide HCW).below (unhide HZ))
    go_wp2_with fail
    refine (unhide HEQ _ ((unhide HG).inn tk2 hFF) (unhide HKWd)).mono ?_
    rintro e VN ⟨rfl, hb⟩
    replace HL := hide ((unhide HL).step hb)
    replace Hgw := hide ((unhide Hgw).step hb)
    replace HZ := hide (Below.step (unhide HZ) hb)
    replace HC := hide ((unhide HC).step hb)
    replace HG := hide ((unhide HG).step hb)
    replace Hgg := hide ((unhide Hgg).step hb)
    replace HCWd := hide ((unhide HCWd).below hb)
    clear hb g0 g1 g2 u0 u1 u2 HKWd
    go_wp2_with fail
    refine (unhide HEI _ _ ((unhide HC).inn (unhide HCm)) (unhide HCWd)).mono ?_
    rintro e VO ⟨rfl, hb⟩
    replace HL := hide ((unhide HL).step hb)
    replace Hgw := hide ((unhide Hgw).step hb)
    replace HZ := hide (Below.step (unhide HZ) hb)
    replace HC := hide ((unhide HC).step hb)
    replace HG := hide ((unhide HG).step hb)
    replace Hgg := hide ((unhide Hgg).step hb)
    clear hb HCWd
    have g0 := (unhide Hgg).cell (i := 0) rfl
    have g1 := (unhide Hgg).cell (i := 1) rfl
    have g2 := (unhide Hgg).cell (i := 2) rfl
    go_wp2_with fail
    refine (unhide HM2 _ (unhide HG)).mono ?_
    rintro e VP ⟨rfl, hk, hom⟩
    replace HL := hide ((unhide HL).kept hk (fun k h => by rcases h with e | e <;> omega))
    replace Hgw := hide ((unhide Hgw).kept hk (fun h => by rcases h with e | e <;> omega))
    replace Hgg := hide ((unhide Hgg).kept hk (fun h => by rcases h with e | e <;> omega))
    replace HC := hide ((unhide HC).kept hk (fun hc h => by have := (unhide HD hc).2.2; rcases h with e | e <;> omega))
    replace HZ := hide ((unhide HZ).trans (hk.below (unhide HZ).size (fun k h => by rcases h with e | e <;> omega)))
    have HGM := hide hom
    clear hk hom HM2 g0 g1 g2
    clear HG
    go_wp2_with fail
    refine (unhide HMC _ (unhide HC)).mono ?_
    rintro e VQ ⟨rfl, hk, hom⟩
    replace HL := hide ((unhide HL).kept hk (fun k h => by have := (unhide HD h.2).1; have := h.1; omega))
    replace Hgw := hide ((unhide Hgw).kept hk (fun h => by have := (unhide HD h.2).1; have := h.1; omega))
    replace Hgg := hide ((unhide Hgg).kept hk (fun h => by have := (unhide HD h.2).2.1; have := h.1; omega))
    replace HGM := hide ((unhide HGM).kept hk (fun h => by have := (unhide HD h.2).2.2; have := h.1; omega) (fun h => by have := (unhide HD h.2).2.2; have := h.1; omega))
    replace HZ := hide ((unhide HZ).trans (hk.below (unhide HZ).size (fun k h => by have := (unhide HD h.2).1; have := h.1; omega)))
    have HCM := hide hom
    clear hk hom HMC
    clear HC
    have g0 := (unhide Hgg).cell (i := 0) rfl
    have g1 := (unhide Hgg).cell (i := 1) rfl
    have g2 := (unhide Hgg).cell (i := 2) rfl
    go_wp2_with fail
    refine (unhide HH2 _ (unhide HGM)).mono ?_
    rintro e VR ⟨rfl, hb⟩
    replace HL := hide ((unhide HL).step hb)
    replace Hgw := hide ((unhide Hgw).step hb)
    replace HZ := hide (Below.step (unhide HZ) hb)
    replace Hgg := hide ((unhide Hgg).step hb)
    replace HGM := hide ((unhide HGM).step hb)
    replace HCM := hide ((unhide HCM).step hb)
    clear hb g0 g1 g2
    go_wp2_with fail
    refine (unhide HHC _ (unhide HCM)).mono ?_
    rintro e VS ⟨rfl, hb⟩
    replace HL := hide ((unhide HL).step hb)
    replace Hgw := hide ((unhide Hgw).step hb)
    replace HZ := hide (Below.step (unhide HZ) hb)
    replace Hgg := hide ((unhide Hgg).step hb)
    replace HGM := hide ((unhide HGM).step hb)
    replace HCM := hide ((unhide HCM).step hb)
    clear hb
    have a0 := (unhide HL).arg.cell (i := 0) rfl
    have a1 := (unhide HL).arg.cell (i := 1) rfl
    have a2 := (unhide HL).arg.cell (i := 2) rfl
    go_wp2_with fail
    refine (unhide HTO _ (unhide HL).below).mono ?_
    rintro e y1 ⟨b1, b2, rfl, hb0, hb1, ho1, ho2, hb⟩
    replace HL := hide ((unhide HL).step hb)
    replace Hgw := hide ((unhide Hgw).step hb)
    replace HZ := hide (Below.step (unhide HZ) hb)
    replace Hgg := hide ((unhide Hgg).step hb)
    replace HGM := hide ((unhide HGM).step hb)
    replace HCM := hide ((unhide HCM).step hb)
    have HK1 := hide (OwnV.hsIn tk ho1 ho2 hsL hsT)
    clear hb ho1 ho2 hb0 hb1 a0 a1 a2
    go_wp2_with fail
    refine (unhide HTP _ (unhide HL).below).mono ?_
    rintro e y2 ⟨go1, rfl, -, ho1, hb⟩
    replace HL := hide ((unhide HL).step hb)
    replace Hgw := hide ((unhide Hgw).step hb)
    replace HZ := hide (Below.step (unhide HZ) hb)
    replace Hgg := hide ((unhide Hgg).step hb)
    replace HGM := hide ((unhide HGM).step hb)
    replace HCM := hide ((unhide HCM).step hb)
    replace HK1 := hide ((unhide HK1).below hb)
    have HR1 := hide (OwnV.recsIn ho1 (Nat.le_refl _) (unhide HOm))
    clear hb ho1
    go_wp2_with fail
    refine (unhide HIB _ _ _ _ (unhide HK1) (unhide HR1)).mono ?_
    rintro e y3 hA
    obtain ⟨bw, fw, ho9, wm, hcap, rfl, hin, hb⟩ := hA
    obtain ⟨hin0, hci⟩ := hin y3 (Kept.refl _ _)
    have hin1 := hin0
    obtain ⟨⟨s1, s3, rfl, -⟩, ⟨t1, t3, rfl, -⟩⟩ := hin1
    obtain rfl : wm = CS.length := by obtain ⟨_, _, e, -⟩ := hci; simp only [Value.slice.injEq] at e; exact e.2.1
    unfold vHouse
    dsimp only at hin0 ⊢
    replace HL := hide ((unhide HL).step hb)
    replace Hgw := hide ((unhide Hgw).step hb)
    replace HZ := hide (Below.step (unhide HZ) hb)
    replace Hgg := hide ((unhide Hgg).step hb)
    replace HGM := hide ((unhide HGM).step hb)
    replace HCM := hide ((unhide HCM).step hb)
    clear hb hin HK1 HR1
    have HKH := hide hin0
    have HCH := hide hci
    clear hin0 hci HIB
    obtain ⟨VT, eVT⟩ : ∃ z, z = y3.alloc (.cells #[.slice s1 LL.length s3, .slice t1 FF.length t3, .int .i64 tk2] 27) := ⟨_, rfl⟩
    have hb := Below.alloc1 y3 (.cells #[.slice s1 LL.length s3, .slice t1 FF.length t3, .int .i64 tk2] 27)
    have Hgh := hide (ownV_alloc y3 #[.slice s1 LL.length s3, .slice t1 FF.length t3, .int .i64 tk2] 27)
    have hsVT : y3.heap.size < VT.heap.size := by rw [eVT, World.size_alloc]; omega
    go_upto_region 36 with (fail)
    rw [← eVT] at hb Hgh ⊢
    clear eVT
    replace HL := hide ((unhide HL).step hb)
    replace Hgw := hide ((unhide Hgw).step hb)
    replace HZ := hide (Below.step (unhide HZ) hb)
    replace Hgg := hide ((unhide Hgg).step hb)
    replace HGM := hide ((unhide HGM).step hb)
    replace HCM := hide ((unhide HCM).step hb)
    replace HKH := hide ((unhide HKH).below hb)
    replace HCH := hide ((unhide HCH).below hb)
    obtain ⟨gh, egh⟩ : ∃ z, z = y3.heap.size := ⟨_, rfl⟩
    rw [← egh] at Hgh ⊢
    have hgh1 : y3.heap.size ≤ gh := by omega
    have hgh2 : gh < VT.heap.size := by omega
    have hgh3 : gh ≤ y3.heap.size := by omega
    clear egh hb
    have HEQ2 := hide fun V h1 h2 => eqHouse_h tk2 s1 t1 LL.length s3 FF.length t3 q1 p1 LL.length q3 FF.length p3 (LL, FF, tk2) V h1 h2
    unfold vHouse at HEQ2
    have g0 := (unhide Hgh).cell (i := 0) rfl
    have g1 := (unhide Hgh).cell (i := 1) rfl
    have g2 := (unhide Hgh).cell (i := 2) rfl
    have u0 := (unhide Hgw).cell (i := 0) rfl
    have u1 := (unhide Hgw).cell (i := 1) rfl
    have u2 := (unhide Hgw).cell (i := 2) rfl
    have HKWd := hide ((unhide HKW).below (unhide HZ))
    have HCWd := hide ((unhide HCW).below (unhide HZ))
    go_wp2_with fail
    refine (unhide HEQ2 _ (unhide HKH) (unhide HKWd)).mono ?_
    rintro e VU ⟨rfl, hb⟩
    replace HL := hide ((unhide HL).step hb)
    replace Hgw := hide ((unhide Hgw).step hb)
    replace HZ := hide (Below.step (unhide HZ) hb)
    replace Hgg := hide ((unhide Hgg).step hb)
    replace HGM := hide ((unhide HGM).step hb)
    replace HCM := hide ((unhide HCM).step hb)
    replace HKH := hide ((unhide HKH).below hb)
    replace HCH := hide ((unhide HCH).below hb)
    replace Hgh := hide ((unhide Hgh).step hb)
    replace HCWd := hide ((unhide HCWd).below hb)
    clear hb g0 g1 g2 u0 u1 u2 HKWd
    go_wp2_with fail
    refine (unhide HEI _ _ (unhide HCH) (unhide HCWd)).mono ?_
    rintro e VV ⟨rfl, hb⟩
    replace HL := hide ((unhide HL).step hb)
    replace Hgw := hide ((unhide Hgw).step hb)
    replace HZ := hide (Below.step (unhide HZ) hb)
    replace Hgg := hide ((unhide Hgg).step hb)
    replace HGM := hide ((unhide HGM).step hb)
    replace HCM := hide ((unhide HCM).step hb)
    replace HKH := hide ((unhide HKH).below hb)
    replace HCH := hide ((unhide HCH).below hb)
    replace Hgh := hide ((unhide Hgh).step hb)
    clear hb HCWd
    have g0 := (unhide Hgg).cell (i := 0) rfl
    have g1 := (unhide Hgg).cell (i := 1) rfl
    have g2 := (unhide Hgg).cell (i := 2) rfl
    go_wp2_with fail
    refine (unhide HH2 _ (unhide HGM)).mono ?_
    rintro e VW ⟨rfl, hb⟩
    replace HL := hide ((unhide HL).step hb)
    replace Hgw := hide ((unhide Hgw).step hb)
    replace HZ := hide (Below.step (unhide HZ) hb)
    replace Hgg := hide ((unhide Hgg).step hb)
    replace HGM := hide ((unhide HGM).step hb)
    replace HCM := hide ((unhide HCM).step hb)
    replace HKH := hide ((unhide HKH).below hb)
    replace HCH := hide ((unhide HCH).below hb)
    replace Hgh := hide ((unhide Hgh).step hb)
    clear hb g0 g1 g2
    go_wp2_with fail
    refine (unhide HHC _ (unhide HCM)).mono ?_
    rintro e VX ⟨rfl, hb⟩
    replace HL := hide ((unhide HL).step hb)
    replace Hgw := hide ((unhide Hgw).step hb)
    replace HZ := hide (Below.step (unhide HZ) hb)
    replace Hgg := hide ((unhide Hgg).step hb)
    replace HGM := hide ((unhide HGM).step hb)
    replace HCM := hide ((unhide HCM).step hb)
    replace HKH := hide ((unhide HKH).below hb)
    replace HCH := hide ((unhide HCH).below hb)
    replace Hgh := hide ((unhide Hgh).step hb)
    clear hb
    have HW := hide (unhide HL).below
    go_wp2
    go_ret
    exact ⟨rfl, unhide HW⟩

end Go.Proofs.Ytojlkdmlelgcbaa

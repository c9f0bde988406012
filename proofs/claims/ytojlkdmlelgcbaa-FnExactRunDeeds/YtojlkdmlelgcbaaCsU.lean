/- Customs: contracts of the program's DoDeed and RunDeeds. Written by wip/mkcst.py. -/
import Derived.Test.YtojlkdmlelgcbaaCsT
import Derived.Test.YtojlkdmlelgcbaaCsX
namespace Go.Proofs.Ytojlkdmlelgcbaa
open Go.RowKit

/-- A deed's answer: a house of the call's own, and a code. -/
def DdA (w : World) (r : HsT × Int) (e : Ending) (w' : World) : Prop :=
  ∃ gl cp gt, e = .returned (.tuple #[vHouse (.slice (some ⟨gl, 0, none⟩) r.1.1.length cp) (.slice (some ⟨gt, 0, none⟩) r.1.2.1.length r.1.2.1.length) r.1.2.2, .int .i64 r.2]) ∧ Hb w' gl cp gt r.1.1 r.1.2.1 ∧ w.heap.size ≤ gl ∧ w.heap.size ≤ gt ∧ Below w.heap.size w w'
theorem OfT.ge {go gl gp B : Nat} (h1 : B ≤ go) (h2 : B ≤ gl) (h3 : B ≤ gp) : ∀ k, OfT go gl gp k → B ≤ k := fun k h => by rcases h with e | e | e <;> omega

set_option maxRecDepth 100000 in
set_option maxHeartbeats 6400000 in
theorem implDoDeed_any (lv tv : Value) (L : List LotT) (T : List TraderT) (tk kd id ow ma va ra nw : Int) (w : World) (h : HsIn w lv tv (L, T, tk)) (hs : L.length ≤ 1048576) (hT : T.length ≤ 1048576) :
    Calls Try.prog 12 #[vHouse lv tv tk, vDeed kd id ow ma va ra nw] w fun e w' => DdA w (doH (L, T, tk) (kd, id, ow, ma, va, ra, nw)) e w' := by
  have HV := hide h
  obtain ⟨h1, h2⟩ := h
  obtain ⟨ao, lcap, rfl, -⟩ := h1
  obtain ⟨fo, fcap, rfl, -⟩ := h2
  dsimp only at HV ⊢
  have Q1 := hide fun V (hV : Below w.heap.size w V) => officeOf_any _ _ L T tk V ((unhide HV).below hV) hs hT
  have Q2 := hide fun go gl cap gp V hV => do_any go gl cap gp (houseB (L, T, tk)) L T tk kd id ow ma va ra nw V hV rfl hs hT
  have hlen := do_len (L, T, tk) (kd, id, ow, ma, va, ra, nw)
  obtain ⟨⟨⟨L2, P2, tk2⟩, cd⟩, eR⟩ : ∃ r, r = doH (L, T, tk) (kd, id, ow, ma, va, ra, nw) := ⟨_, rfl⟩
  rw [← eR] at Q2 hlen ⊢
  dsimp only at hlen
  have hP2 : P2.length ≤ 1048576 := by omega
  clear eR hlen
  obtain ⟨V0, eV0⟩ : ∃ V, V = ((w.alloc (.cells #[.slice ao L.length lcap, .slice fo T.length fcap, .int .i64 tk] 27)).alloc (.cells #[.int .i64 kd, .int .i64 id, .int .i64 ow, .int .i64 ma, .int .i64 va, .int .i64 ra, .int .i64 nw] 34)).alloc (.cells #[.slice none 0 0, .slice none 0 0, .int .i64 0] 27) := ⟨_, rfl⟩
  have H3 := hide (s3_new w #[.slice ao L.length lcap, .slice fo T.length fcap, .int .i64 tk] #[.int .i64 kd, .int .i64 id, .int .i64 ow, .int .i64 ma, .int .i64 va, .int .i64 ra, .int .i64 nw] #[.slice none 0 0, .slice none 0 0, .int .i64 0] 27 34 27)
  rw [← eV0] at H3
  have hV0 := (unhide H3).o3.lt
  unfold vHouse at Q1 ⊢
  unfold vDeed at Q2 ⊢
  go_enter Try.func12, Try.ntmps12
  go_upto_region 1 with (fail)
  rw [← eV0]
  clear eV0
  have a0 := (unhide H3).o1.cell (i := 0) rfl
  have a1 := (unhide H3).o1.cell (i := 1) rfl
  have a2 := (unhide H3).o1.cell (i := 2) rfl
  go_wp2_with fail
  refine (unhide Q1 _ (unhide H3).below).mono ?_
  rintro e V1 ⟨go, gl, gp, rfl, hof, hgo, hgl, hgp, hb⟩
  replace H3 := hide ((unhide H3).step hb)
  have HF := hide hof
  have hV1 := hb.size
  clear hb hof a0 a1 a2 Q1
  have d0 := (unhide H3).o2.cell (i := 0) rfl
  have d1 := (unhide H3).o2.cell (i := 1) rfl
  have d2 := (unhide H3).o2.cell (i := 2) rfl
  have d3 := (unhide H3).o2.cell (i := 3) rfl
  have d4 := (unhide H3).o2.cell (i := 4) rfl
  have d5 := (unhide H3).o2.cell (i := 5) rfl
  have d6 := (unhide H3).o2.cell (i := 6) rfl
  go_wp2_with fail
  refine (unhide Q2 go gl _ gp _ (unhide HF)).mono ?_
  rintro e V2 ⟨gl2, cap2, rfl, hof, hk, hg⟩
  dsimp only at hof
  have hgl2 : w.heap.size + 2 < gl2 := by rcases hg with e | e <;> omega
  have HR := hide ((unhide H3).o3.kept hk (fun x => by have := OfT.ge (B := V0.heap.size) hgo hgl hgp _ x; omega))
  have HW := hide ((unhide H3).below.trans (hk.below (unhide H3).below.size (fun k x => by have := OfT.ge (B := V0.heap.size) hgo hgl hgp k x; omega)))
  have HF2 := hide hof
  have hlt2 := hof.lt
  clear hk hof hg H3 HF Q2 d0 d1 d2 d3 d4 d5 d6
  have Q3 := hide (told_any go gl2 cap2 gp (houseB (L, T, tk)) L2 P2 tk2 V2 (unhide HF2) (by omega))
  unfold TdA vHouse at Q3
  go_wp2_with fail
  refine (unhide Q3).mono ?_
  rintro e V3 ⟨gt, rfl, hgt, htr, hlo, hcap, hk⟩
  have hgtl := htr.lt
  have HR2 := hide ((unhide HR).kept hk (fun x => by have x : w.heap.size + 1 + 1 = gp := x; omega))
  have HW2 := hide ((unhide HW).trans (hk.below (unhide HW).size (fun k x => by have x : k = gp := x; omega)))
  have HB : Hid (Hb V3 gl2 cap2 gt L2 P2) := ⟨hlo, htr, hcap, by omega⟩
  have hk3 := kept3 V3 (w.heap.size + 1 + 1) 0 1 2 (.slice (some ⟨gl2, 0, none⟩) L2.length cap2) (.slice (some ⟨gt, 0, none⟩) P2.length P2.length) (.int .i64 tk2)
  have HB3 := hide ((unhide HB).kept hk3 (fun x => by have x : gl2 = w.heap.size + 1 + 1 := x; omega) (fun x => by have x : gt = w.heap.size + 1 + 1 := x; omega))
  have HW3 := hide ((unhide HW2).trans (hk3.below (unhide HW2).size (fun k x => by have x : k = w.heap.size + 1 + 1 := x; omega)))
  have HR3 := hide ((((unhide HR2).set 0 (.slice (some ⟨gl2, 0, none⟩) L2.length cap2) (by simp)).set 1 (.slice (some ⟨gt, 0, none⟩) P2.length P2.length) (by simp)).set 2 (.int .i64 tk2) (by simp))
  have r0 := (unhide HR2).cell (i := 0) rfl
  have r1 := (unhide HR2).cell (i := 1) rfl
  have r2 := (unhide HR2).cell (i := 2) rfl
  have rf := (unhide HR2).frozen
  clear htr hlo hk Q3 HF2 HR HW HR2 HW2 HB hk3
  go_wp2
  have k0 := (unhide HR3).cell (i := 0) rfl
  have k1 := (unhide HR3).cell (i := 1) rfl
  have k2 := (unhide HR3).cell (i := 2) rfl
  refine bodyPost_ret (v := .tuple #[vHouse (.slice (some ⟨gl2, 0, none⟩) L2.length cap2) (.slice (some ⟨gt, 0, none⟩) P2.length P2.length) tk2, .int .i64 cd]) (by simp [results, Try.results12, go_sem, vHouse, k0, k1, k2]) rfl ?_
  exact ⟨gl2, cap2, gt, rfl, unhide HB3, by omega, by omega, unhide HW3⟩

/-- How many deeds are done. -/
def runN (D : List DeedT) : Nat := if D.length ≤ 200 then D.length else 0
/-- The answer: a house of the call's own and codes. -/
def RdA (w : World) (h : HsT) (cs : List Int) (e : Ending) (w' : World) : Prop :=
  ∃ (gl cp gt : Nat) (co : Option Addr) (g : Nat), e = .returned (.tuple #[vHouse (.slice (some ⟨gl, 0, none⟩) h.1.length cp) (.slice (some ⟨gt, 0, none⟩) h.2.1.length h.2.1.length) h.2.2, .slice co cs.length cs.length]) ∧ Hb w' gl cp gt h.1 h.2.1 ∧ w.heap.size ≤ gl ∧ w.heap.size ≤ gt ∧ (cs ≠ [] → co = some ⟨g, 0, none⟩ ∧ w.heap.size ≤ g ∧ g ≠ gl ∧ g ≠ gt ∧ OwnV w' g (ints cs)) ∧ Below w.heap.size w w'
/-- Codes as they stand behind k deeds: the rest 0. -/
def cdR (h : HsT) (D : List DeedT) (n k : Nat) : List Int := cdsH h D k ++ List.replicate (n - k) 0
theorem cdsH_len (h : HsT) (D : List DeedT) (k : Nat) : (cdsH h D k).length = k := by simp [cdsH]
theorem cdR_len {h : HsT} {D : List DeedT} {n k : Nat} (hk : k ≤ n) : (cdR h D n k).length = n := by simp [cdR, cdsH_len]; omega
theorem cdR_set {h : HsT} {D : List DeedT} {n k : Nat} (hk : k < n) : (cdR h D n k).set k (cdH h D k) = cdR h D n (k + 1) := by
  obtain ⟨d, hd⟩ : ∃ d, n - k = d + 1 := ⟨n - k - 1, by omega⟩
  have hd' : n - (k + 1) = d := by omega
  unfold cdR
  rw [hd, hd', cdsH_succ, List.replicate_succ, List.set_append]
  simp [cdsH_len]
theorem cdR_full {h : HsT} {D : List DeedT} {n : Nat} : cdR h D n n = cdsH h D n := by simp [cdR]
/-- What is held while RunDeeds works. -/
structure Rd (w wr : World) (go gl cap gp gc : Nat) (ok : Bool) (L : List LotT) (P : List TraderT) (tk : Int) (cs : List Int) : Prop where
  of : Of wr go gl cap gp ok L P tk
  res : OwnV wr (w.heap.size + 1) [.slice none 0 0, .slice none 0 0, .int .i64 0]
  cds : OwnV wr gc (ints cs)
  below : Below w.heap.size w wr
  ap : w.heap.size + 1 < go ∧ w.heap.size + 1 < gl ∧ w.heap.size + 1 < gp ∧ w.heap.size + 1 < gc ∧ go ≠ gc ∧ gl ≠ gc ∧ gp ≠ gc
section
variable {w wr w2 : World} {go gl cap gp gc gl' cap' : Nat} {ok : Bool} {L L' : List LotT} {P P' : List TraderT} {tk tk' : Int} {cs : List Int}
theorem Rd.step (h : Rd w wr go gl cap gp gc ok L P tk cs) (hb : Below wr.heap.size wr w2) : Rd w w2 go gl cap gp gc ok L P tk cs := ⟨h.of.step hb, h.res.step hb, h.cds.step hb, Below.step h.below hb, h.ap⟩
theorem Rd.next (h : Rd w wr go gl cap gp gc ok L P tk cs) (ho : Of w2 go gl' cap' gp ok L' P' tk') (hk : Kept (OfT go gl gp) wr w2) (hg : gl' = gl ∨ wr.heap.size ≤ gl') {k : Nat} (hkk : k < cs.length) (c : Int) :
    Rd w (w2.setCell ⟨gc, k, none⟩ (.int .i64 c)) go gl' cap' gp gc ok L' P' tk' (cs.set k c) := by
  obtain ⟨a1, a2, a3, a4, a5, a6, a7⟩ := h.ap
  have hcl := h.cds.lt
  have b1 : w.heap.size + 1 < gl' := by rcases hg with e | e <;> omega
  have b2 : gl' ≠ gc := by rcases hg with e | e <;> omega
  have hc2 : OwnV w2 gc (ints cs) := h.cds.kept hk (fun x => by rcases x with e | e | e <;> omega)
  have hk1 : Kept (fun b => b = gc) w2 (w2.setCell ⟨gc, k, none⟩ (.int .i64 c)) := Kept.setCell (T := fun b => b = gc) (Kept.refl _ w2) (p := ⟨gc, k, none⟩) rfl _
  refine ⟨ho.kept hk1 a5 b2 a7, (h.res.kept hk (fun x => by rcases x with e | e | e <;> omega)).kept hk1 (fun e => by have e : w.heap.size + 1 = gc := e; omega), ?_, ?_, a1, b1, a3, a4, a5, b2, a7⟩
  · rw [← ints_set]
    exact hc2.set k _ (by rw [ints_length]; exact hkk)
  · exact (h.below.trans (hk.below h.below.size (fun k x => by rcases x with e | e | e <;> omega))).setCell (p := ⟨gc, k, none⟩) (by show w.heap.size ≤ gc; omega) _
end

set_option maxRecDepth 100000 in
set_option maxHeartbeats 6400000 in
theorem implRunDeeds_any (lv tv dv : Value) (L : List LotT) (T : List TraderT) (tk : Int) (D : List DeedT) (w : World) (h : HsIn w lv tv (L, T, tk)) (hs : L.length ≤ 1048576) (hT : T.length ≤ 1048576) (hd : RDeed w dv D) :
    Calls Try.prog 14 #[vHouse lv tv tk, dv] w fun e w' => RdA w (stH (L, T, tk) D (runN D)) (cdsH (L, T, tk) D (runN D)) e w' := by
  have HV := hide h
  obtain ⟨h1, h2⟩ := h
  obtain ⟨ao, lcap, rfl, -⟩ := h1
  obtain ⟨fo, fcap, rfl, -⟩ := h2
  obtain ⟨oo, ocap, rfl, hol, hom, hoc⟩ := hd
  unfold maxLen at hom
  dsimp only at HV
  have HOC := hide hoc
  have HSL := hide fun k => st_len (L, T, tk) D k hs
  have HSS := hide fun k => st_same (L, T, tk) D k
  dsimp only at HSL
  have Q1 := hide fun V (hV : Below w.heap.size w V) => officeOf_any _ _ L T tk V ((unhide HV).below hV) hs hT
  obtain ⟨ok, eok⟩ : ∃ b, b = houseB (L, T, tk) := ⟨_, rfl⟩
  unfold OfN at Q1
  rw [← eok] at Q1 HSS
  clear eok hoc
  obtain ⟨V0, eV0⟩ : ∃ V, V = (w.alloc (.cells #[.slice ao L.length lcap, .slice fo T.length fcap, .int .i64 tk] 27)).alloc (.cells #[.slice none 0 0, .slice none 0 0, .int .i64 0] 27) := ⟨_, rfl⟩
  have A1 := Below.alloc1 w (.cells #[.slice ao L.length lcap, .slice fo T.length fcap, .int .i64 tk] 27)
  have A2 := Below.alloc1 (w.alloc (.cells #[.slice ao L.length lcap, .slice fo T.length fcap, .int .i64 tk] 27)) (.cells #[.slice none 0 0, .slice none 0 0, .int .i64 0] 27)
  have HA := hide ((ownV_alloc w #[.slice ao L.length lcap, .slice fo T.length fcap, .int .i64 tk] 27).step A2)
  have HR := hide (ownV_alloc (w.alloc (.cells #[.slice ao L.length lcap, .slice fo T.length fcap, .int .i64 tk] 27)) #[.slice none 0 0, .slice none 0 0, .int .i64 0] 27)
  rw [World.size_alloc] at HR
  have HW := hide (Below.step A1 A2)
  rw [← eV0] at HA HR HW
  have hV0 := (unhide HR).lt
  clear A1 A2
  unfold vHouse at Q1 ⊢
  go_enter Try.func14, Try.ntmps14
  go_upto_region 1 with (fail)
  rw [← eV0]
  clear eV0
  have a0 := (unhide HA).cell (i := 0) rfl
  have a1 := (unhide HA).cell (i := 1) rfl
  have a2 := (unhide HA).cell (i := 2) rfl
  go_wp2_with fail
  refine (unhide Q1 _ (unhide HW)).mono ?_
  rintro e V1 ⟨go, gl, gp, rfl, hof, hgo, hgl, hgp, hb⟩
  replace HR := hide ((unhide HR).step hb)
  replace HW := hide (Below.step (unhide HW) hb)
  have HF := hide hof
  have hV1 := hb.size
  have hlt1 := hof.lt
  clear hb hof a0 a1 a2 Q1 HA
  have FIN : Hid (∀ (go gl cap gp : Nat) (L2 : List LotT) (P2 : List TraderT) (tk2 : Int) (V : World), Of V go gl cap gp ok L2 P2 tk2 → P2.length ≤ 1048576 → Calls Try.prog 45 #[.pointer (some ⟨go, 0, none⟩)] V fun e w' => TdA V gl cap gp L2 P2 tk2 e w') := fun go gl cap gp L2 P2 tk2 V hV hP => told_any go gl cap gp ok L2 P2 tk2 V hV hP
  unfold TdA vHouse at FIN
  by_cases hbig : 200 < (D.length : Int)
  · have HN : Hid (runN D = 0) := if_neg (by omega)
    go_wp2_with fail
    refine (unhide FIN go gl _ gp L T tk _ (unhide HF) hT).mono ?_
    rintro e V3 ⟨gt, rfl, hgt, htr, hlo, hcap, hk⟩
    have hgtl := htr.lt
    have HR2 := hide ((unhide HR).kept hk (fun x => by have x : w.heap.size + 1 = gp := x; omega))
    have HW2 := hide ((unhide HW).trans (hk.below (unhide HW).size (fun k x => by have x : k = gp := x; omega)))
    have HB : Hid (Hb V3 gl L.length gt L T) := ⟨hlo, htr, hcap, by omega⟩
    have hk3 := kept3 V3 (w.heap.size + 1) 0 1 2 (.slice (some ⟨gl, 0, none⟩) L.length L.length) (.slice (some ⟨gt, 0, none⟩) T.length T.length) (.int .i64 tk)
    have HB3 := hide ((unhide HB).kept hk3 (fun x => by have x : gl = w.heap.size + 1 := x; omega) (fun x => by have x : gt = w.heap.size + 1 := x; omega))
    have HW3 := hide ((unhide HW2).trans (hk3.below (unhide HW2).size (fun k x => by have x : k = w.heap.size + 1 := x; omega)))
    have HR3 := hide ((((unhide HR2).set 0 (.slice (some ⟨gl, 0, none⟩) L.length L.length) (by simp)).set 1 (.slice (some ⟨gt, 0, none⟩) T.length T.length) (by simp)).set 2 (.int .i64 tk) (by simp))
    have r0 := (unhide HR2).cell (i := 0) rfl
    have r1 := (unhide HR2).cell (i := 1) rfl
    have r2 := (unhide HR2).cell (i := 2) rfl
    have rf := (unhide HR2).frozen
    clear htr hlo hk HR HW HR2 HW2 HB hk3
    go_wp2
    have k0 := (unhide HR3).cell (i := 0) rfl
    have k1 := (unhide HR3).cell (i := 1) rfl
    have k2 := (unhide HR3).cell (i := 2) rfl
    refine bodyPost_ret (v := .tuple #[vHouse (.slice (some ⟨gl, 0, none⟩) L.length L.length) (.slice (some ⟨gt, 0, none⟩) T.length T.length) tk, .slice none 0 0]) (by simp [results, Try.results14, go_sem, vHouse, k0, k1, k2]) rfl ?_
    rw [unhide HN]
    exact ⟨gl, L.length, gt, none, 0, rfl, unhide HB3, by omega, by omega, fun h => absurd rfl h, unhide HW3⟩
  have HN : Hid (runN D = D.length) := if_pos (by omega)
  have hmk := run_make_recs (P := Try.prog) 40 3 _ 1 8 Try.underlying40 Try.infoIntH .i64 .i64 D.length (by omega) (by omega)
  obtain ⟨Z, eZ⟩ : ∃ Z, Z = (Value.int .i64 0).cells := ⟨_, rfl⟩
  have A3 := Below.alloc1 V1 (.cells (madeCells Z D.length) 3)
  have HD0 : Hid (Rd w (V1.alloc (.cells (madeCells Z D.length) 3)) go gl L.length gp V1.heap.size ok L T tk (cdR (L, T, tk) D D.length 0)) := by
    have hd := made_ints V1 D.length 3
    rw [← eZ] at hd
    exact ⟨(unhide HF).step A3, (unhide HR).step A3, by rw [show cdR (L, T, tk) D D.length 0 = List.replicate D.length 0 by simp [cdR, cdsH]]; exact hd, Below.step (unhide HW) A3, by omega, by omega, by omega, by omega, by omega, by omega, by omega⟩
  rw [← eZ, Nat.mul_one] at hmk
  clear A3 eZ HF HR HW
  go_wp2
  clear hmk
  obtain ⟨gc, egc⟩ : ∃ z, z = V1.heap.size := ⟨_, rfl⟩
  rw [← egc] at HD0 ⊢
  clear egc
  go_loopg [22] D.length (fun gg iv wr => ∃ (k gl cap : Nat), k ≤ D.length ∧ gg = D.length - k ∧ iv = .int .i64 k ∧ Hid (Rd w wr go gl cap gp gc ok (stH (L, T, tk) D k).1 (stH (L, T, tk) D k).2.1 (stH (L, T, tk) D k).2.2 (cdR (L, T, tk) D D.length k)))
  case atStart => exact ⟨0, gl, _, Nat.zero_le _, rfl, rfl, HD0⟩
  case round =>
    clear HD0 hgl
    obtain ⟨k, gl, cap, hk, rfl, rfl, HD⟩ := hrel
    by_cases hkn : k < D.length
    · obtain ⟨bb, o, kd, id, ow, ma, va, ra, nw, rfl, hc0, hc1, hc2, hc3, hc4, hc5, hc6, EX⟩ := recDeedAt (unhide HOC) hkn
      have hki : (k : Int) < D.length := by omega
      have g0 := wcell3 hc0 (unhide HD).below
      have g1 := wcell3 hc1 (unhide HD).below
      have g2 := wcell3 hc2 (unhide HD).below
      have g3 := wcell3 hc3 (unhide HD).below
      have g4 := wcell3 hc4 (unhide HD).below
      have g5 := wcell3 hc5 (unhide HD).below
      have g6 := wcell3 hc6 (unhide HD).below
      have AL := Below.alloc1 wr (.cells #[.int .i64 kd, .int .i64 id, .int .i64 ow, .int .i64 ma, .int .i64 va, .int .i64 ra, .int .i64 nw] 34)
      have HX := hide (ownV_alloc wr #[.int .i64 kd, .int .i64 id, .int .i64 ow, .int .i64 ma, .int .i64 va, .int .i64 ra, .int .i64 nw] 34)
      have hsl := unhide HSL k
      have hss := unhide HSS k
      have ENX : Hid (doH (stH (L, T, tk) D k) (kd, id, ow, ma, va, ra, nw) = (stH (L, T, tk) D (k + 1), cdH (L, T, tk) D k)) := by show _ = _; simp only [stH, cdH, unhide EX]
      have ECD : Hid ((cdR (L, T, tk) D D.length k).set k (cdH (L, T, tk) D k) = cdR (L, T, tk) D D.length (k + 1)) := cdR_set hkn
      have hcl : k < (cdR (L, T, tk) D D.length k).length := by rw [cdR_len hk]; exact hkn
      have hap := (unhide HD).ap
      have hcd := (unhide HD).cds.lt
      replace HD := hide ((unhide HD).step AL)
      obtain ⟨S1, eS1⟩ : ∃ z, z = stH (L, T, tk) D k := ⟨_, rfl⟩
      obtain ⟨S2, eS2⟩ : ∃ z, z = stH (L, T, tk) D (k + 1) := ⟨_, rfl⟩
      obtain ⟨cd, ecd⟩ : ∃ z, z = cdH (L, T, tk) D k := ⟨_, rfl⟩
      rw [← eS1] at HD hsl hss ENX
      rw [← eS2, ← ecd] at ENX
      rw [← ecd] at ECD
      have ES2 := hide eS2
      clear eS1 eS2 ecd hc0 hc1 hc2 hc3 hc4 hc5 hc6 EX
      obtain ⟨L1, P1, tk1⟩ := S1
      dsimp only at HD hsl
      have hsP : P1.length ≤ 1048576 := by omega
      have hsL := hsl.2
      clear hsl
      have Q2 := hide fun V hV => do_any go gl cap gp ok L1 P1 tk1 kd id ow ma va ra nw V hV hss.symm hsL hsP
      rw [unhide ENX] at Q2
      unfold vDeed at Q2
      clear ENX hss
      go_upto_region 8 with (fail)
      obtain ⟨V2, eV⟩ : ∃ z, z = wr.alloc (.cells #[.int .i64 kd, .int .i64 id, .int .i64 ow, .int .i64 ma, .int .i64 va, .int .i64 ra, .int .i64 nw] 34) := ⟨_, rfl⟩
      rw [← eV] at HD HX AL ⊢
      clear eV g0 g1 g2 g3 g4 g5 g6 AL
      obtain ⟨gx, egx⟩ : ∃ z, z = wr.heap.size := ⟨_, rfl⟩
      rw [← egx] at HX ⊢
      clear egx
      have d0 := (unhide HX).cell (i := 0) rfl
      have d1 := (unhide HX).cell (i := 1) rfl
      have d2 := (unhide HX).cell (i := 2) rfl
      have d3 := (unhide HX).cell (i := 3) rfl
      have d4 := (unhide HX).cell (i := 4) rfl
      have d5 := (unhide HX).cell (i := 5) rfl
      have d6 := (unhide HX).cell (i := 6) rfl
      go_wp2_with fail
      refine (unhide Q2 _ (unhide HD).of).mono ?_
      rintro e V3 ⟨gl2, cap2, rfl, ho, hk2, hg⟩
      dsimp only at ho
      have HC2 := hide ((unhide HD).cds.kept hk2 (fun x => by rcases x with e | e | e <;> omega))
      have cc := (unhide HC2).cell (ints_get (cdR (L, T, tk) D D.length k) hcl)
      have cf := (unhide HC2).frozen
      have HN2 := hide ((unhide HD).next ho hk2 hg hcl cd)
      rw [unhide ECD] at HN2
      have hcdl : ¬ ((cdR (L, T, tk) D D.length k).length : Int) ≤ k := by omega
      clear ho hk2 hg d0 d1 d2 d3 d4 d5 d6 HD HC2 Q2 HX
      go_wp2
      go_roundg (D.length - (k + 1))
      case measure => omega
      case rel => exact ⟨k + 1, gl2, cap2, by omega, rfl, by go_num, by rw [← unhide ES2]; exact HN2⟩
    · have ek : k = D.length := by omega
      rw [ek, cdR_full] at HD
      clear ek
      have hsl := unhide HSL D.length
      obtain ⟨S1, eS1⟩ : ∃ z, z = stH (L, T, tk) D D.length := ⟨_, rfl⟩
      rw [← eS1] at HD hsl
      have ES1 := hide eS1
      clear eS1
      obtain ⟨L1, P1, tk1⟩ := S1
      dsimp only at HD hsl
      have hsP : P1.length ≤ 1048576 := by omega
      clear hsl
      have hap := (unhide HD).ap
      have HW := hide (unhide HD).below
      have HR := hide (unhide HD).res
      have HCC := hide (unhide HD).cds
      have hcc := (unhide HCC).lt
      have hlt1 := (unhide HD).of.lt
      obtain ⟨CS, eCS⟩ : ∃ z, z = cdsH (L, T, tk) D D.length := ⟨_, rfl⟩
      have hCS : CS.length = D.length := by rw [eCS, cdsH_len]
      rw [← eCS] at HCC
      have ECS := hide eCS
      clear eCS
      have HCS := hide hCS
      clear hCS
      go_wp2_with fail
      refine (unhide FIN go gl cap gp L1 P1 tk1 _ (unhide HD).of (by omega)).mono ?_
      rintro e V3 ⟨gt, rfl, hgt, htr, hlo, hcap, hk⟩
      have hgtl := htr.lt
      have HR2 := hide ((unhide HR).kept hk (fun x => by have x : w.heap.size + 1 = gp := x; omega))
      have HW2 := hide ((unhide HW).trans (hk.below (unhide HW).size (fun k x => by have x : k = gp := x; omega)))
      have HB : Hid (Hb V3 gl cap gt L1 P1) := ⟨hlo, htr, hcap, by omega⟩
      have hk3 := kept3 V3 (w.heap.size + 1) 0 1 2 (.slice (some ⟨gl, 0, none⟩) L1.length cap) (.slice (some ⟨gt, 0, none⟩) P1.length P1.length) (.int .i64 tk1)
      have HB3 := hide ((unhide HB).kept hk3 (fun x => by have x : gl = w.heap.size + 1 := x; omega) (fun x => by have x : gt = w.heap.size + 1 := x; omega))
      have HW3 := hide ((unhide HW2).trans (hk3.below (unhide HW2).size (fun k x => by have x : k = w.heap.size + 1 := x; omega)))
      have HR3 := hide ((((unhide HR2).set 0 (.slice (some ⟨gl, 0, none⟩) L1.length cap) (by simp)).set 1 (.slice (some ⟨gt, 0, none⟩) P1.length P1.length) (by simp)).set 2 (.int .i64 tk1) (by simp))
      have HCC3 := hide (((unhide HCC).kept hk (fun x => hap.2.2.2.2.2.2 x.symm)).kept hk3 (fun x => by have x : gc = w.heap.size + 1 := x; omega))
      have r0 := (unhide HR2).cell (i := 0) rfl
      have r1 := (unhide HR2).cell (i := 1) rfl
      have r2 := (unhide HR2).cell (i := 2) rfl
      have rf := (unhide HR2).frozen
      clear htr hlo hk HR HW HR2 HW2 HB hk3
      go_wp2
      have k0 := (unhide HR3).cell (i := 0) rfl
      have k1 := (unhide HR3).cell (i := 1) rfl
      have k2 := (unhide HR3).cell (i := 2) rfl
      refine bodyPost_ret (v := .tuple #[vHouse (.slice (some ⟨gl, 0, none⟩) L1.length cap) (.slice (some ⟨gt, 0, none⟩) P1.length P1.length) tk1, .slice (some ⟨gc, 0, none⟩) D.length D.length]) (by simp [results, Try.results14, go_sem, vHouse, k0, k1, k2]) rfl ?_
      rw [unhide HN, ← unhide ES1, ← unhide ECS]
      exact ⟨gl, cap, gt, some ⟨gc, 0, none⟩, gc, by rw [unhide HCS], unhide HB3, by omega, by omega, fun _ => ⟨rfl, by omega, fun e => hap.2.2.2.2.2.1 e.symm, by omega, unhide HCC3⟩, unhide HW3⟩

end Go.Proofs.Ytojlkdmlelgcbaa

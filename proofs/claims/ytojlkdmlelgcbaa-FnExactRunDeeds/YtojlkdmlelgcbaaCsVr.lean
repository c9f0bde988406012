/- Customs: the contract of the specification's RunDeeds. Written by wip/mkcsvr.py. -/
import Derived.Test.YtojlkdmlelgcbaaCsVz
import Derived.Test.YtojlkdmlelgcbaaCsU
import Derived.Deep.RegionHeld3
import Derived.Deep.DeepCutAuto
import Derived.Deep.Cut
namespace Go.Proofs.Ytojlkdmlelgcbaa
open Go.RowKit

theorem runN_le (O : List DeedT) : runN O ≤ O.length := by unfold runN; split <;> omega
theorem runN_200 (O : List DeedT) : runN O ≤ 200 := by unfold runN; split <;> omega
theorem runN_lt {O : List DeedT} {k : Nat} (h : k < runN O) : k < O.length ∧ O.length ≤ 200 := by unfold runN at h; split at h <;> omega
theorem runN_ge {O : List DeedT} {k : Nat} (h : ¬ k < runN O) (h2 : O.length ≤ 200) : ¬ k < O.length := by unfold runN at h; split at h <;> omega
def eI (x : Int) (_ : Nat) : Value := .int .i64 x
theorem recI (F : List Int) : recCells 1 eI F = ints F := by
  apply List.ext_getElem?
  intro i
  by_cases hi : i < F.length
  · have e := recCells_get (n := 1) (enc := eI) hi (j := 0) (by omega)
    rw [Nat.mul_one, Nat.add_zero] at e
    rw [e, ints_get F hi]
    rfl
  · rw [List.getElem?_eq_none (by rw [recCells_length]; omega), List.getElem?_eq_none (by rw [ints_length]; omega)]
theorem tyI : RecTy 40 3 1 eI := recTy_mk Try.underlying40 Try.infoIntH rfl (by decide) (by decide) (fun x j hj => rfl)

/-- What is held while deeds are done. -/
structure Sr (w wr : World) (G D : Nat) (bv fv : Value) (b : HsT) (m cap : Nat) (cs : List Int) : Prop where
  below : Below w.heap.size w wr
  res : OwnV wr (w.heap.size + 1) [.slice none 0 0, .slice none 0 0, .int .i64 0]
  box : OwnV wr G [bv, fv, .int .i64 b.2.2]
  bk : ∀ W2, Kept (fun k => k = G ∨ k ≤ w.heap.size + 1 ∨ k = D) wr W2 → HsIn W2 bv fv b
  cds : RowB 3 1 eI 0 wr (some ⟨D, 0, none⟩) m cap cs
  ap : w.heap.size + 1 < G ∧ w.heap.size + 1 < D ∧ G ≠ D
section
variable {w wr wx w' : World} {G D : Nat} {bv fv bv' fv' : Value} {b b' : HsT} {m cap : Nat} {cs : List Int}
theorem Sr.step (h : Sr w wr G D bv fv b m cap cs) (hb : Below wr.heap.size wr w') : Sr w w' G D bv fv b m cap cs :=
  ⟨Below.step h.below hb, h.res.step hb, h.box.step hb, fun W2 hk => h.bk W2 ((kept_of_below hb).trans hk), h.cds.below hb, h.ap⟩
theorem Sr.lts (h : Sr w wr G D bv fv b m cap cs) : G < wr.heap.size ∧ D < wr.heap.size := ⟨h.box.lt, (h.cds.ownG (by omega)).2.2.2.1⟩
theorem Sr.put (h : Sr w wr G D bv fv b m cap cs) (hb : Below wr.heap.size wr wx) (hbk : ∀ W2, Kept (fun k => k < wr.heap.size) wx W2 → HsIn W2 bv' fv' b') :
    Sr w (((wx.setCell ⟨G, 0, none⟩ bv').setCell ⟨G, 1, none⟩ fv').setCell ⟨G, 2, none⟩ (.int .i64 b'.2.2)) G D bv' fv' b' m cap cs := by
  obtain ⟨a1, a2, a3⟩ := h.ap
  obtain ⟨l1, l2⟩ := h.lts
  have h2 := h.step hb
  have hkG := kept3 wx G 0 1 2 bv' fv' (.int .i64 b'.2.2)
  refine ⟨h2.below.trans (hkG.below h2.below.size (fun k e => by have e : k = G := e; omega)), h2.res.kept hkG (fun e => by have e : w.heap.size + 1 = G := e; omega), ((h2.box.set 0 bv' (by simp)).set 1 fv' (by simp)).set 2 _ (by simp), fun W2 hk => ?_, h2.cds.kept hkG (fun g e _ _ h3 => by simp only [Option.some.injEq, Addr.mk.injEq, and_true] at e; have h3 : g = G := h3; omega), h.ap⟩
  exact hbk W2 ((hkG.mono (T' := fun k => k < wr.heap.size) (fun k _ e => by have e : k = G := e; show k < _; omega)).trans (hk.mono (fun k _ e => by show k < _; omega)))
theorem Sr.code (h : Sr w wr G D bv fv b m cap cs) {c : Int} {g' cap' : Nat} (hL : RowB 3 1 eI 0 w' (some ⟨g', 0, none⟩) (m + 1) cap' (cs ++ [c])) (hK : Kept (fun k => (some ⟨D, 0, none⟩ : Option Addr) = some ⟨k, 0, none⟩) wr w') (hor : (some ⟨D, 0, none⟩ : Option Addr) = some ⟨g', 0, none⟩ ∨ g' = wr.heap.size) :
    Sr w w' G g' bv fv b (m + 1) cap' (cs ++ [c]) := by
  obtain ⟨a1, a2, a3⟩ := h.ap
  obtain ⟨l1, l2⟩ := h.lts
  have hK : Kept (fun k => k = D) wr w' := hK.mono (fun k _ e => by simp only [Option.some.injEq, Addr.mk.injEq, and_true] at e; exact e.symm)
  have hg : g' = D ∨ g' = wr.heap.size := hor.elim (fun e => by simp only [Option.some.injEq, Addr.mk.injEq, and_true] at e; exact Or.inl e.symm) Or.inr
  refine ⟨h.below.trans (hK.below h.below.size (fun k e => by have e : k = D := e; omega)), h.res.kept hK (fun e => by have e : w.heap.size + 1 = D := e; omega), h.box.kept hK (fun e => by have e : G = D := e; omega), fun W2 hk => ?_, hL, by omega⟩
  refine h.bk W2 (Kept.mono (T := fun k => k = G ∨ k ≤ w.heap.size + 1 ∨ k = D ∨ k = wr.heap.size) ((hK.mono (fun k _ e => Or.inr (Or.inr (Or.inl e)))).trans (hk.mono (fun k _ e => by omega))) (fun k hk e => by omega))
/-- The whole answer of the specification's RunDeeds. -/
def RSA (w : World) (b : HsT) (cs : List Int) (e : Ending) (w' : World) : Prop :=
  ∃ bv fv co m cap, e = .returned (.tuple #[vHouse bv fv b.2.2, .slice co m cap]) ∧ (∀ W2, Kept (fun k => k < w.heap.size) w' W2 → HsIn W2 bv fv b ∧ IntsIn W2 (.slice co m cap) cs) ∧ Below w.heap.size w w'
theorem Sr.fin (h : Sr w wr G D bv fv b m cap cs) : OwnV (((wr.setCell ⟨w.heap.size + 1, 0, none⟩ bv).setCell ⟨w.heap.size + 1, 1, none⟩ fv).setCell ⟨w.heap.size + 1, 2, none⟩ (.int .i64 b.2.2)) (w.heap.size + 1) [bv, fv, .int .i64 b.2.2] ∧ (∀ W2, Kept (fun k => k < w.heap.size) (((wr.setCell ⟨w.heap.size + 1, 0, none⟩ bv).setCell ⟨w.heap.size + 1, 1, none⟩ fv).setCell ⟨w.heap.size + 1, 2, none⟩ (.int .i64 b.2.2)) W2 → HsIn W2 bv fv b ∧ IntsIn W2 (.slice (some ⟨D, 0, none⟩) m cap) cs) ∧ Below w.heap.size w (((wr.setCell ⟨w.heap.size + 1, 0, none⟩ bv).setCell ⟨w.heap.size + 1, 1, none⟩ fv).setCell ⟨w.heap.size + 1, 2, none⟩ (.int .i64 b.2.2)) := by
  obtain ⟨a1, a2, a3⟩ := h.ap
  have hkR := kept3 wr (w.heap.size + 1) 0 1 2 bv fv (.int .i64 b.2.2)
  refine ⟨((h.res.set 0 bv (by simp)).set 1 fv (by simp)).set 2 _ (by simp), fun W2 hk => ?_, h.below.trans (hkR.below h.below.size (fun k e => by have e : k = _ := e; omega))⟩
  have hk2 : Kept (fun k => k ≤ w.heap.size + 1) wr W2 := (hkR.mono (fun k _ e => by have e : k = _ := e; show k ≤ _; omega)).trans (hk.mono (fun k _ e => by have e : k < _ := e; show k ≤ _; omega))
  refine ⟨h.bk W2 (hk2.mono (fun k _ e => Or.inr (Or.inl e))), ?_⟩
  obtain ⟨p1, p2, p3, _, p5⟩ := (h.cds.kept hk2 (fun g e _ _ h3 => by simp only [Option.some.injEq, Addr.mk.injEq, and_true] at e; have h3 : g ≤ _ := h3; omega)).ownG (by omega)
  subst p5
  rw [recI] at p1
  exact p1.intsIn p2 p3
end
theorem kept_lt {n g : Nat} {W W' : World} (hg : g < n) (h : Kept (fun b => b = g) W W') : Kept (fun b => b < n) W W' := h.mono fun k _ e => by have e : k = g := e; show k < n; omega

set_option maxRecDepth 100000 in
set_option maxHeartbeats 8000000 in
theorem specRunDeeds_any (lv tv ov : Value) (L : List LotT) (T : List TraderT) (tk : Int) (O : List DeedT) (w : World) (h : HsIn w lv tv (L, T, tk)) (hs : L.length ≤ 1048576) (hT : T.length ≤ 1048576) (ho : RDeed w ov O) :
    Calls Try.prog 28 #[vHouse lv tv tk, ov] w fun e w' => RSA w (stH (L, T, tk) O (runN O)) (cdsH (L, T, tk) O (runN O)) e w' := by
  have HSL := hide fun k => st_len (L, T, tk) O k hs
  dsimp only at HSL
  have HV := hide h
  obtain ⟨h1, h2⟩ := h
  obtain ⟨ao, lcap, rfl, -⟩ := h1
  obtain ⟨fo, fcap, rfl, -⟩ := h2
  dsimp only at HV
  have QC := hide fun V (hV : Below w.heap.size w V) => l16Copy_any _ _ L T tk V ((unhide HV).below hV) hs hT
  obtain ⟨oo, ocap, rfl, hol, hom, hoc⟩ := ho
  unfold maxLen at hom
  have HOC := hide hoc
  obtain ⟨V1, eV1⟩ : ∃ V, V = (w.alloc (.cells #[.slice ao L.length lcap, .slice fo T.length fcap, .int .i64 tk] 27)).alloc (.cells #[.slice none 0 0, .slice none 0 0, .int .i64 0] 27) := ⟨_, rfl⟩
  have hb0 := Below.step (Below.alloc1 w (.cells #[.slice ao L.length lcap, .slice fo T.length fcap, .int .i64 tk] 27)) (Below.alloc1 _ (.cells #[.slice none 0 0, .slice none 0 0, .int .i64 0] 27))
  have h1 := (ownV_alloc w #[.slice ao L.length lcap, .slice fo T.length fcap, .int .i64 tk] 27).alloc (.cells #[.slice none 0 0, .slice none 0 0, .int .i64 0] 27)
  have h3 := ownV_alloc (w.alloc (.cells #[.slice ao L.length lcap, .slice fo T.length fcap, .int .i64 tk] 27)) #[.slice none 0 0, .slice none 0 0, .int .i64 0] 27
  simp only [World.size_alloc] at h3
  rw [← eV1] at hb0 h1 h3
  have HW : Hid (Below w.heap.size w V1) := hb0
  have HA : Hid (OwnV V1 w.heap.size [.slice ao L.length lcap, .slice fo T.length fcap, .int .i64 tk]) := h1
  have HR : Hid (OwnV V1 (w.heap.size + 1) [.slice none 0 0, .slice none 0 0, .int .i64 0]) := h3
  have hV1 := h3.lt
  clear hb0 h1 h3 hoc
  unfold CpA vHouse at QC
  unfold vHouse
  go_enter Try.func28, Try.ntmps28
  go_upto_region 1 with (fail)
  rw [← eV1]
  clear eV1
  have a0 := (unhide HA).cell (i := 0) rfl
  have a1 := (unhide HA).cell (i := 1) rfl
  have a2 := (unhide HA).cell (i := 2) rfl
  go_wp2_with fail
  refine (unhide QC _ (unhide HW)).mono ?_
  rintro e wa ⟨g1, c1, g2, c2, rfl, hl1, ht1, hc1, hc2, hg1, hg2, hg12, hb⟩
  obtain ⟨V2, eV2⟩ : ∃ V, V = wa.alloc (.cells #[.slice (some ⟨g1, 0, none⟩) L.length c1, .slice (some ⟨g2, 0, none⟩) T.length c2, .int .i64 tk] 27) := ⟨_, rfl⟩
  have hwa := hb.size
  have hV2 : V2.heap.size = wa.heap.size + 1 := by rw [eV2, World.size_alloc]
  have hl1l := hl1.lt
  have ht1l := ht1.lt
  have HS : Hid (Sr w (V2.alloc (.cells #[] 3)) wa.heap.size V2.heap.size (.slice (some ⟨g1, 0, none⟩) L.length c1) (.slice (some ⟨g2, 0, none⟩) T.length c2) (L, T, tk) 0 0 []) := by
    have A2 := Below.alloc1 wa (.cells #[.slice (some ⟨g1, 0, none⟩) L.length c1, .slice (some ⟨g2, 0, none⟩) T.length c2, .int .i64 tk] 27)
    have A3 := Below.alloc1 V2 (.cells #[] 3)
    have hx := ownV_alloc wa #[.slice (some ⟨g1, 0, none⟩) L.length c1, .slice (some ⟨g2, 0, none⟩) T.length c2, .int .i64 tk] 27
    rw [← eV2] at A2 hx
    refine ⟨Below.step (Below.step (Below.step (unhide HW) hb) A2) A3, (((unhide HR).step hb).step A2).step A3, hx.step A3, fun W2 hk => ⟨?_, ?_⟩, rowB_new _ _ _ _ _ (Nat.zero_le _), by omega⟩
    · exact (((hl1.step A2).step A3).kept hk (fun e => by omega)).recsIn hc1.1 hc1.2
    · exact (((ht1.step A2).step A3).kept hk (fun e => by omega)).recsIn hc2.1 hc2.2
  have hwG : w.heap.size + 1 < wa.heap.size := by omega
  have hwD : w.heap.size + 1 < V2.heap.size := by omega
  clear hl1 ht1 hb HW HA HR a0 a1 a2 QC hV2 hwa hl1l ht1l
  go_upto_region 2 with (fail)
  rw [← eV2]
  clear eV2
  go_upto_region 3 with (fail)
  obtain ⟨G, eG⟩ : ∃ g, g = wa.heap.size := ⟨_, rfl⟩
  obtain ⟨D, eD⟩ : ∃ g, g = V2.heap.size := ⟨_, rfl⟩
  rw [← eG, ← eD] at HS
  rw [← eG] at hwG ⊢
  rw [← eD] at hwD ⊢
  clear eG eD
  obtain ⟨N, eN⟩ : ∃ n, n = runN O := ⟨_, rfl⟩
  have HEN := hide eN
  clear eN
  go_wp2_with fail
  go_loopg [7, 8] N (fun gg cv iv wr => ∃ (k D cap : Nat) (q1 : Option Addr) (n1 q3 : Nat) (p1 : Option Addr) (n2 p3 : Nat), k ≤ N ∧ gg = N - k ∧ cv = .slice (some ⟨D, 0, none⟩) k cap ∧ iv = .int .i64 k ∧ w.heap.size + 1 < D ∧ Hid (Sr w wr G D (.slice q1 n1 q3) (.slice p1 n2 p3) (stH (L, T, tk) O k) k cap (cdsH (L, T, tk) O k)))
  case atStart => exact ⟨0, D, 0, _, _, _, _, _, _, Nat.zero_le _, rfl, rfl, rfl, hwD, HS⟩
  case round =>
    clear HS hwD
    obtain ⟨k, D, cap, q1, n1, q3, p1, n2, p3, hk, rfl, rfl, rfl, hwD, HS⟩ := hrel
    have b0 := (unhide HS).box.cell (i := 0) rfl
    have b1 := (unhide HS).box.cell (i := 1) rfl
    have b2 := (unhide HS).box.cell (i := 2) rfl
    have bf := (unhide HS).box.frozen
    by_cases hkN : k < N
    · have hkO := runN_lt (O := O) (k := k) (by have := unhide HEN; omega)
      have hki : (k : Int) < O.length := by omega
      have hlo : (O.length : Int) ≤ 200 := by omega
      have dl : decide ((O.length : Int) ≤ 200) = true := by simpa using hlo
      obtain ⟨gb, o, kd, id, ow, ma, va, ra, nw, rfl, c0, c1', c2', c3, c4, c5, c6, EX⟩ := recDeedAt (unhide HOC) hkO.1
      have g0 := ((unhide HS).below.cell (lt_of_cell c0)).trans c0
      have g1' := ((unhide HS).below.cell (lt_of_cell c1')).trans c1'
      have g2' := ((unhide HS).below.cell (lt_of_cell c2')).trans c2'
      have g3 := ((unhide HS).below.cell (lt_of_cell c3)).trans c3
      have g4 := ((unhide HS).below.cell (lt_of_cell c4)).trans c4
      have g5 := ((unhide HS).below.cell (lt_of_cell c5)).trans c5
      have g6 := ((unhide HS).below.cell (lt_of_cell c6)).trans c6
      have hgb : gb < w.heap.size := lt_of_cell c0
      have hlts := (unhide HS).lts
      have hwwr := (unhide HS).below.size
      have HST : Hid (stH (L, T, tk) O (k + 1) = (doH (stH (L, T, tk) O k) (kd, id, ow, ma, va, ra, nw)).1) := by show _ = _; rw [stH, unhide EX]
      have HCD : Hid (cdsH (L, T, tk) O (k + 1) = cdsH (L, T, tk) O k ++ [(doH (stH (L, T, tk) O k) (kd, id, ow, ma, va, ra, nw)).2]) := by show _ = _; rw [cdsH_succ, cdH, unhide EX]
      have hsl := unhide HSL k
      obtain ⟨S1, eS1⟩ : ∃ z, z = stH (L, T, tk) O k := ⟨_, rfl⟩
      rw [← eS1] at HS HST HCD hsl b2
      clear eS1
      obtain ⟨L1, P1, tk1⟩ := S1
      dsimp only at hsl b2
      have QD := hide fun V (hV : Kept (fun k => k = G ∨ k ≤ w.heap.size + 1 ∨ k = D) wr V) => specDoDeed_any (.slice q1 n1 q3) (.slice p1 n2 p3) L1 P1 tk1 kd id ow ma va ra nw V ((unhide HS).bk V hV) hsl.2 (by omega)
      obtain ⟨⟨⟨LL, FF, tk2⟩, cd⟩, ev⟩ : ∃ z, z = doH (L1, P1, tk1) (kd, id, ow, ma, va, ra, nw) := ⟨_, rfl⟩
      rw [← ev] at HST HCD QD
      dsimp only at HST HCD
      clear ev EX c0 c1' c2' c3 c4 c5 c6 HOC hsl
      unfold vHouse vDeed at QD
      obtain ⟨hGw, hDw⟩ := hlts
      have ze1 : ¬ wr.heap.size = G := by omega
      have ze2 : ¬ G = wr.heap.size := by omega
      have ze3 : ¬ wr.heap.size = gb := by omega
      have ze4 : ¬ gb = wr.heap.size := by omega
      have hk200 : k < 200 := by omega
      go_upto_region 6 with (fail)
      go_cut [9, 10] (fun s9 s10 wx => ∃ (gw : Nat) (q4 : Option Addr) (q6 : Nat) (p4 : Option Addr) (p6 : Nat), s9 = .pointer (some ⟨gw, 0, none⟩) ∧ s10 = .int .i64 cd ∧ wr.heap.size ≤ gw ∧ Hid (Below wr.heap.size wr wx) ∧ Hid (OwnV wx gw [.slice q4 LL.length q6, .slice p4 FF.length p6, .int .i64 tk2]) ∧ Hid (∀ W2, Kept (fun k => k < wr.heap.size) wx W2 → HsIn W2 (.slice q4 LL.length q6) (.slice p4 FF.length p6) (LL, FF, tk2)))
      case first =>
        go_region_held3 (fun w' => w'.cell? ⟨G, 0, none⟩ = some (.slice q1 n1 q3) ∧ w'.cell? ⟨G, 1, none⟩ = some (.slice p1 n2 p3) ∧ w'.cell? ⟨G, 2, none⟩ = some (.int .i64 tk1) ∧ w'.cell? ⟨gb, o + k * 7, none⟩ = some (.int .i64 kd) ∧ w'.cell? ⟨gb, o + k * 7 + 1, none⟩ = some (.int .i64 id) ∧ w'.cell? ⟨gb, o + k * 7 + 2, none⟩ = some (.int .i64 ow) ∧ w'.cell? ⟨gb, o + k * 7 + 3, none⟩ = some (.int .i64 ma) ∧ w'.cell? ⟨gb, o + k * 7 + 4, none⟩ = some (.int .i64 va) ∧ w'.cell? ⟨gb, o + k * 7 + 5, none⟩ = some (.int .i64 ra) ∧ w'.cell? ⟨gb, o + k * 7 + 6, none⟩ = some (.int .i64 nw)) (go_keep) (first
          | (go_at_call 23; refine (unhide QD _ (by first | exact kept_of_below (Below.refl _ _) | exact kept_of_below (Below.refl _ _).drew | exact kept_of_below (Below.alloc1 _ _) | exact kept_of_below (Below.alloc1 _ _).drew)).mono ?_; rintro e wd hA; obtain ⟨bv2, fv2, rfl, hin, hb⟩ := hA; unfold vHouse; dsimp only at hin ⊢; have hin0 := hin wd (Kept.refl _ _); obtain ⟨⟨q4, q6, rfl, -⟩, ⟨p4, p6, rfl, -⟩⟩ := hin0; have HIN := hide hin; (first | (have HB3 : Hid (Below wr.heap.size wr wd) := hb) | (have HB3 : Hid (Below wr.heap.size wr wd) := below_undrewA hb) | (have HB3 : Hid (Below wr.heap.size wr wd) := Below.step (Below.alloc1 _ _) hb; have hgV := OwnV.lt (ownV_alloc wr #[.slice none 0 0, .slice none 0 0, .int .i64 0] 27); have HNW := hide (OwnV.step (ownV_alloc wr #[.slice none 0 0, .slice none 0 0, .int .i64 0] 27) hb)) | (have HB3 : Hid (Below wr.heap.size wr wd) := Below.step (Below.alloc1 _ _) (below_undrewA hb); have hgV := OwnV.lt (ownV_alloc wr #[.slice none 0 0, .slice none 0 0, .int .i64 0] 27); have HNW := hide (OwnV.step (ownV_alloc wr #[.slice none 0 0, .slice none 0 0, .int .i64 0] 27) (below_undrewA hb)))); (try (have y0 := (unhide HNW).cell (i := 0) rfl; have y1 := (unhide HNW).cell (i := 1) rfl; have y2 := (unhide HNW).cell (i := 2) rfl; have yf := (unhide HNW).frozen)); have m0 := ((unhide HS).box.step (unhide HB3)).cell (i := 0) rfl; have m1 := ((unhide HS).box.step (unhide HB3)).cell (i := 1) rfl; have m2 := ((unhide HS).box.step (unhide HB3)).cell (i := 2) rfl; have n0 := wcell3 g0 (unhide HB3); have n1 := wcell3 g1' (unhide HB3); have n2 := wcell3 g2' (unhide HB3); have n3 := wcell3 g3 (unhide HB3); have n4 := wcell3 g4 (unhide HB3); have n5 := wcell3 g5 (unhide HB3); have n6 := wcell3 g6 (unhide HB3); have zs0 := (unhide HB3).size; have zs1 : ¬ wd.heap.size = G := (by omega); have zs2 : ¬ G = wd.heap.size := (by omega); have zs3 : ¬ wd.heap.size = gb := (by omega); have zs4 : ¬ gb = wd.heap.size := (by omega); clear hb hin))
        all_goals
          go_wp2_with fail
          go_meet
          first
            | exact ⟨wd.heap.size, q4, q6, p4, p6, rfl, rfl, by omega, hide (Below.step (unhide HB3) (Below.alloc1 _ _)), hide (ownV_alloc wd #[.slice q4 LL.length q6, .slice p4 FF.length p6, .int .i64 tk2] 27), fun W2 hk => (unhide HIN) W2 ((kept_of_below (Below.alloc1 _ _)).trans (hk.mono (fun k _ e => Nat.lt_of_lt_of_le e (by first | exact Nat.le_refl _ | exact (Below.alloc1 _ _).size))))⟩
            | exact ⟨_, q4, q6, p4, p6, rfl, rfl, by omega, hide ((unhide HB3).trans ((kept3 wd _ 0 1 2 _ _ _).below (by omega) (fun k e => by have e : k = _ := e; omega))), hide ((((unhide HNW).set 0 (.slice q4 LL.length q6) (by simp)).set 1 (.slice p4 FF.length p6) (by simp)).set 2 (.int .i64 tk2) (by simp)), fun W2 hk => (unhide HIN) W2 ((kept_lt hgV (kept3 wd _ 0 1 2 _ _ _)).trans (hk.mono (fun k _ e => Nat.lt_trans e hgV)))⟩
      case rest =>
        obtain ⟨gw, q4, q6, p4, p6, rfl, rfl, hgw, HBX, HOW, HIN⟩ := hcut
        generalize wc = wx at *
        have hwx := (unhide HBX).size
        have HP := hide ((unhide HS).put (unhide HBX) (unhide HIN))
        have HS1 := hide ((unhide HS).step (unhide HBX))
        clear b0 b1 b2 bf g0 g1' g2' g3 g4 g5 g6 QD HIN HBX HS
        have b0 := (unhide HS1).box.cell (i := 0) rfl
        have b1 := (unhide HS1).box.cell (i := 1) rfl
        have b2 := (unhide HS1).box.cell (i := 2) rfl
        have bf := (unhide HS1).box.frozen
        have w0 := (unhide HOW).cell (i := 0) rfl
        have w1 := (unhide HOW).cell (i := 1) rfl
        have w2 := (unhide HOW).cell (i := 2) rfl
        have zf1 : ¬ gw = G := by omega
        have zf2 : ¬ G = gw := by omega
        obtain ⟨V5, eV5⟩ : ∃ V, V = ((wx.setCell ⟨G, 0, none⟩ (.slice q4 LL.length q6)).setCell ⟨G, 1, none⟩ (.slice p4 FF.length p6)).setCell ⟨G, 2, none⟩ (.int .i64 tk2) := ⟨_, rfl⟩
        dsimp only at HP
        rw [← eV5] at HP
        go_upto_region 8 with (fail)
        rw [← eV5]
        clear eV5 w0 w1 w2 b0 b1 b2 bf HS1 HOW
        have A5 := Below.alloc1 V5 (.cells #[.int .i64 cd] 3)
        have HG := hide (ownV_alloc V5 #[.int .i64 cd] 3)
        replace HP := hide ((unhide HP).step A5)
        have HRa := hide (unhide HP).cds
        clear A5
        go_wp2_with (at_builtin; go_must (refine wpList_appRow tyI _ rfl (.tmp 35) (.tmp 37) rfl 0 (some ⟨D, 0, none⟩) k cap (cdsH (L, T, tk) O k) rfl (unhide HRa) (Nat.zero_le _) (by omega) V5.heap.size cd 1 rfl (unhide HG) ?_); intro g' cap' w' hL hKp hBg hat; have HP2 := hide ((unhide HP).code hL hKp hat); clear hL hKp hat hBg)
        rw [← unhide HCD, ← unhide HST] at HP2
        have hap := (unhide HP2).ap
        go_roundg (N - (k + 1))
        case measure => omega
        case rel => exact ⟨k + 1, g', cap', q4, _, q6, p4, _, p6, by omega, rfl, rfl, by go_num, hap.2.1, HP2⟩
    · have hkE : k = N := by omega
      have HF := hide (unhide HS).fin
      have r0 := (unhide HS).res.cell (i := 0) rfl
      have r1 := (unhide HS).res.cell (i := 1) rfl
      have r2 := (unhide HS).res.cell (i := 2) rfl
      have rf := (unhide HS).res.frozen
      have zr1 : ¬ G = w.heap.size + 1 := by omega
      have zr2 : ¬ w.heap.size + 1 = G := by omega
      have hge : O.length ≤ 200 → ¬ k < O.length := fun h2 => runN_ge (by have := unhide HEN; omega) h2
      subst hkE
      clear HS HOC HSL
      obtain ⟨S1, eS1⟩ : ∃ z, z = stH (L, T, tk) O k := ⟨_, rfl⟩
      rw [← eS1] at HF b2
      have ES1 := hide eS1
      clear eS1
      obtain ⟨L1, P1, tk1⟩ := S1
      dsimp only at HF b2
      by_cases hkO : (k : Int) < O.length
      · have hno : ¬ (O.length : Int) ≤ 200 := fun h2 => absurd (show k < O.length by omega) (hge (by omega))
        clear hge
        go_wp2
        have k0 := (unhide HF).1.cell (i := 0) rfl
        have k1 := (unhide HF).1.cell (i := 1) rfl
        have k2 := (unhide HF).1.cell (i := 2) rfl
        refine bodyPost_ret (v := .tuple #[vHouse (.slice q1 n1 q3) (.slice p1 n2 p3) tk1, .slice (some ⟨D, 0, none⟩) k cap]) (by simp [results, Try.results28, go_sem, vHouse, k0, k1, k2]) rfl ?_
        show RSA _ _ _ _ _
        rw [← unhide HEN, ← unhide ES1]
        exact ⟨_, _, _, _, _, rfl, (unhide HF).2.1, (unhide HF).2.2⟩
      · clear hge
        go_wp2
        have k0 := (unhide HF).1.cell (i := 0) rfl
        have k1 := (unhide HF).1.cell (i := 1) rfl
        have k2 := (unhide HF).1.cell (i := 2) rfl
        refine bodyPost_ret (v := .tuple #[vHouse (.slice q1 n1 q3) (.slice p1 n2 p3) tk1, .slice (some ⟨D, 0, none⟩) k cap]) (by simp [results, Try.results28, go_sem, vHouse, k0, k1, k2]) rfl ?_
        show RSA _ _ _ _ _
        rw [← unhide HEN, ← unhide ES1]
        exact ⟨_, _, _, _, _, rfl, (unhide HF).2.1, (unhide HF).2.2⟩

end Go.Proofs.Ytojlkdmlelgcbaa

/- Laid together out of: ChQ2. -/
import Derived.Test.YtmpicamenjnkkaaPg

/- The specification's l6Note: a feature taken out. -/
namespace Go.Proofs.Ytmpicamenjnkkaa
open Go.RowKit

/-- A chart whose features lie in the new row g, its depths below U. -/
def OwnChG (B U g : Nat) (w : World) (da : Option Addr) (dk fk : Nat) (D : List Int) (F : List FeatureT) (fs : List Value) : Prop :=
  (D.length ≤ dk ∧ dk ≤ maxLen ∧ F.length ≤ fk ∧ fk ≤ maxLen) ∧ ∃ g1, B ≤ g1 ∧ g1 < U ∧ U ≤ g ∧ g < w.heap.size ∧ (D ≠ [] → da = some ⟨g1, 0, none⟩ ∧ OwnV w g1 (ints D)) ∧ OwnV w g fs
theorem OwnChG.whole {B U g : Nat} {w : World} {da : Option Addr} {dk fk : Nat} {D : List Int} {F : List FeatureT} {fs : List Value} (h : OwnChG B U g w da dk fk D F fs) : OwnCh B w.heap.size w da dk (some ⟨g, 0, none⟩) fk D F fs := by
  obtain ⟨h0, g1, a1, a2, a3, a4, a5, a6⟩ := h
  exact ⟨h0, g1, g, a1, by omega, by omega, a4, by omega, Nat.le_refl _, a5, fun _ => ⟨rfl, a6⟩⟩
theorem OwnCh.withG {B U g : Nat} {w : World} {da fa : Option Addr} {dk fk : Nat} {D : List Int} {F G : List FeatureT} {fs : List Value} (h : OwnCh B U w da dk fa fk D F fs) (hg : U ≤ g) {cap : Nat} (hc : G.length ≤ cap) (hm : cap ≤ maxLen) (ho : OwnV w g (recCells 5 eFeature G)) : OwnChG B U g w da dk cap D G (recCells 5 eFeature G) := by
  obtain ⟨⟨b1, b2, b3, b4⟩, g1, g2, a1, a2, a3, a4, a5, a6, a7, a8⟩ := h
  exact ⟨⟨b1, b2, hc, hm⟩, g1, a1, a2, hg, ho.lt, a7, ho⟩
/-- The chart's rows stay while the result's box is written. -/
theorem OwnCh.hole {B U g : Nat} {w : World} {da : Option Addr} {dk fk : Nat} {D : List Int} {F : List FeatureT} {fs : List Value} (h : OwnChG B U g w da dk fk D F fs) {r : Nat} (hr : r ≠ g) (hU : U ≤ r) (i : Nat) (u : Value) : OwnChG B U g (w.setCell ⟨r, i, none⟩ u) da dk fk D F fs := by
  obtain ⟨h0, g1, a1, a2, a3, a4, a5, a6⟩ := h
  exact ⟨h0, g1, a1, a2, a3, by simpa [World.setCell] using a4, fun hd => ⟨(a5 hd).1, farN (a5 hd).2 (by omega) i u⟩, farN a6 (fun e => hr e.symm) i u⟩
theorem ownsRow_own {w : World} {B g n cap : Nat} {e : TypeId} {xs : List Value} (h : w.ownsRow B e 5 (.slice (some ⟨g, 0, none⟩) n cap) n xs) (hl : xs.length = n * 5) : B ≤ g ∧ cap ≤ maxLen ∧ OwnV w g xs := by
  obtain ⟨_, h2⟩ := h
  rcases h2 with ⟨e, _⟩ | ⟨g3, cap3, cur, hv, hg, hh, hc3, hm, hs, ht⟩
  · simp at e
  · simp only [Value.slice.injEq, Option.some.injEq, Addr.mk.injEq, and_true, true_and] at hv
    obtain ⟨rfl, rfl⟩ := hv
    refine ⟨hg, hm, cur, _, hh, fun i hi => ?_⟩
    rw [hl] at hi
    rw [← ht, List.getElem?_take, if_pos hi]
    simp

set_option maxRecDepth 10000 in
set_option maxHeartbeats 8000000 in
theorem l6NoteDrop_any (B U : Nat) (c : Ch) (id x y d : Int) (t : ByteArray) (so : Int) (da : Option Addr) (dk : Nat) (gf : Nat) (fk : Nat) (W : World) (h : OwnCh B U W da dk (some ⟨gf, 0, none⟩) fk c.D c.F (recCells 5 eFeature c.F)) (hF : c.F.length ≤ 30) :
    Calls Try.prog 70 #[vChart c.wd c.hg (.slice da c.D.length dk) (.slice (some ⟨gf, 0, none⟩) c.F.length fk) c.ed, vNote 2 id x y d t so] W fun e W' => NoteAns B da dk gf W W' e (noteOf c (2, id, x, y, d, t, so)) := by
  obtain ⟨⟨A, r⟩, eA⟩ : ∃ z, z = noteOf c (2, id, x, y, d, t, so) := ⟨_, rfl⟩
  rw [← eA]
  have EA := hide eA
  have HB := hide (b3_new W #[.int .i64 c.wd, .int .i64 c.hg, .slice da c.D.length dk, .slice (some ⟨gf, 0, none⟩) c.F.length fk, .int .i64 c.ed] #[.int .i64 2, .int .i64 id, .int .i64 x, .int .i64 y, .int .i64 d, .string t, .int .i64 so] #[.int .i64 0, .int .i64 0, .slice none 0 0, .slice none 0 0, .int .i64 0] 27 74 27)
  have HFi := hide (l6Find_any c.wd c.hg c.ed (.slice da c.D.length dk) (some ⟨gf, 0, none⟩) c.F.length fk c.F id _ (h.feats.below (unhide HB).below))
  have HO := hide h
  have hUW : B ≤ U ∧ U ≤ W.heap.size := h.sizes
  clear eA h
  have hfb := findOf_bd c.F id
  obtain ⟨at0, eat⟩ : ∃ z, z = findOf c.F id := ⟨_, rfl⟩
  rw [← eat] at HFi hfb
  have EAT := hide eat
  clear eat
  unfold vChart vNote at *
  go_enter Try.func70, Try.ntmps70
  go_wp2_with fail
  refine (unhide HFi).mono ?_
  rintro e V ⟨rfl, hb⟩
  replace HB := hide ((unhide HB).step hb)
  replace HO := hide ((unhide HO).below (unhide HB).below)
  clear hb HFi
  have hnk : ∀ z, noteOf c (2, id, x, y, d, t, so) = z ↔ (if findOf c.F id < 0 then (c, false) else ({ c with F := c.F.take (findOf c.F id).toNat ++ c.F.drop ((findOf c.F id).toNat + 1) }, true)) = z := fun z => by
    unfold noteOf
    rw [if_neg (by show ¬ (2 : Int) = 1; decide), if_pos rfl]
  rw [← unhide EAT] at hnk
  have HNK := hide hnk
  clear hnk
  have c0 := (unhide HB).o1.cell (i := 0) rfl
  have c1 := (unhide HB).o1.cell (i := 1) rfl
  have c2 := (unhide HB).o1.cell (i := 2) rfl
  have c3 := (unhide HB).o1.cell (i := 3) rfl
  have c4 := (unhide HB).o1.cell (i := 4) rfl
  have n0 := (unhide HB).o2.cell (i := 0) rfl
  have n1 := (unhide HB).o2.cell (i := 1) rfl
  have n2 := (unhide HB).o2.cell (i := 2) rfl
  have n3 := (unhide HB).o2.cell (i := 3) rfl
  have n4 := (unhide HB).o2.cell (i := 4) rfl
  have n5 := (unhide HB).o2.cell (i := 5) rfl
  have n6 := (unhide HB).o2.cell (i := 6) rfl
  by_cases hat : at0 < 0
  · have hati : decide (at0 < 0) = true := decide_eq_true hat
    have EZ : Hid ((A, r) = (c, false)) := by show _ = _; rw [unhide EA]; exact (unhide HNK _).2 (by rw [if_pos hat])
    have hU : U ≤ W.heap.size + 1 + 1 := by omega
    have hx1 : ¬ W.heap.size = W.heap.size + 1 + 1 := by omega
    have hx2 : ¬ W.heap.size + 1 + 1 = W.heap.size := by omega
    have hx3 : ¬ W.heap.size + 1 = W.heap.size + 1 + 1 := by omega
    have d0 := (unhide HB).o3.cell (i := 0) rfl
    have d1 := (unhide HB).o3.cell (i := 1) rfl
    have d2 := (unhide HB).o3.cell (i := 2) rfl
    have d3 := (unhide HB).o3.cell (i := 3) rfl
    have d4 := (unhide HB).o3.cell (i := 4) rfl
    have df := (unhide HB).o3.frozen
    have HB8 := hide ((((((unhide HB).put3 0 (.int .i64 c.wd) (by simp)).put3 1 (.int .i64 c.hg) (by simp)).put3 2 (.slice da c.D.length dk) (by simp)).put3 3 (.slice (some ⟨gf, 0, none⟩) c.F.length fk) (by simp)).put3 4 (.int .i64 c.ed) (by simp))
    have HO8 := hide (OwnCh.far (OwnCh.far (OwnCh.far (OwnCh.far (OwnCh.far (unhide HO) hU 0 (.int .i64 c.wd)) hU 1 (.int .i64 c.hg)) hU 2 (.slice da c.D.length dk)) hU 3 (.slice (some ⟨gf, 0, none⟩) c.F.length fk)) hU 4 (.int .i64 c.ed))
    clear HB HO
    go_wp2
    have q0 := (unhide HB8).o3.cell (i := 0) rfl
    have q1 := (unhide HB8).o3.cell (i := 1) rfl
    have q2 := (unhide HB8).o3.cell (i := 2) rfl
    have q3 := (unhide HB8).o3.cell (i := 3) rfl
    have q4 := (unhide HB8).o3.cell (i := 4) rfl
    refine bodyPost_ret (v := .tuple #[.agg #[.int .i64 c.wd, .int .i64 c.hg, .slice da c.D.length dk, .slice (some ⟨gf, 0, none⟩) c.F.length fk, .int .i64 c.ed], .bool false]) (by simp [results, Try.results70, go_sem, q0, q1, q2, q3, q4]) rfl ?_
    exact ⟨gf, fk, by rw [unhide EZ]; rfl, by rw [unhide EZ]; exact OwnCh.whole (unhide HO8), (unhide HB8).below.mono (by omega), kept_of_below (unhide HB8).below, Or.inl rfl⟩
  have hatf : decide (at0 < 0) = false := decide_eq_false hat
  obtain ⟨j, ej⟩ := Int.eq_ofNat_of_zero_le (show 0 ≤ at0 by omega)
  subst ej
  have hjn : j < c.F.length := by omega
  have hji : (j : Int) < c.F.length := by omega
  have EZ : Hid ((A, r) = ({ c with F := c.F.take j ++ c.F.drop (j + 1) }, true)) := by show _ = _; rw [unhide EA]; exact (unhide HNK _).2 (by rw [if_neg (by omega), Int.toNat_natCast])
  obtain ⟨g2, hg2B, hg2U, hfa, hO2, -⟩ := ownCh_feat (unhide HO) (fun e => by rw [e] at hjn; simp at hjn)
  obtain rfl : gf = g2 := by simpa using hfa
  clear hfa
  have hfk : c.F.length ≤ fk ∧ fk ≤ maxLen := ⟨(unhide HO).1.2.2.1, (unhide HO).1.2.2.2⟩
  unfold maxLen at hfk
  obtain ⟨hfk0, hfk1⟩ := hfk
  have HO2 := hide hO2
  have hUV : U ≤ V.heap.size := (unhide HO).sizes.2
  obtain ⟨i1, hi', hy0, hy1, hy2⟩ := info_parts Try.infoFeature
  have HR0 : Hid ((V.alloc (.cells #[] 91)).drew.ownsRow V.heap.size 91 5 (.slice (some ⟨V.heap.size, 0, none⟩) 0 0) 0 []) := ⟨rfl, Or.inr ⟨V.heap.size, 0, #[], rfl, Nat.le_refl _, Go.Deep.blk_alloc_new _ _, Nat.le_refl _, Nat.zero_le _, rfl, rfl⟩⟩
  have HN1 : Hid (j ≠ 0 → ∃ ad, some (⟨gf, 0, none⟩ : Addr) = some ad ∧ ∀ q u, (recCells 5 eFeature (c.F.take j))[q]? = some u → (V.alloc (.cells #[] 91)).drew.cell? (ad.add q) = some u) := fun _ => ⟨_, rfl, fun q u hu => by
    have h2 := rec_part ((unhide HO2).alloc (.cells #[] 91)) 0 j (by omega) q u (by rw [List.drop_zero]; exact hu)
    rw [Nat.zero_mul] at h2
    exact h2⟩
  have hlt1 : (recCells 5 eFeature (c.F.take j)).length = j * 5 := by rw [recCells_length, List.length_take, Nat.min_eq_left (by omega)]
  have HLT1 := hide hlt1
  have i1w : IntKind.i64.wrap ((j : Int) + 1) = ((j + 1 : Nat) : Int) := by rw [IntKind.wrap_i64]; omega
  have c3a : ∀ o, (V.alloc o).cell? ⟨W.heap.size, 3, none⟩ = some (.slice (some ⟨gf, 0, none⟩) c.F.length fk) := fun o => wcell3 c3 (Below.alloc1 V o)
  clear hO2 HNK EA EAT hatf hat hlt1
  go_upto_region 16 with (fail)
  have HN2 : Hid (∀ wa, Below V.heap.size V wa → ∀ q u, (recCells 5 eFeature (c.F.drop (j + 1)))[q]? = some u → wa.cell? ((⟨gf, (j + 1) * 5, none⟩ : Addr).add q) = some u) := fun wa hb q u hu => by
    have h2 := rec_part ((unhide HO2).step hb) (j + 1) (c.F.length - (j + 1)) (by omega) q u
    rw [List.take_of_length_le (by rw [List.length_drop]; omega)] at h2
    exact h2 hu
  have HLT2 : Hid ((recCells 5 eFeature (c.F.drop (j + 1))).length = (c.F.length - (j + 1)) * 5) := by show _ = _; rw [recCells_length, List.length_drop]
  have hz1 : (0 : Int) ≤ (j : Int) + 1 := by omega
  have hz2 : (j : Int) + 1 ≤ c.F.length := by omega
  have hjk : j ≤ fk := by omega
  have hjk1 : j + 1 ≤ fk := by omega
  have hjk2 : j + 1 ≤ c.F.length := by omega
  by_cases hjl : j + 1 < c.F.length
  · have hjk3 : ¬ fk = j + 1 := by omega
    go_region_law (first | (refine step_append_any (by rfl) (.tmp 84) (.tmp 88) 25 (by rfl) V.heap.size 91 i1 _ 5 48 Try.underlying25 hi' hy0 hy1 hy2 rfl (by decide) V.heap.size 0 0 [] (by rfl) (unhide HR0) (Nat.le_refl _) (some ⟨gf, 0, none⟩) j _ (recCells 5 eFeature (c.F.take j)) (by rfl) (unhide HLT1) (unhide HN1) fe_one (by unfold maxLen; omega) (by omega) (by simp) ?_; intro ga capa wa howna hca hgra hata; rw [Nat.zero_add] at hca; rw [Nat.zero_add, List.nil_append] at howna; have HBa : Hid (Below V.heap.size V wa) := ((((Below.refl V.heap.size V).alloc (Nat.le_refl _) _).drew).grown hgra (by simp) (fun g hg => by simp at hg; omega)); have HOWa := hide howna; have c3b := wcell3 c3 (unhide HBa); clear howna hgra hata) | (refine step_append_any (by rfl) (.tmp 89) (.tmp 94) 25 (by rfl) V.heap.size 91 i1 _ 5 48 Try.underlying25 hi' hy0 hy1 hy2 rfl (by decide) ga j capa (recCells 5 eFeature (c.F.take j)) (by rfl) (unhide HOWa) hca (some ⟨gf, (j + 1) * 5, none⟩) (c.F.length - (j + 1)) _ (recCells 5 eFeature (c.F.drop (j + 1))) (by rfl) (unhide HLT2) (fun _ => ⟨_, rfl, unhide HN2 _ (unhide HBa)⟩) fe_one (by unfold maxLen; omega) (by omega) (unhide HBa).size ?_; intro gb capb wb hownb hcb hgrb hatb; have HOWb := hide hownb; have HBb : Hid (Below V.heap.size V wb) := ((unhide HBa).grown hgrb (unhide HBa).size (fun g hg => ((unhide HOWa).lt g (by simpa [Value.ownBlock] using hg)).1)); have q3 := ((unhide HB).o1.step (unhide HBb)).cell (i := 3) rfl; have q4 := ((unhide HB).o1.step (unhide HBb)).frozen 3; clear hownb hgrb hatb))
    all_goals
      have hlen : recCells 5 eFeature (c.F.take j) ++ recCells 5 eFeature (c.F.drop (j + 1)) = recCells 5 eFeature (c.F.take j ++ c.F.drop (j + 1)) := (recCells_two _ _).symm
      have hGl : (c.F.take j ++ c.F.drop (j + 1)).length = (j + (c.F.length - (j + 1))) := by rw [List.length_append, List.length_take, List.length_drop, Nat.min_eq_left (by omega)]
      have hrow := unhide HOWb
      rw [hlen] at hrow
      obtain ⟨hgbV, hcm, hob⟩ := ownsRow_own hrow (by rw [recCells_length, hGl])
      have hVW : W.heap.size + 1 + 1 < V.heap.size := (unhide HB).o3.lt
      have hne1 : W.heap.size + 1 + 1 ≠ W.heap.size := by omega
      have hgl := hob.lt
      have hX := ((unhide HB).o1.step (unhide HBb)).set 3 (.slice (some ⟨gb, 0, none⟩) (j + (c.F.length - (j + 1))) capb) (by simp)
      have hZ := farN ((unhide HB).o3.step (unhide HBb)) hne1 3 (.slice (some ⟨gb, 0, none⟩) (j + (c.F.length - (j + 1))) capb)
      have hLW := ((unhide HB).below.trans (Below.mono (unhide HBb) (by omega : W.heap.size ≤ V.heap.size))).setCell (p := ⟨W.heap.size, 3, none⟩) (Nat.le_refl _) (.slice (some ⟨gb, 0, none⟩) (j + (c.F.length - (j + 1))) capb)
      have hL := hLW.mono (by omega : B ≤ W.heap.size)
      have hO3 := farN hob (show gb ≠ W.heap.size by omega) 3 (.slice (some ⟨gb, 0, none⟩) (j + (c.F.length - (j + 1))) capb)
      have hP := OwnCh.withG (OwnCh.far ((unhide HO).below (unhide HBb)) (show U ≤ W.heap.size by omega) 3 (.slice (some ⟨gb, 0, none⟩) (j + (c.F.length - (j + 1))) capb)) (by omega : U ≤ gb) (cap := capb) (G := (c.F.take j ++ c.F.drop (j + 1))) (by rw [hGl]; exact hcb) hcm hO3
      obtain ⟨V6, e6⟩ : ∃ z, z = wb.setCell ⟨W.heap.size, 3, none⟩ (.slice (some ⟨gb, 0, none⟩) (j + (c.F.length - (j + 1))) capb) := ⟨_, rfl⟩
      rw [← e6] at hX hZ hL hLW hP ⊢
      have p0 := hX.cell (i := 0) rfl
      have p1 := hX.cell (i := 1) rfl
      have p2 := hX.cell (i := 2) rfl
      have p3 := hX.cell (i := 3) rfl
      have p4 := hX.cell (i := 4) rfl
      have d0 := hZ.cell (i := 0) rfl
      have d1 := hZ.cell (i := 1) rfl
      have d2 := hZ.cell (i := 2) rfl
      have d3 := hZ.cell (i := 3) rfl
      have d4 := hZ.cell (i := 4) rfl
      have df := hZ.frozen
      have hx1 : ¬ W.heap.size = W.heap.size + 1 + 1 := by omega
      have hx2 : ¬ W.heap.size + 1 + 1 = W.heap.size := by omega
      have HZ8 := hide (((((hZ.set 0 (.int .i64 c.wd) (by simp)).set 1 (.int .i64 c.hg) (by simp)).set 2 (.slice da c.D.length dk) (by simp)).set 3 (.slice (some ⟨gb, 0, none⟩) (j + (c.F.length - (j + 1))) capb) (by simp)).set 4 (.int .i64 c.ed) (by simp))
      have hBr : B ≤ W.heap.size + 1 + 1 := by omega
      have HP8 := hide (OwnCh.hole (OwnCh.hole (OwnCh.hole (OwnCh.hole (OwnCh.hole hP (show W.heap.size + 1 + 1 ≠ gb by omega) (show U ≤ W.heap.size + 1 + 1 by omega) 0 (.int .i64 c.wd)) (show W.heap.size + 1 + 1 ≠ gb by omega) (show U ≤ W.heap.size + 1 + 1 by omega) 1 (.int .i64 c.hg)) (show W.heap.size + 1 + 1 ≠ gb by omega) (show U ≤ W.heap.size + 1 + 1 by omega) 2 (.slice da c.D.length dk)) (show W.heap.size + 1 + 1 ≠ gb by omega) (show U ≤ W.heap.size + 1 + 1 by omega) 3 (.slice (some ⟨gb, 0, none⟩) (j + (c.F.length - (j + 1))) capb)) (show W.heap.size + 1 + 1 ≠ gb by omega) (show U ≤ W.heap.size + 1 + 1 by omega) 4 (.int .i64 c.ed))
      have HL8 := hide (Below.setCell (Below.setCell (Below.setCell (Below.setCell (Below.setCell hL (p := ⟨W.heap.size + 1 + 1, 0, none⟩) hBr (.int .i64 c.wd)) (p := ⟨W.heap.size + 1 + 1, 1, none⟩) hBr (.int .i64 c.hg)) (p := ⟨W.heap.size + 1 + 1, 2, none⟩) hBr (.slice da c.D.length dk)) (p := ⟨W.heap.size + 1 + 1, 3, none⟩) hBr (.slice (some ⟨gb, 0, none⟩) (j + (c.F.length - (j + 1))) capb)) (p := ⟨W.heap.size + 1 + 1, 4, none⟩) hBr (.int .i64 c.ed))
      have HW8 := hide (Below.setCell (Below.setCell (Below.setCell (Below.setCell (Below.setCell hLW (p := ⟨W.heap.size + 1 + 1, 0, none⟩) (show W.heap.size ≤ W.heap.size + 1 + 1 by omega) (.int .i64 c.wd)) (p := ⟨W.heap.size + 1 + 1, 1, none⟩) (show W.heap.size ≤ W.heap.size + 1 + 1 by omega) (.int .i64 c.hg)) (p := ⟨W.heap.size + 1 + 1, 2, none⟩) (show W.heap.size ≤ W.heap.size + 1 + 1 by omega) (.slice da c.D.length dk)) (p := ⟨W.heap.size + 1 + 1, 3, none⟩) (show W.heap.size ≤ W.heap.size + 1 + 1 by omega) (.slice (some ⟨gb, 0, none⟩) (j + (c.F.length - (j + 1))) capb)) (p := ⟨W.heap.size + 1 + 1, 4, none⟩) (show W.heap.size ≤ W.heap.size + 1 + 1 by omega) (.int .i64 c.ed))
      have hgbW : W.heap.size ≤ gb := by omega
      clear hX hZ hL hLW hP e6 HB hlen hrow hob hO3 HOWb HBb c0 c1 c2 c3 c4 n0 n1 n2 n3 n4 n5 n6 HN2 HLT2 HR0 HN1 HLT1 HOWa HBa HO2 c3b c3a hca hcb q3 q4
      go_wp2
      have q0 := (unhide HZ8).cell (i := 0) rfl
      have q1 := (unhide HZ8).cell (i := 1) rfl
      have q2 := (unhide HZ8).cell (i := 2) rfl
      have q3 := (unhide HZ8).cell (i := 3) rfl
      have q4 := (unhide HZ8).cell (i := 4) rfl
      refine bodyPost_ret (v := .tuple #[.agg #[.int .i64 c.wd, .int .i64 c.hg, .slice da c.D.length dk, .slice (some ⟨gb, 0, none⟩) (j + (c.F.length - (j + 1))) capb, .int .i64 c.ed], .bool true]) (by simp [results, Try.results70, go_sem, q0, q1, q2, q3, q4]) rfl ?_
      refine ⟨gb, capb, ?_, ?_, unhide HL8, kept_of_below (unhide HW8), Or.inr hgbW⟩
      · rw [unhide EZ]; show _ = Ending.returned (.tuple #[vChart c.wd c.hg (.slice _ _ dk) (.slice _ (c.F.take j ++ c.F.drop (j + 1)).length capb) c.ed, .bool true]); rw [hGl]; rfl
      · rw [unhide EZ]; exact OwnChG.whole (unhide HP8)
  · by_cases hfk : fk = j + 1
    · have hfkT : (fk = j + 1) = True := eq_true hfk
      clear hfk
      go_region_law (first | (refine step_append_any (by rfl) (.tmp 84) (.tmp 88) 25 (by rfl) V.heap.size 91 i1 _ 5 48 Try.underlying25 hi' hy0 hy1 hy2 rfl (by decide) V.heap.size 0 0 [] (by rfl) (unhide HR0) (Nat.le_refl _) (some ⟨gf, 0, none⟩) j _ (recCells 5 eFeature (c.F.take j)) (by rfl) (unhide HLT1) (unhide HN1) fe_one (by unfold maxLen; omega) (by omega) (by simp) ?_; intro ga capa wa howna hca hgra hata; rw [Nat.zero_add] at hca; rw [Nat.zero_add, List.nil_append] at howna; have HBa : Hid (Below V.heap.size V wa) := ((((Below.refl V.heap.size V).alloc (Nat.le_refl _) _).drew).grown hgra (by simp) (fun g hg => by simp at hg; omega)); have HOWa := hide howna; have c3b := wcell3 c3 (unhide HBa); clear howna hgra hata) | (refine step_append_any (by rfl) (.tmp 89) (.tmp 94) 25 (by rfl) V.heap.size 91 i1 _ 5 48 Try.underlying25 hi' hy0 hy1 hy2 rfl (by decide) ga j capa (recCells 5 eFeature (c.F.take j)) (by rfl) (unhide HOWa) hca _ (c.F.length - (j + 1)) _ (recCells 5 eFeature (c.F.drop (j + 1))) (by rfl) (unhide HLT2) (fun h => absurd (show c.F.length - (j + 1) = 0 by omega) h) fe_one (by unfold maxLen; omega) (by omega) (unhide HBa).size ?_; intro gb capb wb hownb hcb hgrb hatb; have HOWb := hide hownb; have HBb : Hid (Below V.heap.size V wb) := ((unhide HBa).grown hgrb (unhide HBa).size (fun g hg => ((unhide HOWa).lt g (by simpa [Value.ownBlock] using hg)).1)); have q3 := ((unhide HB).o1.step (unhide HBb)).cell (i := 3) rfl; have q4 := ((unhide HB).o1.step (unhide HBb)).frozen 3; clear hownb hgrb hatb))
      all_goals
        have hlen : recCells 5 eFeature (c.F.take j) ++ recCells 5 eFeature (c.F.drop (j + 1)) = recCells 5 eFeature (c.F.take j ++ c.F.drop (j + 1)) := (recCells_two _ _).symm
        have hGl : (c.F.take j ++ c.F.drop (j + 1)).length = (j + (c.F.length - (j + 1))) := by rw [List.length_append, List.length_take, List.length_drop, Nat.min_eq_left (by omega)]
        have hrow := unhide HOWb
        rw [hlen] at hrow
        obtain ⟨hgbV, hcm, hob⟩ := ownsRow_own hrow (by rw [recCells_length, hGl])
        have hVW : W.heap.size + 1 + 1 < V.heap.size := (unhide HB).o3.lt
        have hne1 : W.heap.size + 1 + 1 ≠ W.heap.size := by omega
        have hgl := hob.lt
        have hX := ((unhide HB).o1.step (unhide HBb)).set 3 (.slice (some ⟨gb, 0, none⟩) (j + (c.F.length - (j + 1))) capb) (by simp)
        have hZ := farN ((unhide HB).o3.step (unhide HBb)) hne1 3 (.slice (some ⟨gb, 0, none⟩) (j + (c.F.length - (j + 1))) capb)
        have hLW := ((unhide HB).below.trans (Below.mono (unhide HBb) (by omega : W.heap.size ≤ V.heap.size))).setCell (p := ⟨W.heap.size, 3, none⟩) (Nat.le_refl _) (.slice (some ⟨gb, 0, none⟩) (j + (c.F.length - (j + 1))) capb)
        have hL := hLW.mono (by omega : B ≤ W.heap.size)
        have hO3 := farN hob (show gb ≠ W.heap.size by omega) 3 (.slice (some ⟨gb, 0, none⟩) (j + (c.F.length - (j + 1))) capb)
        have hP := OwnCh.withG (OwnCh.far ((unhide HO).below (unhide HBb)) (show U ≤ W.heap.size by omega) 3 (.slice (some ⟨gb, 0, none⟩) (j + (c.F.length - (j + 1))) capb)) (by omega : U ≤ gb) (cap := capb) (G := (c.F.take j ++ c.F.drop (j + 1))) (by rw [hGl]; exact hcb) hcm hO3
        obtain ⟨V6, e6⟩ : ∃ z, z = wb.setCell ⟨W.heap.size, 3, none⟩ (.slice (some ⟨gb, 0, none⟩) (j + (c.F.length - (j + 1))) capb) := ⟨_, rfl⟩
        rw [← e6] at hX hZ hL hLW hP ⊢
        have p0 := hX.cell (i := 0) rfl
        have p1 := hX.cell (i := 1) rfl
        have p2 := hX.cell (i := 2) rfl
        have p3 := hX.cell (i := 3) rfl
        have p4 := hX.cell (i := 4) rfl
        have d0 := hZ.cell (i := 0) rfl
        have d1 := hZ.cell (i := 1) rfl
        have d2 := hZ.cell (i := 2) rfl
        have d3 := hZ.cell (i := 3) rfl
        have d4 := hZ.cell (i := 4) rfl
        have df := hZ.frozen
        have hx1 : ¬ W.heap.size = W.heap.size + 1 + 1 := by omega
        have hx2 : ¬ W.heap.size + 1 + 1 = W.heap.size := by omega
        have HZ8 := hide (((((hZ.set 0 (.int .i64 c.wd) (by simp)).set 1 (.int .i64 c.hg) (by simp)).set 2 (.slice da c.D.length dk) (by simp)).set 3 (.slice (some ⟨gb, 0, none⟩) (j + (c.F.length - (j + 1))) capb) (by simp)).set 4 (.int .i64 c.ed) (by simp))
        have hBr : B ≤ W.heap.size + 1 + 1 := by omega
        have HP8 := hide (OwnCh.hole (OwnCh.hole (OwnCh.hole (OwnCh.hole (OwnCh.hole hP (show W.heap.size + 1 + 1 ≠ gb by omega) (show U ≤ W.heap.size + 1 + 1 by omega) 0 (.int .i64 c.wd)) (show W.heap.size + 1 + 1 ≠ gb by omega) (show U ≤ W.heap.size + 1 + 1 by omega) 1 (.int .i64 c.hg)) (show W.heap.size + 1 + 1 ≠ gb by omega) (show U ≤ W.heap.size + 1 + 1 by omega) 2 (.slice da c.D.length dk)) (show W.heap.size + 1 + 1 ≠ gb by omega) (show U ≤ W.heap.size + 1 + 1 by omega) 3 (.slice (some ⟨gb, 0, none⟩) (j + (c.F.length - (j + 1))) capb)) (show W.heap.size + 1 + 1 ≠ gb by omega) (show U ≤ W.heap.size + 1 + 1 by omega) 4 (.int .i64 c.ed))
        have HL8 := hide (Below.setCell (Below.setCell (Below.setCell (Below.setCell (Below.setCell hL (p := ⟨W.heap.size + 1 + 1, 0, none⟩) hBr (.int .i64 c.wd)) (p := ⟨W.heap.size + 1 + 1, 1, none⟩) hBr (.int .i64 c.hg)) (p := ⟨W.heap.size + 1 + 1, 2, none⟩) hBr (.slice da c.D.length dk)) (p := ⟨W.heap.size + 1 + 1, 3, none⟩) hBr (.slice (some ⟨gb, 0, none⟩) (j + (c.F.length - (j + 1))) capb)) (p := ⟨W.heap.size + 1 + 1, 4, none⟩) hBr (.int .i64 c.ed))
        have HW8 := hide (Below.setCell (Below.setCell (Below.setCell (Below.setCell (Below.setCell hLW (p := ⟨W.heap.size + 1 + 1, 0, none⟩) (show W.heap.size ≤ W.heap.size + 1 + 1 by omega) (.int .i64 c.wd)) (p := ⟨W.heap.size + 1 + 1, 1, none⟩) (show W.heap.size ≤ W.heap.size + 1 + 1 by omega) (.int .i64 c.hg)) (p := ⟨W.heap.size + 1 + 1, 2, none⟩) (show W.heap.size ≤ W.heap.size + 1 + 1 by omega) (.slice da c.D.length dk)) (p := ⟨W.heap.size + 1 + 1, 3, none⟩) (show W.heap.size ≤ W.heap.size + 1 + 1 by omega) (.slice (some ⟨gb, 0, none⟩) (j + (c.F.length - (j + 1))) capb)) (p := ⟨W.heap.size + 1 + 1, 4, none⟩) (show W.heap.size ≤ W.heap.size + 1 + 1 by omega) (.int .i64 c.ed))
        have hgbW : W.heap.size ≤ gb := by omega
        clear hX hZ hL hLW hP e6 HB hlen hrow hob hO3 HOWb HBb c0 c1 c2 c3 c4 n0 n1 n2 n3 n4 n5 n6 HN2 HLT2 HR0 HN1 HLT1 HOWa HBa HO2 c3b c3a hca hcb q3 q4
        go_wp2
        have q0 := (unhide HZ8).cell (i := 0) rfl
        have q1 := (unhide HZ8).cell (i := 1) rfl
        have q2 := (unhide HZ8).cell (i := 2) rfl
        have q3 := (unhide HZ8).cell (i := 3) rfl
        have q4 := (unhide HZ8).cell (i := 4) rfl
        refine bodyPost_ret (v := .tuple #[.agg #[.int .i64 c.wd, .int .i64 c.hg, .slice da c.D.length dk, .slice (some ⟨gb, 0, none⟩) (j + (c.F.length - (j + 1))) capb, .int .i64 c.ed], .bool true]) (by simp [results, Try.results70, go_sem, q0, q1, q2, q3, q4]) rfl ?_
        refine ⟨gb, capb, ?_, ?_, unhide HL8, kept_of_below (unhide HW8), Or.inr hgbW⟩
        · rw [unhide EZ]; show _ = Ending.returned (.tuple #[vChart c.wd c.hg (.slice _ _ dk) (.slice _ (c.F.take j ++ c.F.drop (j + 1)).length capb) c.ed, .bool true]); rw [hGl]; rfl
        · rw [unhide EZ]; exact OwnChG.whole (unhide HP8)
    · go_region_law (first | (refine step_append_any (by rfl) (.tmp 84) (.tmp 88) 25 (by rfl) V.heap.size 91 i1 _ 5 48 Try.underlying25 hi' hy0 hy1 hy2 rfl (by decide) V.heap.size 0 0 [] (by rfl) (unhide HR0) (Nat.le_refl _) (some ⟨gf, 0, none⟩) j _ (recCells 5 eFeature (c.F.take j)) (by rfl) (unhide HLT1) (unhide HN1) fe_one (by unfold maxLen; omega) (by omega) (by simp) ?_; intro ga capa wa howna hca hgra hata; rw [Nat.zero_add] at hca; rw [Nat.zero_add, List.nil_append] at howna; have HBa : Hid (Below V.heap.size V wa) := ((((Below.refl V.heap.size V).alloc (Nat.le_refl _) _).drew).grown hgra (by simp) (fun g hg => by simp at hg; omega)); have HOWa := hide howna; have c3b := wcell3 c3 (unhide HBa); clear howna hgra hata) | (refine step_append_any (by rfl) (.tmp 89) (.tmp 94) 25 (by rfl) V.heap.size 91 i1 _ 5 48 Try.underlying25 hi' hy0 hy1 hy2 rfl (by decide) ga j capa (recCells 5 eFeature (c.F.take j)) (by rfl) (unhide HOWa) hca _ (c.F.length - (j + 1)) _ (recCells 5 eFeature (c.F.drop (j + 1))) (by rfl) (unhide HLT2) (fun h => absurd (show c.F.length - (j + 1) = 0 by omega) h) fe_one (by unfold maxLen; omega) (by omega) (unhide HBa).size ?_; intro gb capb wb hownb hcb hgrb hatb; have HOWb := hide hownb; have HBb : Hid (Below V.heap.size V wb) := ((unhide HBa).grown hgrb (unhide HBa).size (fun g hg => ((unhide HOWa).lt g (by simpa [Value.ownBlock] using hg)).1)); have q3 := ((unhide HB).o1.step (unhide HBb)).cell (i := 3) rfl; have q4 := ((unhide HB).o1.step (unhide HBb)).frozen 3; clear hownb hgrb hatb))
      all_goals
        have hlen : recCells 5 eFeature (c.F.take j) ++ recCells 5 eFeature (c.F.drop (j + 1)) = recCells 5 eFeature (c.F.take j ++ c.F.drop (j + 1)) := (recCells_two _ _).symm
        have hGl : (c.F.take j ++ c.F.drop (j + 1)).length = (j + (c.F.length - (j + 1))) := by rw [List.length_append, List.length_take, List.length_drop, Nat.min_eq_left (by omega)]
        have hrow := unhide HOWb
        rw [hlen] at hrow
        obtain ⟨hgbV, hcm, hob⟩ := ownsRow_own hrow (by rw [recCells_length, hGl])
        have hVW : W.heap.size + 1 + 1 < V.heap.size := (unhide HB).o3.lt
        have hne1 : W.heap.size + 1 + 1 ≠ W.heap.size := by omega
        have hgl := hob.lt
        have hX := ((unhide HB).o1.step (unhide HBb)).set 3 (.slice (some ⟨gb, 0, none⟩) (j + (c.F.length - (j + 1))) capb) (by simp)
        have hZ := farN ((unhide HB).o3.step (unhide HBb)) hne1 3 (.slice (some ⟨gb, 0, none⟩) (j + (c.F.length - (j + 1))) capb)
        have hLW := ((unhide HB).below.trans (Below.mono (unhide HBb) (by omega : W.heap.size ≤ V.heap.size))).setCell (p := ⟨W.heap.size, 3, none⟩) (Nat.le_refl _) (.slice (some ⟨gb, 0, none⟩) (j + (c.F.length - (j + 1))) capb)
        have hL := hLW.mono (by omega : B ≤ W.heap.size)
        have hO3 := farN hob (show gb ≠ W.heap.size by omega) 3 (.slice (some ⟨gb, 0, none⟩) (j + (c.F.length - (j + 1))) capb)
        have hP := OwnCh.withG (OwnCh.far ((unhide HO).below (unhide HBb)) (show U ≤ W.heap.size by omega) 3 (.slice (some ⟨gb, 0, none⟩) (j + (c.F.length - (j + 1))) capb)) (by omega : U ≤ gb) (cap := capb) (G := (c.F.take j ++ c.F.drop (j + 1))) (by rw [hGl]; exact hcb) hcm hO3
        obtain ⟨V6, e6⟩ : ∃ z, z = wb.setCell ⟨W.heap.size, 3, none⟩ (.slice (some ⟨gb, 0, none⟩) (j + (c.F.length - (j + 1))) capb) := ⟨_, rfl⟩
        rw [← e6] at hX hZ hL hLW hP ⊢
        have p0 := hX.cell (i := 0) rfl
        have p1 := hX.cell (i := 1) rfl
        have p2 := hX.cell (i := 2) rfl
        have p3 := hX.cell (i := 3) rfl
        have p4 := hX.cell (i := 4) rfl
        have d0 := hZ.cell (i := 0) rfl
        have d1 := hZ.cell (i := 1) rfl
        have d2 := hZ.cell (i := 2) rfl
        have d3 := hZ.cell (i := 3) rfl
        have d4 := hZ.cell (i := 4) rfl
        have df := hZ.frozen
        have hx1 : ¬ W.heap.size = W.heap.size + 1 + 1 := by omega
        have hx2 : ¬ W.heap.size + 1 + 1 = W.heap.size := by omega
        have HZ8 := hide (((((hZ.set 0 (.int .i64 c.wd) (by simp)).set 1 (.int .i64 c.hg) (by simp)).set 2 (.slice da c.D.length dk) (by simp)).set 3 (.slice (some ⟨gb, 0, none⟩) (j + (c.F.length - (j + 1))) capb) (by simp)).set 4 (.int .i64 c.ed) (by simp))
        have hBr : B ≤ W.heap.size + 1 + 1 := by omega
        have HP8 := hide (OwnCh.hole (OwnCh.hole (OwnCh.hole (OwnCh.hole (OwnCh.hole hP (show W.heap.size + 1 + 1 ≠ gb by omega) (show U ≤ W.heap.size + 1 + 1 by omega) 0 (.int .i64 c.wd)) (show W.heap.size + 1 + 1 ≠ gb by omega) (show U ≤ W.heap.size + 1 + 1 by omega) 1 (.int .i64 c.hg)) (show W.heap.size + 1 + 1 ≠ gb by omega) (show U ≤ W.heap.size + 1 + 1 by omega) 2 (.slice da c.D.length dk)) (show W.heap.size + 1 + 1 ≠ gb by omega) (show U ≤ W.heap.size + 1 + 1 by omega) 3 (.slice (some ⟨gb, 0, none⟩) (j + (c.F.length - (j + 1))) capb)) (show W.heap.size + 1 + 1 ≠ gb by omega) (show U ≤ W.heap.size + 1 + 1 by omega) 4 (.int .i64 c.ed))
        have HL8 := hide (Below.setCell (Below.setCell (Below.setCell (Below.setCell (Below.setCell hL (p := ⟨W.heap.size + 1 + 1, 0, none⟩) hBr (.int .i64 c.wd)) (p := ⟨W.heap.size + 1 + 1, 1, none⟩) hBr (.int .i64 c.hg)) (p := ⟨W.heap.size + 1 + 1, 2, none⟩) hBr (.slice da c.D.length dk)) (p := ⟨W.heap.size + 1 + 1, 3, none⟩) hBr (.slice (some ⟨gb, 0, none⟩) (j + (c.F.length - (j + 1))) capb)) (p := ⟨W.heap.size + 1 + 1, 4, none⟩) hBr (.int .i64 c.ed))
        have HW8 := hide (Below.setCell (Below.setCell (Below.setCell (Below.setCell (Below.setCell hLW (p := ⟨W.heap.size + 1 + 1, 0, none⟩) (show W.heap.size ≤ W.heap.size + 1 + 1 by omega) (.int .i64 c.wd)) (p := ⟨W.heap.size + 1 + 1, 1, none⟩) (show W.heap.size ≤ W.heap.size + 1 + 1 by omega) (.int .i64 c.hg)) (p := ⟨W.heap.size + 1 + 1, 2, none⟩) (show W.heap.size ≤ W.heap.size + 1 + 1 by omega) (.slice da c.D.length dk)) (p := ⟨W.heap.size + 1 + 1, 3, none⟩) (show W.heap.size ≤ W.heap.size + 1 + 1 by omega) (.slice (some ⟨gb, 0, none⟩) (j + (c.F.length - (j + 1))) capb)) (p := ⟨W.heap.size + 1 + 1, 4, none⟩) (show W.heap.size ≤ W.heap.size + 1 + 1 by omega) (.int .i64 c.ed))
        have hgbW : W.heap.size ≤ gb := by omega
        clear hX hZ hL hLW hP e6 HB hlen hrow hob hO3 HOWb HBb c0 c1 c2 c3 c4 n0 n1 n2 n3 n4 n5 n6 HN2 HLT2 HR0 HN1 HLT1 HOWa HBa HO2 c3b c3a hca hcb q3 q4
        go_wp2
        have q0 := (unhide HZ8).cell (i := 0) rfl
        have q1 := (unhide HZ8).cell (i := 1) rfl
        have q2 := (unhide HZ8).cell (i := 2) rfl
        have q3 := (unhide HZ8).cell (i := 3) rfl
        have q4 := (unhide HZ8).cell (i := 4) rfl
        refine bodyPost_ret (v := .tuple #[.agg #[.int .i64 c.wd, .int .i64 c.hg, .slice da c.D.length dk, .slice (some ⟨gb, 0, none⟩) (j + (c.F.length - (j + 1))) capb, .int .i64 c.ed], .bool true]) (by simp [results, Try.results70, go_sem, q0, q1, q2, q3, q4]) rfl ?_
        refine ⟨gb, capb, ?_, ?_, unhide HL8, kept_of_below (unhide HW8), Or.inr hgbW⟩
        · rw [unhide EZ]; show _ = Ending.returned (.tuple #[vChart c.wd c.hg (.slice _ _ dk) (.slice _ (c.F.take j ++ c.F.drop (j + 1)).length capb) c.ed, .bool true]); rw [hGl]; rfl
        · rw [unhide EZ]; exact OwnChG.whole (unhide HP8)

end Go.Proofs.Ytmpicamenjnkkaa

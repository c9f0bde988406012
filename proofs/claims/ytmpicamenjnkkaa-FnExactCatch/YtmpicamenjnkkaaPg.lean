/- Laid together out of: ChQ3, ChQA. -/
import Derived.Test.YtmpicamenjnkkaaPf

/- The specification's l6Note: a feature moved. -/
namespace Go.Proofs.Ytmpicamenjnkkaa
open Go.RowKit

theorem recCells_moved (F : List FeatureT) (j : Nat) (hj : j < F.length) (n : NoteT) : ((recCells 5 eFeature F).set (j * 5 + 2) (.int .i64 n.2.2.1)).set (j * 5 + 3) (.int .i64 n.2.2.2.1) = recCells 5 eFeature (F.set j (movedF (F.getD j default) n)) := by
  apply List.ext_getElem?
  intro q
  by_cases hq : q < F.length * 5
  · have hi : q / 5 < F.length := by omega
    have hr : q % 5 < 5 := by omega
    have e1 := recCells_get (n := 5) (enc := eFeature) (L := F) hi hr
    have e2 := recCells_get (n := 5) (enc := eFeature) (L := F.set j (movedF (F.getD j default) n)) (i := q / 5) (by rw [List.length_set]; exact hi) hr
    rw [show q / 5 * 5 + q % 5 = q by omega] at e1 e2
    rw [e2, List.getElem?_set, List.getElem?_set, e1]
    have hs : (F.set j (movedF (F.getD j default) n)).getD (q / 5) default = if q / 5 = j then movedF (F.getD j default) n else F.getD (q / 5) default := by
      rw [getD_lt (by rw [List.length_set]; exact hi), List.getElem_set]
      split
      · next e => rw [if_pos e.symm]
      · next e => rw [if_neg (fun x => e x.symm), getD_lt hi]
    rw [hs]
    by_cases hqj : q / 5 = j
    · rw [if_pos hqj]
      have h5 : q % 5 = 0 ∨ q % 5 = 1 ∨ q % 5 = 2 ∨ q % 5 = 3 ∨ q % 5 = 4 := by omega
      rcases h5 with h | h | h | h | h
      · rw [if_neg (by omega), if_neg (by omega), hqj, h]; rfl
      · rw [if_neg (by omega), if_neg (by omega), hqj, h]; rfl
      · rw [if_neg (by omega), if_pos (by omega), if_pos (by rw [recCells_length]; omega), h]; rfl
      · rw [if_pos (by omega), if_pos (by simp [recCells_length]; omega), h]; rfl
      · rw [if_neg (by omega), if_neg (by omega), hqj, h]; rfl
    · rw [if_neg hqj, if_neg (by omega), if_neg (by omega)]
  · rw [List.getElem?_eq_none (by simp [recCells_length]; omega), List.getElem?_eq_none (by rw [recCells_length, List.length_set]; omega)]
/-- The features of a chart of the call's own: where they lie, and one of them moved. -/
theorem ownCh_feat {B U : Nat} {w : World} {da fa : Option Addr} {dk fk : Nat} {D : List Int} {F : List FeatureT} (h : OwnCh B U w da dk fa fk D F (recCells 5 eFeature F)) (hne : F ≠ []) : ∃ g2, B ≤ g2 ∧ g2 < U ∧ fa = some ⟨g2, 0, none⟩ ∧ OwnV w g2 (recCells 5 eFeature F) ∧ ∀ j n, j < F.length → OwnCh B U ((w.setCell ⟨g2, j * 5 + 2, none⟩ (.int .i64 (n : NoteT).2.2.1)).setCell ⟨g2, j * 5 + 3, none⟩ (.int .i64 n.2.2.2.1)) da dk fa fk D (F.set j (movedF (F.getD j default) n)) (recCells 5 eFeature (F.set j (movedF (F.getD j default) n))) := by
  obtain ⟨⟨b1, b2, b3, b4⟩, g1, g2, a1, a2, a3, a4, a5, a6, a7, a8⟩ := h
  obtain ⟨e, ho⟩ := a8 hne
  refine ⟨g2, a3, a4, e, ho, fun j n hj => ⟨⟨b1, b2, by rw [List.length_set]; exact b3, b4⟩, g1, g2, a1, a2, a3, a4, a5, by simpa [World.setCell] using a6, fun hd => ⟨(a7 hd).1, farN (farN (a7 hd).2 a5 _ _) a5 _ _⟩, fun _ => ⟨e, ?_⟩⟩⟩
  have h2 := (ho.set (j * 5 + 2) (.int .i64 n.2.2.1) (by rw [recCells_length]; omega)).set (j * 5 + 3) (.int .i64 n.2.2.2.1) (by rw [List.length_set, recCells_length]; omega)
  rwa [recCells_moved F j hj n] at h2

set_option maxRecDepth 10000 in
set_option maxHeartbeats 8000000 in
theorem l6NoteMove_any (B U : Nat) (c : Ch) (id x y d : Int) (t : ByteArray) (so : Int) (da : Option Addr) (dk : Nat) (gf : Nat) (fk : Nat) (W : World) (h : OwnCh B U W da dk (some ⟨gf, 0, none⟩) fk c.D c.F (recCells 5 eFeature c.F)) (hw : 1 ≤ c.wd ∧ c.wd ≤ 12) (hh : 1 ≤ c.hg ∧ c.hg ≤ 12) :
    Calls Try.prog 70 #[vChart c.wd c.hg (.slice da c.D.length dk) (.slice (some ⟨gf, 0, none⟩) c.F.length fk) c.ed, vNote 3 id x y d t so] W fun e W' => NoteAns B da dk gf W W' e (noteOf c (3, id, x, y, d, t, so)) := by
  obtain ⟨⟨A, r⟩, eA⟩ : ∃ z, z = noteOf c (3, id, x, y, d, t, so) := ⟨_, rfl⟩
  rw [← eA]
  have EA := hide eA
  have HB := hide (b3_new W #[.int .i64 c.wd, .int .i64 c.hg, .slice da c.D.length dk, .slice (some ⟨gf, 0, none⟩) c.F.length fk, .int .i64 c.ed] #[.int .i64 3, .int .i64 id, .int .i64 x, .int .i64 y, .int .i64 d, .string t, .int .i64 so] #[.int .i64 0, .int .i64 0, .slice none 0 0, .slice none 0 0, .int .i64 0] 27 74 27)
  have HFi := hide (l6Find_any c.wd c.hg c.ed (.slice da c.D.length dk) (some ⟨gf, 0, none⟩) c.F.length fk c.F id _ (h.feats.below (unhide HB).below))
  have HO := hide h
  have hUW : B ≤ U ∧ U ≤ W.heap.size := h.sizes
  clear eA h
  have hfb := findOf_bd c.F id
  obtain ⟨at0, eat⟩ : ∃ z, z = findOf c.F id := ⟨_, rfl⟩
  rw [← eat] at HFi hfb
  have EAT := hide eat
  clear eat
  unfold vChart vNote at *
  go_enter Try.func70, Try.ntmps70
  go_wp2_with fail
  refine (unhide HFi).mono ?_
  rintro e V ⟨rfl, hb⟩
  replace HB := hide ((unhide HB).step hb)
  replace HO := hide ((unhide HO).below (unhide HB).below)
  clear hb HFi
  have HP := hide fun V => l6Place_any c.wd c.hg c.ed x y (.slice da c.D.length dk) (.slice (some ⟨gf, 0, none⟩) c.F.length fk) V (by omega) (by omega) (by omega) (by omega)
  unfold vChart at HP
  have hnk : ∀ z, noteOf c (3, id, x, y, d, t, so) = z ↔ (if (decide (findOf c.F id < 0) || !placeB c.wd c.hg x y) = true then (c, false) else ({ c with F := c.F.set (findOf c.F id).toNat (movedF (c.F.getD (findOf c.F id).toNat default) (3, id, x, y, d, t, so)) }, true)) = z := fun z => by
    unfold noteOf
    rw [if_neg (by show ¬ (3 : Int) = 1; decide), if_neg (by show ¬ (3 : Int) = 2; decide), if_pos rfl]
  rw [← unhide EAT] at hnk
  have HNK := hide hnk
  clear hnk
  have c0 := (unhide HB).o1.cell (i := 0) rfl
  have c1 := (unhide HB).o1.cell (i := 1) rfl
  have c2 := (unhide HB).o1.cell (i := 2) rfl
  have c3 := (unhide HB).o1.cell (i := 3) rfl
  have c4 := (unhide HB).o1.cell (i := 4) rfl
  have n0 := (unhide HB).o2.cell (i := 0) rfl
  have n1 := (unhide HB).o2.cell (i := 1) rfl
  have n2 := (unhide HB).o2.cell (i := 2) rfl
  have n3 := (unhide HB).o2.cell (i := 3) rfl
  have n4 := (unhide HB).o2.cell (i := 4) rfl
  have n5 := (unhide HB).o2.cell (i := 5) rfl
  have n6 := (unhide HB).o2.cell (i := 6) rfl
  by_cases hat : at0 < 0
  · have hati : decide (at0 < 0) = true := decide_eq_true hat
    have EZ : Hid ((A, r) = (c, false)) := by show _ = _; rw [unhide EA]; exact (unhide HNK _).2 (by rw [hati]; rfl)
    have hU : U ≤ W.heap.size + 1 + 1 := by omega
    have hx1 : ¬ W.heap.size = W.heap.size + 1 + 1 := by omega
    have hx2 : ¬ W.heap.size + 1 + 1 = W.heap.size := by omega
    have hx3 : ¬ W.heap.size + 1 = W.heap.size + 1 + 1 := by omega
    have d0 := (unhide HB).o3.cell (i := 0) rfl
    have d1 := (unhide HB).o3.cell (i := 1) rfl
    have d2 := (unhide HB).o3.cell (i := 2) rfl
    have d3 := (unhide HB).o3.cell (i := 3) rfl
    have d4 := (unhide HB).o3.cell (i := 4) rfl
    have df := (unhide HB).o3.frozen
    have HB8 := hide ((((((unhide HB).put3 0 (.int .i64 c.wd) (by simp)).put3 1 (.int .i64 c.hg) (by simp)).put3 2 (.slice da c.D.length dk) (by simp)).put3 3 (.slice (some ⟨gf, 0, none⟩) c.F.length fk) (by simp)).put3 4 (.int .i64 c.ed) (by simp))
    have HO8 := hide (OwnCh.far (OwnCh.far (OwnCh.far (OwnCh.far (OwnCh.far (unhide HO) hU 0 (.int .i64 c.wd)) hU 1 (.int .i64 c.hg)) hU 2 (.slice da c.D.length dk)) hU 3 (.slice (some ⟨gf, 0, none⟩) c.F.length fk)) hU 4 (.int .i64 c.ed))
    clear HB HO
    go_wp2
    have q0 := (unhide HB8).o3.cell (i := 0) rfl
    have q1 := (unhide HB8).o3.cell (i := 1) rfl
    have q2 := (unhide HB8).o3.cell (i := 2) rfl
    have q3 := (unhide HB8).o3.cell (i := 3) rfl
    have q4 := (unhide HB8).o3.cell (i := 4) rfl
    refine bodyPost_ret (v := .tuple #[.agg #[.int .i64 c.wd, .int .i64 c.hg, .slice da c.D.length dk, .slice (some ⟨gf, 0, none⟩) c.F.length fk, .int .i64 c.ed], .bool false]) (by simp [results, Try.results70, go_sem, q0, q1, q2, q3, q4]) rfl ?_
    exact ⟨gf, fk, by rw [unhide EZ]; rfl, by rw [unhide EZ]; exact OwnCh.whole (unhide HO8), (unhide HB8).below.mono (by omega), kept_of_below (unhide HB8).below, Or.inl rfl⟩
  have hatf : decide (at0 < 0) = false := decide_eq_false hat
  obtain ⟨j, ej⟩ := Int.eq_ofNat_of_zero_le (show 0 ≤ at0 by omega)
  subst ej
  have hjn : j < c.F.length := by omega
  have hji : (j : Int) < c.F.length := by omega
  go_wp2_with fail
  refine (unhide HP _).mono ?_
  rintro e V1 ⟨rfl, hb⟩
  replace HB := hide ((unhide HB).step hb)
  replace HO := hide ((unhide HO).below hb)
  clear hb HP c0 c1 c2 c3 c4 n0 n1 n2 n3 n4 n5 n6
  have c0 := (unhide HB).o1.cell (i := 0) rfl
  have c1 := (unhide HB).o1.cell (i := 1) rfl
  have c2 := (unhide HB).o1.cell (i := 2) rfl
  have c3 := (unhide HB).o1.cell (i := 3) rfl
  have c4 := (unhide HB).o1.cell (i := 4) rfl
  have n0 := (unhide HB).o2.cell (i := 0) rfl
  have n1 := (unhide HB).o2.cell (i := 1) rfl
  have n2 := (unhide HB).o2.cell (i := 2) rfl
  have n3 := (unhide HB).o2.cell (i := 3) rfl
  have n4 := (unhide HB).o2.cell (i := 4) rfl
  have n5 := (unhide HB).o2.cell (i := 5) rfl
  have n6 := (unhide HB).o2.cell (i := 6) rfl
  cases hpl : placeB c.wd c.hg x y with
  | false =>
    have EZ : Hid ((A, r) = (c, false)) := by show _ = _; rw [unhide EA]; exact (unhide HNK _).2 (by rw [hatf, hpl]; rfl)
    have hU : U ≤ W.heap.size + 1 + 1 := by omega
    have hx1 : ¬ W.heap.size = W.heap.size + 1 + 1 := by omega
    have hx2 : ¬ W.heap.size + 1 + 1 = W.heap.size := by omega
    have hx3 : ¬ W.heap.size + 1 = W.heap.size + 1 + 1 := by omega
    have d0 := (unhide HB).o3.cell (i := 0) rfl
    have d1 := (unhide HB).o3.cell (i := 1) rfl
    have d2 := (unhide HB).o3.cell (i := 2) rfl
    have d3 := (unhide HB).o3.cell (i := 3) rfl
    have d4 := (unhide HB).o3.cell (i := 4) rfl
    have df := (unhide HB).o3.frozen
    have HB8 := hide ((((((unhide HB).put3 0 (.int .i64 c.wd) (by simp)).put3 1 (.int .i64 c.hg) (by simp)).put3 2 (.slice da c.D.length dk) (by simp)).put3 3 (.slice (some ⟨gf, 0, none⟩) c.F.length fk) (by simp)).put3 4 (.int .i64 c.ed) (by simp))
    have HO8 := hide (OwnCh.far (OwnCh.far (OwnCh.far (OwnCh.far (OwnCh.far (unhide HO) hU 0 (.int .i64 c.wd)) hU 1 (.int .i64 c.hg)) hU 2 (.slice da c.D.length dk)) hU 3 (.slice (some ⟨gf, 0, none⟩) c.F.length fk)) hU 4 (.int .i64 c.ed))
    clear HB HO
    go_wp2
    have q0 := (unhide HB8).o3.cell (i := 0) rfl
    have q1 := (unhide HB8).o3.cell (i := 1) rfl
    have q2 := (unhide HB8).o3.cell (i := 2) rfl
    have q3 := (unhide HB8).o3.cell (i := 3) rfl
    have q4 := (unhide HB8).o3.cell (i := 4) rfl
    refine bodyPost_ret (v := .tuple #[.agg #[.int .i64 c.wd, .int .i64 c.hg, .slice da c.D.length dk, .slice (some ⟨gf, 0, none⟩) c.F.length fk, .int .i64 c.ed], .bool false]) (by simp [results, Try.results70, go_sem, q0, q1, q2, q3, q4]) rfl ?_
    exact ⟨gf, fk, by rw [unhide EZ]; rfl, by rw [unhide EZ]; exact OwnCh.whole (unhide HO8), (unhide HB8).below.mono (by omega), kept_of_below (unhide HB8).below, Or.inl rfl⟩
  | true =>
  have EZ : Hid ((A, r) = ({ c with F := c.F.set j (movedF (c.F.getD j default) (3, id, x, y, d, t, so)) }, true)) := by show _ = _; rw [unhide EA]; exact (unhide HNK _).2 (by rw [hatf, hpl, Int.toNat_natCast]; rfl)
  obtain ⟨g2, hg2B, hg2U, hfa, hO2, HO'⟩ := ownCh_feat (unhide HO) (fun e => by rw [e] at hjn; simp at hjn)
  obtain rfl : gf = g2 := by simpa using hfa
  clear hfa
  have f2 := hO2.cell (i := j * 5 + 2) (recCells_get hjn (by omega))
  have f3 := hO2.cell (i := j * 5 + 3) (recCells_get hjn (by omega))
  have ff := hO2.frozen
  have hn1 : ¬ gf = W.heap.size := by omega
  have hn2 : ¬ W.heap.size = gf := by omega
  have hn3 : ¬ gf = W.heap.size + 1 := by omega
  have hn4 : ¬ W.heap.size + 1 = gf := by omega
  have hn5 : W.heap.size + 1 + 1 ≠ gf := by omega
  have HO2 := hide (HO' j (3, id, x, y, d, t, so) hjn)
  clear hO2 HO' HO HNK EA EAT hatf hat
  go_upto_region 23 with (fail)
  have hX := farN (farN (unhide HB).o1 hn2 (j * 5 + 2) (.int .i64 x)) hn2 (j * 5 + 3) (.int .i64 y)
  have hZ := farN (farN (unhide HB).o3 hn5 (j * 5 + 2) (.int .i64 x)) hn5 (j * 5 + 3) (.int .i64 y)
  have hL := (((unhide HB).below.mono (by omega : B ≤ W.heap.size)).setCell (p := ⟨gf, j * 5 + 2, none⟩) hg2B (.int .i64 x)).setCell (p := ⟨gf, j * 5 + 3, none⟩) hg2B (.int .i64 y)
  have hP := unhide HO2
  have hK := Kept.setCell (T := fun b => da = some ⟨b, 0, none⟩ ∨ b = gf) (Kept.setCell (T := fun b => da = some ⟨b, 0, none⟩ ∨ b = gf) (kept_of_below (unhide HB).below) (p := ⟨gf, j * 5 + 2, none⟩) (Or.inr rfl) (.int .i64 x)) (p := ⟨gf, j * 5 + 3, none⟩) (Or.inr rfl) (.int .i64 y)
  obtain ⟨V6, e6⟩ : ∃ z, z = ((V1.setCell ⟨gf, j * 5 + 2, none⟩ (.int .i64 x)).setCell ⟨gf, j * 5 + 3, none⟩ (.int .i64 y)) := ⟨_, rfl⟩
  rw [← e6] at hX hZ hL hP hK ⊢
  have hU : U ≤ W.heap.size + 1 + 1 := by omega
  have p0 := hX.cell (i := 0) rfl
  have p1 := hX.cell (i := 1) rfl
  have p2 := hX.cell (i := 2) rfl
  have p3 := hX.cell (i := 3) rfl
  have p4 := hX.cell (i := 4) rfl
  have d0 := hZ.cell (i := 0) rfl
  have d1 := hZ.cell (i := 1) rfl
  have d2 := hZ.cell (i := 2) rfl
  have d3 := hZ.cell (i := 3) rfl
  have d4 := hZ.cell (i := 4) rfl
  have df := hZ.frozen
  have hx1 : ¬ W.heap.size = W.heap.size + 1 + 1 := by omega
  have hx2 : ¬ W.heap.size + 1 + 1 = W.heap.size := by omega
  have HZ8 := hide (((((hZ.set 0 (.int .i64 c.wd) (by simp)).set 1 (.int .i64 c.hg) (by simp)).set 2 (.slice da c.D.length dk) (by simp)).set 3 (.slice (some ⟨gf, 0, none⟩) c.F.length fk) (by simp)).set 4 (.int .i64 c.ed) (by simp))
  have HP8 := hide (OwnCh.far (OwnCh.far (OwnCh.far (OwnCh.far (OwnCh.far hP hU 0 (.int .i64 c.wd)) hU 1 (.int .i64 c.hg)) hU 2 (.slice da c.D.length dk)) hU 3 (.slice (some ⟨gf, 0, none⟩) c.F.length fk)) hU 4 (.int .i64 c.ed))
  have hBr : B ≤ W.heap.size + 1 + 1 := by omega
  have HL8 := hide (Below.setCell (Below.setCell (Below.setCell (Below.setCell (Below.setCell hL (p := ⟨W.heap.size + 1 + 1, 0, none⟩) hBr (.int .i64 c.wd)) (p := ⟨W.heap.size + 1 + 1, 1, none⟩) hBr (.int .i64 c.hg)) (p := ⟨W.heap.size + 1 + 1, 2, none⟩) hBr (.slice da c.D.length dk)) (p := ⟨W.heap.size + 1 + 1, 3, none⟩) hBr (.slice (some ⟨gf, 0, none⟩) c.F.length fk)) (p := ⟨W.heap.size + 1 + 1, 4, none⟩) hBr (.int .i64 c.ed))
  have HK8 := hide (Kept.fresh (Kept.fresh (Kept.fresh (Kept.fresh (Kept.fresh hK (p := ⟨W.heap.size + 1 + 1, 0, none⟩) (show W.heap.size ≤ W.heap.size + 1 + 1 by omega) (.int .i64 c.wd)) (p := ⟨W.heap.size + 1 + 1, 1, none⟩) (show W.heap.size ≤ W.heap.size + 1 + 1 by omega) (.int .i64 c.hg)) (p := ⟨W.heap.size + 1 + 1, 2, none⟩) (show W.heap.size ≤ W.heap.size + 1 + 1 by omega) (.slice da c.D.length dk)) (p := ⟨W.heap.size + 1 + 1, 3, none⟩) (show W.heap.size ≤ W.heap.size + 1 + 1 by omega) (.slice (some ⟨gf, 0, none⟩) c.F.length fk)) (p := ⟨W.heap.size + 1 + 1, 4, none⟩) (show W.heap.size ≤ W.heap.size + 1 + 1 by omega) (.int .i64 c.ed))
  clear hX hZ hL hP hK e6 HB c0 c1 c2 c3 c4 n0 n1 n2 n3 n4 n5 n6 HO2 f2 f3 ff
  go_wp2
  have q0 := (unhide HZ8).cell (i := 0) rfl
  have q1 := (unhide HZ8).cell (i := 1) rfl
  have q2 := (unhide HZ8).cell (i := 2) rfl
  have q3 := (unhide HZ8).cell (i := 3) rfl
  have q4 := (unhide HZ8).cell (i := 4) rfl
  refine bodyPost_ret (v := .tuple #[.agg #[.int .i64 c.wd, .int .i64 c.hg, .slice da c.D.length dk, .slice (some ⟨gf, 0, none⟩) c.F.length fk, .int .i64 c.ed], .bool true]) (by simp [results, Try.results70, go_sem, q0, q1, q2, q3, q4]) rfl ?_
  have hP8 := OwnCh.whole (unhide HP8)
  refine ⟨gf, fk, ?_, ?_, unhide HL8, unhide HK8, Or.inl rfl⟩
  · rw [unhide EZ]; show _ = Ending.returned (.tuple #[vChart c.wd c.hg (.slice _ _ dk) (.slice _ _ _) c.ed, .bool true]); simp [vChart]
  · rw [unhide EZ]; exact hP8

end Go.Proofs.Ytmpicamenjnkkaa

/- Appends of any number of elements to a row of the call's own, none too. No statement about the program stands here. -/
namespace Go.Proofs.Ytmpicamenjnkkaa
open Go.RowKit

theorem step_append_any {P : Program} {ops : Array Oper} {o : Oper} {a : Act} {w : World} {K : Act → World → Prop} {Q : Exit → Act → World → Prop} {E : Prop} (hgd : o.guard = none) (s x : Operand) (t : TypeId)
    (ho : o.op = .call { callee := .builtin .append, args := #[s, x], argTypes := #[t, t] })
    (base : Nat) (e : TypeId) (i : TypeInfo) (z : Value) (size bytes : Nat) (ht : P.underlying t = some (.slice e)) (hi : P.info? e = some i) (hz : i.zero = some z)
    (hsize : i.size = size) (hby : i.bytes = bytes) (hzs : z.cells.size = size) (hsz : 0 < size)
    (g n cap : Nat) (xs : List Value) (hs : a.eval s = .slice (some ⟨g, 0, none⟩) n cap) (hown : w.ownsRow base e size (.slice (some ⟨g, 0, none⟩) n cap) n xs) (hc : n ≤ cap)
    (ao : Option Addr) (m c : Nat) (news : List Value) (hx : a.eval x = .slice ao m c) (hl : news.length = m * size) (hnews : m ≠ 0 → ∃ ad, ao = some ad ∧ ∀ j u, news[j]? = some u → w.cell? (ad.add j) = some u) (h1 : ∀ u ∈ news, u.oneCell' = true)
    (h63 : n + m ≤ maxLen) (hbytes : (n + m) * bytes ≤ 140737488355328) (hbase : base ≤ w.heap.size)
    (h : ∀ g' cap' w', w'.ownsRow base e size (.slice (some ⟨g', 0, none⟩) (n + m) cap') (n + m) (xs ++ news) → n + m ≤ cap' → w.grownBy w' (some g) → (g' = g ∨ g' = w.heap.size) → K (a.put o.dst (.slice (some ⟨g', 0, none⟩) (n + m) cap')) w') :
    if Region.wanted o (yielded ops a.tmps) = true then Oper.wp P o a w K Q else E := by
  by_cases hm : m = 0
  · subst hm
    have hn : news = [] := List.length_eq_zero_iff.1 (by omega)
    subst hn
    have hw : Region.wanted o (yielded ops a.tmps) = true := by simp [Region.wanted, hgd]
    rw [if_pos hw]
    have hrun := run_append_zero (P := P) w t o.type e i ht hi ⟨g, 0, none⟩ n cap c ao hc
    unfold Oper.wp
    simp [execOp, ho, resolve, invoke, builtin, hs, hx, hrun, Result.andThen]
    have h2 := h g cap w (by rw [List.append_nil]; exact hown) hc ⟨rfl, rfl, rfl, Nat.le_refl _, fun _ _ _ => rfl⟩ (Or.inl rfl)
    exact h2
  · obtain ⟨ad, rfl, hn⟩ := hnews hm
    refine step_append_lies w hgd s x t ho base e i z size bytes ht hi hz hsize hby hzs hsz _ n xs hs hown ad m c news hx hl hn h1 (by omega) h63 hbytes hbase _ rfl ?_
    intro g' cap' w' ho' hg hat _
    have hc' : n + m ≤ cap' := by
      obtain ⟨_, h2⟩ := ho'
      rcases h2 with ⟨e, _⟩ | ⟨g3, cap3, cur, hv, _, _, hc3, _⟩
      · simp at e
      · simp only [Value.slice.injEq] at hv
        obtain ⟨_, _, rfl⟩ := hv
        exact hc3
    refine h g' cap' w' ho' hc' hg ?_
    rcases hat with e | e
    · exact Or.inl (by simpa [Value.ownBlock] using e.symm)
    · exact Or.inr e
theorem recCells_two (L M : List FeatureT) : recCells 5 eFeature (L ++ M) = recCells 5 eFeature L ++ recCells 5 eFeature M := by
  apply List.ext_getElem?
  intro q
  by_cases h1 : q < L.length * 5
  · rw [List.getElem?_append_left (by rw [recCells_length]; exact h1)]
    have hi : q / 5 < L.length := by omega
    have hr : q % 5 < 5 := by omega
    have e1 := recCells_get (n := 5) (enc := eFeature) (L := L ++ M) (i := q / 5) (by simp; omega) hr
    have e2 := recCells_get (n := 5) (enc := eFeature) (L := L) hi hr
    rw [show q / 5 * 5 + q % 5 = q by omega] at e1 e2
    rw [e1, e2, getD_lt (by simp; omega), getD_lt hi, List.getElem_append_left hi]
  · rw [List.getElem?_append_right (by rw [recCells_length]; omega), recCells_length]
    obtain ⟨p, rfl⟩ : ∃ p, q = L.length * 5 + p := ⟨q - L.length * 5, by omega⟩
    rw [Nat.add_sub_cancel_left]
    by_cases h2 : p < M.length * 5
    · have hi : p / 5 < M.length := by omega
      have hr : p % 5 < 5 := by omega
      have e1 := recCells_get (n := 5) (enc := eFeature) (L := L ++ M) (i := L.length + p / 5) (by simp; omega) hr
      have e2 := recCells_get (n := 5) (enc := eFeature) (L := M) hi hr
      rw [show (L.length + p / 5) * 5 + p % 5 = L.length * 5 + p by omega] at e1
      rw [show p / 5 * 5 + p % 5 = p by omega] at e2
      rw [e1, e2, getD_lt (by simp; omega), getD_lt hi, List.getElem_append_right (by omega)]
      congr 2
      simp
    · rw [List.getElem?_eq_none (by rw [recCells_length]; simp; omega), List.getElem?_eq_none (by rw [recCells_length]; omega)]
/-- The cells of a part of a row of features. -/
theorem rec_part {W : World} {g : Nat} {F : List FeatureT} (h : OwnV W g (recCells 5 eFeature F)) (i m : Nat) (hi : i + m ≤ F.length) : ∀ j u, (recCells 5 eFeature ((F.drop i).take m))[j]? = some u → W.cell? ((⟨g, i * 5, none⟩ : Addr).add j) = some u := fun j u hu => by
  have hj : j < m * 5 := by
    have := (List.getElem?_eq_some_iff.1 hu).1
    rw [recCells_length, List.length_take, List.length_drop] at this
    omega
  have hr : j % 5 < 5 := by omega
  have e1 := recCells_get (n := 5) (enc := eFeature) (L := (F.drop i).take m) (i := j / 5) (by rw [List.length_take, List.length_drop]; omega) hr
  rw [show j / 5 * 5 + j % 5 = j by omega] at e1
  rw [e1] at hu
  have e2 := recCells_get (n := 5) (enc := eFeature) (L := F) (i := i + j / 5) (by omega) hr
  rw [show (i + j / 5) * 5 + j % 5 = i * 5 + j by omega] at e2
  have e3 : ((F.drop i).take m).getD (j / 5) default = F.getD (i + j / 5) default := by
    rw [getD_lt (by rw [List.length_take, List.length_drop]; omega), getD_lt (by omega), List.getElem_take, List.getElem_drop]
  rw [e3] at hu
  rw [Go.WideShapes.add_plain, ← hu]
  exact h.cell e2

end Go.Proofs.Ytmpicamenjnkkaa

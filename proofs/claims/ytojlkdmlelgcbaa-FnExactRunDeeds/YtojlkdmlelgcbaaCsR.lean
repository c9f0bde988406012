/- Customs: the contract of the office's do. Written by wip/mkcsr.py. -/
import Derived.Test.YtojlkdmlelgcbaaCsQ
import Derived.Test.YtojlkdmlelgcbaaWalkF
import Derived.Deep.RegionHeld3
namespace Go.Proofs.Ytojlkdmlelgcbaa
open Go.RowKit

set_option maxRecDepth 1000000 in
set_option maxHeartbeats 12800000 in
theorem do_any (go gl cap gp : Nat) (ok : Bool) (L : List LotT) (P : List TraderT) (tk kd id ow ma va ra nw : Int) (w : World) (h : Of w go gl cap gp ok L P tk) (hok : ok = houseB (L, P, tk)) (hs : L.length ≤ 1048576) (hPs : P.length ≤ 1048576) :
    Calls Try.prog 44 #[.pointer (some ⟨go, 0, none⟩), vDeed kd id ow ma va ra nw] w fun e w' => OfA w go gl gp ok (doH (L, P, tk) (kd, id, ow, ma, va, ra, nw)) e w' := by
  have A := Below.alloc1 w (.cells #[.int .i64 kd, .int .i64 id, .int .i64 ow, .int .i64 ma, .int .i64 va, .int .i64 ra, .int .i64 nw] 34)
  have HD := hide (ownV_alloc w #[.int .i64 kd, .int .i64 id, .int .i64 ow, .int .i64 ma, .int .i64 va, .int .i64 ra, .int .i64 nw] 34)
  have HO := hide (h.step A)
  have HW := hide A
  have hlt0 := h.lt
  have HOK := hide hok
  have Q1 := hide fun V => deedOk_any kd id ow ma va ra nw P.length V (by omega)
  have ER : Hid (doH (L, P, tk) (kd, id, ow, ma, va, ra, nw) = if (ok && deedB P.length (kd, id, ow, ma, va, ra, nw)) = false then ((L, P, tk), 1) else actH (L, P, tk) (kd, id, ow, ma, va, ra, nw)) := by show _ = _; rw [hok]; rfl
  obtain ⟨DB, eDB⟩ : ∃ b, b = deedB P.length (kd, id, ow, ma, va, ra, nw) := ⟨_, rfl⟩
  rw [← eDB] at Q1 ER
  have EDB := hide eDB
  obtain ⟨R, eR⟩ : ∃ r, r = doH (L, P, tk) (kd, id, ow, ma, va, ra, nw) := ⟨_, rfl⟩
  rw [← eR] at ER ⊢
  clear h A hok eDB eR
  unfold vDeed at Q1 ⊢
  go_enter Try.func44, Try.ntmps44
  go_upto_region 1 with (fail)
  obtain ⟨V0, eV⟩ : ∃ V, V = w.alloc (.cells #[.int .i64 kd, .int .i64 id, .int .i64 ow, .int .i64 ma, .int .i64 va, .int .i64 ra, .int .i64 nw] 34) := ⟨_, rfl⟩
  rw [← eV] at HD HO HW ⊢
  clear eV
  go_cut [23] (fun s wx => s = .bool (!(ok && DB)) ∧ Hid (Below V0.heap.size V0 wx))
  case first =>
    have gq0 := fun x' : Gr V0 => gr_cell ((unhide HO).box.cell (i := 0) rfl) x'
    have gq2 := fun x' : Gr V0 => gr_cell ((unhide HO).box.cell (i := 2) rfl) x'
    have gd0 := fun x' : Gr V0 => gr_cell ((unhide HD).cell (i := 0) rfl) x'
    have gd1 := fun x' : Gr V0 => gr_cell ((unhide HD).cell (i := 1) rfl) x'
    have gd2 := fun x' : Gr V0 => gr_cell ((unhide HD).cell (i := 2) rfl) x'
    have gd3 := fun x' : Gr V0 => gr_cell ((unhide HD).cell (i := 3) rfl) x'
    have gd4 := fun x' : Gr V0 => gr_cell ((unhide HD).cell (i := 4) rfl) x'
    have gd5 := fun x' : Gr V0 => gr_cell ((unhide HD).cell (i := 5) rfl) x'
    have gd6 := fun x' : Gr V0 => gr_cell ((unhide HD).cell (i := 6) rfl) x'
    have gsome := gr_some V0
    cases hk9 : ok with
    | false =>
      rw [hk9] at gq0
      refine wp_region_grown (by kernel_rfl) (by kernel_rfl) ?_
      repeat (go_big_quiet_step (fail))
      refine wpQuiet_nil ?_
      intro wz hw1
      obtain ⟨z', hz⟩ := hw1
      have hb : Below V0.heap.size V0 wz := hz ▸ z'.ok
      have HBZ := hide hb
      clear hb hz z' gsome gq0 gq2 gd0 gd1 gd2 gd3 gd4 gd5 gd6
      go_wp2_with fail
      go_meet
      exact ⟨by rw [hk9]; rfl, HBZ⟩
    | true =>
      rw [hk9] at gq0
      refine wp_region_grown (by kernel_rfl) (by kernel_rfl) ?_
      repeat (go_big_quiet_step (fail))
      go_big_quiet_want
      go_big_quiet_op
      go_big_quiet_call (exact calls_grown (unhide Q1 _))
      repeat (go_big_quiet_step (fail))
      refine wpQuiet_nil ?_
      intro wz hw1
      obtain ⟨z', hz⟩ := hw1
      have hb : Below V0.heap.size V0 wz := hz ▸ z'.ok
      have HBZ := hide hb
      clear hb hz z' gsome gq0 gq2 gd0 gd1 gd2 gd3 gd4 gd5 gd6
      go_wp2_with fail
      go_meet
      exact ⟨by rw [hk9]; rfl, HBZ⟩
  case rest =>
  obtain ⟨rfl, hb⟩ := hcut
  have hb := unhide hb
  generalize wc = V1 at *
  replace HW := hide (Below.step (unhide HW) hb)
  replace HO := hide ((unhide HO).step hb)
  replace HD := hide ((unhide HD).step hb)
  clear hb Q1
  cases hz : (ok && DB) with
  | false =>
    have EF : Hid (R = ((L, P, tk), 1)) := by show _ = _; rw [unhide ER, if_pos hz]
    go_wp2
    go_ret
    exact ofA_mk (unhide EF) (unhide HO) (keptB (unhide HW)) (Or.inl rfl)
  | true =>
  have hz2 := hz
  rw [Bool.and_eq_true] at hz2
  have HH0 : Hid (HOk (L, P, tk)) := (houseB_iff _).1 (by rw [← unhide HOK]; exact hz2.1)
  have HDD : Hid (deedB P.length (kd, id, ow, ma, va, ra, nw) = true) := by show _ = _; rw [← unhide EDB]; exact hz2.2
  have ER2 : Hid (R = actH (L, P, tk) (kd, id, ow, ma, va, ra, nw)) := by show _ = _; rw [unhide ER, if_neg (by rw [hz]; simp)]
  have hkd := deed_kind (unhide HDD)
  dsimp only at hkd
  clear hz2 hz ER HOK EDB
  have ha := (unhide HH0).asc
  dsimp only at ha
  have HA := hide ha
  clear ha
  have q0 := (unhide HD).cell (i := 0) rfl
  have q1 := (unhide HD).cell (i := 1) rfl
  have q2 := (unhide HD).cell (i := 2) rfl
  have q3 := (unhide HD).cell (i := 3) rfl
  have q4 := (unhide HD).cell (i := 4) rfl
  have q5 := (unhide HD).cell (i := 5) rfl
  have q6 := (unhide HD).cell (i := 6) rfl
  by_cases e1 : kd = 1
  · subst e1
    have EF : Hid (R = lanH (L, P, tk) (1, id, ow, ma, va, ra, nw)) := unhide ER2
    have QL := hide (land_any go gl cap gp ok L P tk 1 id ow ma va ra nw V1 (unhide HO) (unhide HA) hs)
    unfold vDeed at QL
    rw [← unhide EF] at QL
    clear ER2
    go_wp2_with fail
    refine (unhide QL).mono ?_
    rintro e w2 ⟨gl', cap', rfl, ho, hk, hg⟩
    have HO2 := hide ho
    have HK2 := hide hk
    have HG2 := hide hg
    clear ho hk hg
    go_wp2
    go_ret
    exact ⟨gl', cap', rfl, unhide HO2, (keptB (unhide HW)).trans (unhide HK2), glp (unhide HG2) (unhide HW).size⟩
  have d1 : (kd == 1) = false := by simpa using e1
  have ER3 : Hid (R = if lhas L id = false then ((L, P, tk), 3) else lotH (L, P, tk) (lplc L id) (L.getD (lplc L id) default) (kd, id, ow, ma, va, ra, nw)) := by show _ = _; rw [unhide ER2]; unfold actH; rw [if_neg e1]
  clear ER2
  have QF := hide (find_any go gl cap gp ok L P tk id V1 (unhide HO) (unhide HA) hs)
  go_wp2_with fail
  refine (unhide QF).mono ?_
  rintro e V2 ⟨rfl, hb⟩
  replace HW := hide (Below.step (unhide HW) hb)
  replace HO := hide ((unhide HO).step hb)
  replace HD := hide ((unhide HD).step hb)
  clear hb QF q0 q1 q2 q3 q4 q5 q6
  cases hl : lhas L id with
  | false =>
    have EF : Hid (R = ((L, P, tk), 3)) := by show _ = _; rw [unhide ER3, if_pos hl]
    go_wp2
    go_ret
    exact ofA_mk (unhide EF) (unhide HO) (keptB (unhide HW)) (Or.inl rfl)
  | true =>
  obtain ⟨hk, hid⟩ := lhas_yes hl
  rw [if_neg (by rw [hl]; simp)] at ER3
  have hLk := (unhide HH0).lots (lplc L id) hk
  dsimp only at hLk
  generalize lplc L id = k at *
  obtain ⟨x, eX⟩ : ∃ x, x = L.getD k default := ⟨_, rfl⟩
  obtain ⟨xi, xo, xm, xv, xr, xs, xb⟩ := x
  have HX : Hid (L.getD k default = (xi, xo, xm, xv, xr, xs, xb)) := eX.symm
  rw [unhide HX] at ER3 hLk
  have hge := bsum_ge (unhide HH0).lots hk
  dsimp only at hge
  rw [unhide HX] at hge
  obtain ⟨ho, hoe⟩ := own_lt hLk
  dsimp only at ho hoe hge
  have htr := (unhide HH0).trs xo.toNat ho
  dsimp only at htr
  rw [hoe] at htr
  have htk := (unhide HH0).tk
  dsimp only at htk
  obtain ⟨j, ej⟩ : ∃ j : Nat, j = xo.toNat := ⟨_, rfl⟩
  have hxo : xo = (j : Int) := by omega
  rw [← ej] at ho htr
  subst hxo
  obtain ⟨tr, eT⟩ : ∃ x, x = P.getD j default := ⟨_, rfl⟩
  obtain ⟨mo, bn, bd⟩ := tr
  have HT : Hid (P.getD j default = (mo, bn, bd)) := eT.symm
  rw [unhide HT] at htr
  obtain ⟨hTO, hbd⟩ := htr
  have hbo := lot_bond hLk
  dsimp only at hbo
  have hdu := hLk.1
  have hxb := hLk.2.2.2.2
  have hdp := dut_parts hLk.1
  dsimp only at hdu hxb hdp
  have HHX := hide hLk
  clear eX eT ej hid hl hoe hge hbd hLk
  have QS := hide fun V => statesOf_any kd V (by omega)
  have q0 := (unhide HD).cell (i := 0) rfl
  have hki : (k : Int) < L.length := by omega
  go_wp2_with fail
  refine (unhide QS _).mono ?_
  rintro e w9 ⟨y, rfl, hy, h9⟩
  have h8 := h9.symm
  subst h8
  clear h9 QS
  obtain ⟨c0, c1, c2, c3, c4, c5, c6⟩ := (unhide HO).lot hk (unhide HX)
  have o1 := (unhide HO).box.cell (i := 1) rfl
  by_cases hst : ¬ xs = wantS kd
  · have EF : Hid (R = ((L, P, tk), 4)) := by show _ = _; rw [unhide ER3]; unfold lotH; dsimp only; rw [if_pos hst]
    have dst : (xs != wantS kd) = true := by simpa using hst
    clear hst
    go_wp2
    go_ret
    exact ofA_mk (unhide EF) (unhide HO) (keptB (unhide HW)) (Or.inl rfl)
  replace hst := Decidable.not_not.1 hst
  have ER4 : Hid (R = if kd = 8 then splH (L, P, tk) k (xi, (j : Int), xm, xv, xr, xs, xb) (kd, id, ow, ma, va, ra, nw) else movH (L, P, tk) k (xi, (j : Int), xm, xv, xr, xs, xb) (kd, id, ow, ma, va, ra, nw)) := by show _ = _; rw [unhide ER3]; unfold lotH; dsimp only; rw [if_neg (fun hn => hn hst)]
  have dst : (xs != wantS kd) = false := by simpa using hst
  by_cases e8 : kd = 8
  · subst e8
    have hst1 : xs = 1 := hst
    have hxb1 : xb = 0 := by rw [hxb, if_neg (by omega)]
    have hma : 1 ≤ ma := by
      have h9 := unhide HDD
      simp only [deedB, show ¬ (8 : Int) = 1 by omega, show ¬ ((2 : Int) ≤ 8 ∧ (8 : Int) ≤ 7) by omega, if_false, if_true, Bool.and_eq_true, decide_eq_true_eq] at h9
      exact h9.2.1
    clear hst
    subst hst1
    subst hxb1
    have EF : Hid (R = splH (L, P, tk) k (xi, (j : Int), xm, xv, xr, 1, 0) (8, id, ow, ma, va, ra, nw)) := unhide ER4
    have QL := hide (split_any go gl cap gp ok L P tk k xi (j : Int) xm xv xr 8 id ow ma va ra nw V2 (unhide HO) (unhide HA) hs hk (unhide HX) hma hdp.1.2)
    unfold vDeed at QL
    rw [← unhide EF] at QL
    clear ER4 ER3
    have q1 := (unhide HD).cell (i := 1) rfl
    have q2 := (unhide HD).cell (i := 2) rfl
    have q3 := (unhide HD).cell (i := 3) rfl
    have q4 := (unhide HD).cell (i := 4) rfl
    have q5 := (unhide HD).cell (i := 5) rfl
    have q6 := (unhide HD).cell (i := 6) rfl
    clear hxb dst
    have dst : ((1 : Int) != wantS 8) = false := rfl
    go_wp2_with fail
    refine (unhide QL).mono ?_
    rintro e w2 ⟨gl', cap', rfl, ho2, hk2, hg2⟩
    have HO2 := hide ho2
    have HK2 := hide hk2
    have HG2 := hide hg2
    clear ho2 hk2 hg2
    go_wp2
    go_ret
    exact ⟨gl', cap', rfl, unhide HO2, (keptB (unhide HW)).trans (unhide HK2), glp (unhide HG2) (unhide HW).size⟩
  have d8 : (kd == 8) = false := by simpa using e8
  have HYL := hide (hy e8)
  have ER5 : Hid (R = match setV (xi, (j : Int), xm, xv, xr, xs, xb) (mo, bn, bd) tk kd with | none => ((L, P, tk), 5) | some (b, t, tk') => ((L.set k (putL (xi, (j : Int), xm, xv, xr, xs, xb) b (leftS kd)), P.set j t, tk'), 0)) := by
    show _ = _
    rw [unhide ER4, if_neg e8]
    unfold movH
    dsimp only
    rw [show ((j : Int)).toNat = j from rfl, unhide HT]
    cases setV (xi, (j : Int), xm, xv, xr, xs, xb) (mo, bn, bd) tk kd <;> rfl
  clear ER4 ER3 hy
  have QT := hide fun V (hV : Of V go gl cap gp ok L P tk) => settle_any go gl cap gp ok L P tk k j xi xm xv xr xs xb mo bn bd kd V hV hk (unhide HX) ho (unhide HT) hdu hTO htk hbo
  have EST : Hid (∀ b, (putL (xi, (j : Int), xm, xv, xr, xs, xb) b (xi, (j : Int), xm, xv, xr, xs, xb).2.2.2.2.2.1) = (xi, (j : Int), xm, xv, xr, xs, b)) := fun _ => rfl
  generalize setV (xi, (j : Int), xm, xv, xr, xs, xb) (mo, bn, bd) tk kd = SV at *
  have hwd : ¬ OfT go gl gp w.heap.size := by rintro (e | e | e) <;> omega
  go_upto_region 13 with (fail)
  cases SV with
  | none =>
    have EF : Hid (R = ((L, P, tk), 5)) := unhide ER5
    go_cut [72] (fun s wx => s = .bool true ∧ Hid (Of wx go gl cap gp ok L P tk) ∧ Hid (Kept (OfT go gl gp) V2 wx))
    case first =>
      go_region_held3 (fun w' => w'.cell? ⟨go, 1, none⟩ = some (.slice (some ⟨gl, 0, none⟩) L.length cap) ∧ w'.cell? ⟨w.heap.size, 0, none⟩ = some (.int .i64 kd)) (go_keep) (first
        | (go_at_call 78; refine (unhide QT _ (by first | exact unhide HO | exact (unhide HO).step (Below.refl _ _).drew)).mono ?_; rintro e w2 ⟨hk2, rfl, ho2⟩; have HO2 := hide ho2; have HK2 : Hid (Kept (OfT go gl gp) V2 w2) := (by first | exact hk2 | exact (keptD (Kept.refl _ _)).trans hk2); have m1 := (unhide HO2).box.cell (i := 1) rfl; have m0 := ((unhide HD).kept (unhide HK2) hwd).cell (i := 0) rfl; clear ho2 hk2))
      all_goals
        go_wp2_with fail
        go_meet
        exact ⟨rfl, HO2, HK2⟩
    case rest =>
    obtain ⟨rfl, HO2, HK2⟩ := hcut
    go_wp2
    go_ret
    exact ofA_mk (unhide EF) (unhide HO2) ((keptB (unhide HW)).trans (unhide HK2)) (Or.inl rfl)
  | some q =>
    obtain ⟨b, t', tk'⟩ := q
    have EF : Hid (R = ((L.set k (putL (xi, (j : Int), xm, xv, xr, xs, xb) b (leftS kd)), P.set j t', tk'), 0)) := unhide ER5
    go_cut [72] (fun s wx => s = .bool false ∧ Hid (Of wx go gl cap gp ok (L.set k (xi, (j : Int), xm, xv, xr, xs, b)) (P.set j t') tk') ∧ Hid (Kept (OfT go gl gp) V2 wx))
    case first =>
      go_region_held3 (fun w' => w'.cell? ⟨go, 1, none⟩ = some (.slice (some ⟨gl, 0, none⟩) L.length cap) ∧ w'.cell? ⟨w.heap.size, 0, none⟩ = some (.int .i64 kd)) (go_keep) (first
        | (go_at_call 78; refine (unhide QT _ (by first | exact unhide HO | exact (unhide HO).step (Below.refl _ _).drew)).mono ?_; rintro e w2 ⟨hk2, rfl, ho2⟩; have HO2 := hide ho2; have HK2 : Hid (Kept (OfT go gl gp) V2 w2) := (by first | exact hk2 | exact (keptD (Kept.refl _ _)).trans hk2); have m1 := (unhide HO2).box.cell (i := 1) rfl; rw [List.length_set] at m1; have m0 := ((unhide HD).kept (unhide HK2) hwd).cell (i := 0) rfl; clear ho2 hk2))
      all_goals
        go_wp2_with fail
        go_meet
        exact ⟨rfl, HO2, HK2⟩
    case rest =>
    obtain ⟨rfl, HO2, HK2⟩ := hcut
    clear c0 c1 c2 c3 c4 c5 c6 o1
    have hk3 : k < (L.set k (xi, (j : Int), xm, xv, xr, xs, b)).length := by rw [List.length_set]; exact hk
    have hX3 : (L.set k (xi, (j : Int), xm, xv, xr, xs, b)).getD k default = (xi, (j : Int), xm, xv, xr, xs, b) := by rw [set_get default L hk, if_pos rfl]
    obtain ⟨c0, c1, c2, c3, c4, c5, c6⟩ := (unhide HO2).lot hk3 hX3
    have o1 := (unhide HO2).box.cell (i := 1) rfl
    rw [List.length_set] at o1
    have cf := (unhide HO2).own.frozen
    have HO3 := hide ((unhide HO2).putL hk3 (j := 5) (by omega) (xi, (j : Int), xm, xv, xr, y, b) (fun j' h1 h2 => by rw [hX3]; have h3 : j' = 0 ∨ j' = 1 ∨ j' = 2 ∨ j' = 3 ∨ j' = 4 ∨ j' = 5 ∨ j' = 6 := (by omega); rcases h3 with rfl | rfl | rfl | rfl | rfl | rfl | rfl <;> first | rfl | exact absurd rfl h2) (u := .int .i64 y) rfl)
    rw [List.set_set] at HO3
    have HK3 := hide (keptL (unhide HK2) (k * 7 + 5) (.int .i64 y))
    have EF2 : Hid (R = ((L.set k (xi, (j : Int), xm, xv, xr, y, b), P.set j t', tk'), 0)) := by show _ = _; rw [unhide EF, unhide HYL]; rfl
    clear HO2 HK2 hX3 EF
    go_wp2
    go_ret
    exact ofA_mk (unhide EF2) (unhide HO3) ((keptB (unhide HW)).trans (unhide HK3)) (Or.inl rfl)

end Go.Proofs.Ytojlkdmlelgcbaa

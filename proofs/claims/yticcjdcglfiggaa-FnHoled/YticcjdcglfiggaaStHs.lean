/- The contract of the specification's Flood. -/
import Derived.Test.YticcjdcglfiggaaStHi
import Derived.Test.YticcjdcglfiggaaRowGrow
namespace Go.Proofs.Yticcjdcglfiggaa
open Go.RowKit

theorem permTo_bd {n : Nat} {L : List I3} (h : ∀ r, r < L.length → roomAt n L r = true) (s : Nat) : ∀ k, k ≤ L.length → 0 ≤ permTo L s k ∧ permTo L s k ≤ 100
  | 0, _ => by simp [permTo]
  | k + 1, hk => by
    have hr := room_at (x := (L.getD k default).1) (y := (L.getD k default).2.1) (z := (L.getD k default).2.2) (h k (by omega)) (by omega) rfl
    rw [permTo]
    split
    · exact ⟨hr.2.2.2.1, hr.2.2.2.2.1⟩
    · exact permTo_bd h s k (by omega)

/-- The first k rows, let in. -/
def dipsTo (R : List (List Int)) (P : Nat → Int) (k : Nat) : List (List Int) := (List.range k).map fun s => dipRow (P s) (R.getD s [])
theorem dipsTo_len (R : List (List Int)) (P : Nat → Int) (k : Nat) : (dipsTo R P k).length = k := by simp [dipsTo]
theorem dipsTo_succ (R : List (List Int)) (P : Nat → Int) (k : Nat) : dipsTo R P (k + 1) = dipsTo R P k ++ [dipRow (P k) (R.getD k [])] := by simp [dipsTo, List.range_succ]
theorem dipRow_take (p : Int) (row : List Int) {j : Nat} (hj : j < row.length) : dipRow p (row.take (j + 1)) = dipRow p (row.take j) ++ [dip p (row.getD j 0)] := by
  unfold dipRow
  rw [List.take_add_one, List.getElem?_eq_getElem hj, getD_lt hj, List.map_append]
  rfl

set_option maxHeartbeats 6400000 in
theorem specFlood_any (step rise : Int) (v : Value) (R : List (List Int)) (u : Value) (L : List I3) (w : World) (h : RowsIn w v R) (hL : R3 w u L) :
    Calls Try.prog 32 #[hullV step rise v, u] w fun e w' => ∃ ao n cap, e = .returned (hullV (fStep step rise R L) (fRise step rise R L) (.slice ao n cap)) ∧ RowsIn w' (.slice ao n cap) (fRows step rise R L) ∧ Below w.heap.size w w' := by
  have HV := hide h
  have HU := hide hL
  obtain ⟨ao, cap, rfl, hl, hm, hc⟩ := h
  obtain ⟨ao1, cap1, rfl, hl1, hm1, hc1⟩ := hL
  unfold maxLen at hm hm1
  have HCr := hide hc
  have HC := hide hc1
  clear hc hc1
  unfold hullV
  obtain ⟨W0, eW0⟩ : ∃ W, W = (w.alloc (.cells #[.int .i64 step, .int .i64 rise, .slice ao R.length cap] 26)).alloc (.cells #[.int .i64 0, .int .i64 0, .slice none 0 0] 26) := ⟨_, rfl⟩
  have HW0 : Hid (Below w.heap.size w W0) := by show Below _ _ _; rw [eW0]; exact Below.step (Below.alloc1 _ _) (Below.alloc1 _ _)
  have HB0 : Hid (OwnV W0 w.heap.size [.int .i64 step, .int .i64 rise, .slice ao R.length cap]) := by show OwnV _ _ _; rw [eW0]; exact OwnV.alloc (ownV_alloc w #[.int .i64 step, .int .i64 rise, .slice ao R.length cap] _) _
  have HA0 : Hid (OwnV W0 (w.heap.size + 1) [.int .i64 0, .int .i64 0, .slice none 0 0]) := by
    show OwnV _ _ _
    rw [eW0]
    have := ownV_alloc (w.alloc (.cells #[.int .i64 step, .int .i64 rise, .slice ao R.length cap] 26)) #[.int .i64 0, .int .i64 0, .slice none 0 0] 26
    simpa using this
  go_enter Try.func32, Try.ntmps32
  go_wp2_with fail
  rw [← eW0]
  clear eW0
  refine (specRoomsOk_any step rise _ R _ L _ ((unhide HV).below (unhide HW0)) ((unhide HU).below (unhide HW0))).mono ?_
  rintro e w1 ⟨rfl, hb⟩
  have HW1 := hide (Below.step (unhide HW0) hb)
  have HB1 := hide (OwnV.step (unhide HB0) hb)
  have HA1 := hide (OwnV.step (unhide HA0) hb)
  have hz : w.heap.size + 1 < w1.heap.size := (unhide HA1).lt
  clear hb HW0 HB0 HA0
  cases hok : roomsB step rise R L with
  | false =>
    have E1 : Hid (fStep step rise R L = 0 ∧ fRise step rise R L = 0 ∧ fRows step rise R L = []) := by show _ ∧ _ ∧ _; simp [fStep, fRise, fRows, hok]
    clear hok
    have r0 := OwnV.cell (unhide HA1) (i := 0) rfl
    have r1 := OwnV.cell (unhide HA1) (i := 1) rfl
    have r2 := OwnV.cell (unhide HA1) (i := 2) rfl
    have s0 := (unhide HA1).frozen
    go_wp2
    refine bodyPost_ret (v := .agg #[.int .i64 0, .int .i64 0, .slice none 0 0]) (by simp [results, Try.results32, go_sem, r0, r1, r2]) rfl ⟨none, 0, 0, ?_, ?_, ?_⟩
    · rw [(unhide E1).1, (unhide E1).2.1]
    · rw [(unhide E1).2.2]; exact ⟨none, 0, rfl, Nat.le_refl _, Nat.zero_le _, fun r hr => by simp at hr⟩
    · exact (((unhide HW1).setCell (by simp) _).setCell (by simp) _).setCell (by simp) _
  | true =>
    have E1 : Hid (fStep step rise R L = step ∧ fRise step rise R L = rise ∧ fRows step rise R L = dipsTo R (fun s => permTo L s L.length) R.length) := by show _ ∧ _ ∧ _; simp [fStep, fRise, fRows, hok]; rfl
    obtain ⟨hok1, hlen, hrooms⟩ := roomsB_at hok
    have hR := hullOk_right hok1
    have hl1 := hR.len1
    have hl2 := hR.len2
    have HR := hide hR
    have HRm := hide hrooms
    clear hok hok1 hR hrooms
    have c0 := OwnV.cell (unhide HB1) (i := 0) rfl
    have c1 := OwnV.cell (unhide HB1) (i := 1) rfl
    have M0 : Hid (MirSt w1 (w1.alloc (.cells #[.int .i64 step, .int .i64 rise, .slice none 0 0] 26)) step rise (.slice none 0 0) (dipsTo R (fun s => permTo L s L.length) 0)) :=
      ⟨Below.alloc1 _ _, ⟨_, _, Go.Deep.blk_alloc_new _ _, fun i _ => by simp⟩, Grow.start _ _ _⟩
    go_wp2
    clear c0 c1
    go_loopg [6] R.length (fun gh iv wr => ∃ k : Nat, ∃ ov, k ≤ R.length ∧ gh = R.length - k ∧ iv = .int .i64 k ∧ MirSt w1 wr step rise ov (dipsTo R (fun s => permTo L s L.length) k))
    case atStart => exact ⟨0, _, Nat.zero_le _, rfl, rfl, unhide M0⟩
    case round =>
      obtain ⟨k, ov, hk, rfl, rfl, hM⟩ := hrel
      clear M0
      obtain ⟨ao2, cap2, eov, _, _, _⟩ := hM.grow.rowsIn
      rw [dipsTo_len] at eov
      subst eov
      have HM := hide hM
      have HWr := hide (Below.step (unhide HW1) hM.below)
      have HBr := hide (OwnV.step (unhide HB1) hM.below)
      clear hM
      generalize wr = wo at *
      by_cases hkn : k < R.length
      · have c2 := OwnV.cell (unhide HBr) (i := 2) rfl
        go_wp2
        clear c2
        go_loopg [7, 8] L.length (fun gh pv iv wr => Below wo.heap.size wo wr ∧ ∃ j : Nat, j ≤ L.length ∧ gh = L.length - j ∧ iv = .int .i64 j ∧ pv = .int .i64 (permTo L k j))
        case atStart => exact ⟨Below.refl _ _, 0, Nat.zero_le _, rfl, rfl, rfl⟩
        case round =>
          obtain ⟨hb, j, hj, rfl, rfl, rfl⟩ := hrel
          by_cases hjn : j < L.length
          · obtain ⟨b, o, x, y, z, rfl, hc0, hc1, hc2, EX⟩ := rec3At (unhide HC) hjn
            have g0 := wcell3 (wcell3 hc0 (unhide HWr)) hb
            have g1 := wcell3 (wcell3 hc1 (unhide HWr)) hb
            have g2 := wcell3 (wcell3 hc2 (unhide HWr)) hb
            have HN : Hid (permTo L k (j + 1) = if inB k x y = true then z else permTo L k j) := by show _ = _; rw [permTo, unhide EX]
            have HB := hide hb
            clear hc0 hc1 hc2 EX hb
            generalize permTo L k j = pj at *
            go_wp2
            go_quiet ((go_at_call 77; exact Calls.quiet_of_same (l1In_any _ _ _ _)))
            have g2' : (wr.drewN nq).cell? ⟨b, o + j * 3 + 2, none⟩ = some (.int .i64 z) := g2
            cases hin : inB (k : Int) x y with
            | true =>
              go_wp2
              go_roundg (L.length - (j + 1))
              case measure => omega
              case rel => exact ⟨below_drewN (unhide HB) _, j + 1, by omega, rfl, by go_num, by rw [unhide HN, hin, if_pos rfl]⟩
            | false =>
              go_wp2
              go_roundg (L.length - (j + 1))
              case measure => omega
              case rel => exact ⟨below_drewN (unhide HB) _, j + 1, by omega, rfl, by go_num, by rw [unhide HN, hin, if_neg (by simp)]⟩
          · have hjj : j = L.length := by omega
            subst hjj
            obtain ⟨p0, p1⟩ := permTo_bd (unhide HRm) k L.length (Nat.le_refl _)
            obtain ⟨P, eP⟩ : ∃ P : Nat → Int, P = fun s => permTo L s L.length := ⟨_, rfl⟩
            have EPk : Hid (permTo L k L.length = P k) := by show _ = _; rw [eP]
            rw [unhide EPk] at p0 p1 ⊢
            rw [← eP] at HM E1
            have EP := hide eP
            clear eP
            have HM3 := hide ((unhide HM).step hb)
            have HW3 := hide (Below.step (unhide HWr) hb)
            have HB3 := hide (OwnV.step (unhide HBr) hb)
            clear hb HM HWr HBr
            generalize wr = w3 at *
            have OE : Hid ((w3.alloc (.cells #[] 3)).ownsRow w3.heap.size 3 1 (.slice (some ⟨w3.heap.size, 0, none⟩) 0 0) 0 (ints (dipRow (P k) ((R.getD k []).take 0)))) :=
              ⟨rfl, Or.inr ⟨w3.heap.size, 0, #[], rfl, Nat.le_refl _, Go.Deep.blk_alloc_new _ _, Nat.le_refl _, Nat.zero_le _, rfl, rfl⟩⟩
            obtain ⟨br, orr, ar, m, cr, rfl, hcell, hrow, EM, hm0⟩ := rowAt (unhide HCr) hkn
            have HRow := hide hrow
            have HCl := hide hcell
            have hm1 : 2 ≤ m := by rw [← unhide EM, (unhide HR).even _ hkn]; exact (unhide HR).wat1
            have hm2 : m ≤ 10 := by rw [← unhide EM, (unhide HR).even _ hkn]; exact (unhide HR).wat2
            have HCell : Hid (∀ j, j < m → 0 ≤ (R.getD k []).getD j 0 ∧ (R.getD k []).getD j 0 ≤ 50) := fun j hj => (unhide HR).cells k j hkn (by rw [← (unhide HR).even k hkn, unhide EM]; exact hj)
            obtain ⟨row, erow⟩ : ∃ row, row = R.getD k [] := ⟨_, rfl⟩
            rw [← erow] at OE HRow EM HCell
            have ERow := hide erow
            clear hrow hcell erow
            go_wp2
            go_loopg [9, 10] m (fun gh rv iv wr => ∃ j : Nat, j ≤ m ∧ gh = m - j ∧ iv = .int .i64 j ∧ wr.ownsRow w3.heap.size 3 1 rv j (ints (dipRow (P k) (row.take j))) ∧ Below w3.heap.size w3 wr)
            case atStart => exact ⟨0, Nat.zero_le _, rfl, rfl, unhide OE, Below.alloc1 _ _⟩
            case round =>
              obtain ⟨j, hj, rfl, rfl, hO, hb⟩ := hrel
              have HO := hide hO
              have HB := hide hb
              have hsz := hb.size
              have c2 := OwnV.cell (OwnV.step (unhide HB3) hb) (i := 2) rfl
              have q1 := wcell3 (wcell3 (unhide HCl) (unhide HW3)) hb
              clear hO hb
              by_cases hjm : j < m
              · obtain ⟨i0, hi, hz0, hz1, hz2⟩ := info_parts Try.info3
                obtain ⟨b1, o1, rfl, hx⟩ := intAt (((unhide HRow).below (unhide HW3)).below (unhide HB)) hjm
                obtain ⟨x1, x2⟩ := unhide HCell j hjm
                have HN : Hid (dipRow (P k) (row.take (j + 1)) = dipRow (P k) (row.take j) ++ [row.getD j 0 * (100 - P k) / 100]) := dipRow_take _ _ (by rw [unhide EM]; exact hjm)
                obtain ⟨m1, m2⟩ := mul_bd (a := row.getD j 0) (b := 100 - P k) (A := 50) (B := 100) x1 x2 (by omega) (by omega)
                generalize row.getD j 0 = x at *
                generalize em : x * (100 - P k) = q at *
                go_wp2_with (at_builtin; refine wpList_append_own _ rfl _ _ 31 rfl w3.heap.size 3 i0 (.int .i64 0) 1 8 Try.underlying31 hi hz0 hz1 hz2 rfl (by decide) _ _ _ rfl ((unhide HO).alloc _) ⟨wr.heap.size, 0, none⟩ 1 1 [.int .i64 (q / 100)] rfl rfl ?c1 ?c2 ?c3 ?c4 ?c5 ?_)
                case c1 => exact cell_one_new _ _ _
                case c2 => intro u hu; simp at hu; subst hu; rfl
                case c3 => unfold maxLen; omega
                case c4 => omega
                case c5 => simp; omega
                intro v' wa hown' hgrow _
                have HOa : Hid (wa.ownsRow w3.heap.size 3 1 v' (j + 1) (ints (dipRow (P k) (row.take (j + 1))))) := by show World.ownsRow _ _ _ _ _ _ _; rw [unhide HN, ints_snoc']; exact hown'
                have HBa : Hid (Below w3.heap.size w3 wa) := ((unhide HB).alloc (by omega) _).grown hgrow (by simp; omega) (fun g hg => ((unhide HO).lt g hg).1)
                clear hown' hgrow HO HB hi hz0 hz1 hz2
                go_wp2
                go_roundg (m - (j + 1))
                case measure => omega
                case rel => exact ⟨j + 1, by omega, rfl, by go_num, unhide HOa, unhide HBa⟩
              · have hjj : j = m := by omega
                subst hjj
                have hrl := unhide EM
                have etake : row.take j = row := List.take_of_length_le (by omega)
                have hO := unhide HO
                rw [etake] at hO
                obtain ⟨g1, cap1', hv, hg1, hcap1, hcap2, hov1⟩ := row_own hO (by omega) (by rw [dipRow_len]; exact hrl)
                obtain ⟨vals, hvo3, hvr3⟩ := (unhide HM3).grow
                rw [dipsTo_len] at hvo3
                have HBl : Hid (∀ q, (Value.slice ao2 k cap2).ownBlock = some q → w1.heap.size + 1 ≤ q ∧ q < w3.heap.size) := fun q hq => hvo3.lt q hq
                have HVL : Hid (vals.length = (dipsTo R P k).length) := by show _ = _; rw [dipsTo_len]; have := hvo3.1; omega
                have HVO := hide (ownsRow_below hvo3 (unhide HB))
                have HVR := hide hvr3
                have HV1 := hide hov1
                have HBX := hide (OwnV.step (unhide HM3).box (unhide HB))
                have t2 := OwnV.cell (unhide HBX) (i := 2) rfl
                have hlt3 := (unhide HM3).box.lt
                have ERl : Hid ((dipRow (P k) row).length = j) := by show _ = _; rw [dipRow_len]; exact hrl
                obtain ⟨i1, hi, hz0, hz1, hz2⟩ := info_parts Try.info31
                subst hv
                clear hO etake hrl hvo3 hvr3 hov1
                go_wp2_with (at_builtin; refine wpList_append_lies _ rfl _ _ 24 rfl (w1.heap.size + 1) 31 i1 (.slice none 0 0) 1 24 Try.underlying24 hi hz0 hz1 hz2 rfl (by decide) (.slice ao2 k cap2) k vals rfl ((unhide HVO).alloc _) ⟨wr.heap.size, 0, none⟩ 1 1 [.slice (some ⟨g1, 0, none⟩) j cap1'] rfl rfl (cell_one_new _ _ _) (by simp [Value.oneCell']) (by omega) (by unfold maxLen; omega) (by omega) (by simp; omega) (wr.heap.size + 1) (by simp) ?_; intro g' cap' w5 hown' hgrow hat _; have hbx2 : OwnV w5 w1.heap.size [.int .i64 step, .int .i64 rise, .slice ao2 k cap2] := (((unhide HBX).alloc _).of_block (hgrow.block _ (by simp; omega) (fun e => by have := (unhide HBl _ e.symm).1; omega))); have t2' := hbx2.cell (i := 2) rfl; have f2' := hbx2.frozen 2; have HN := hide (MirSt.push (rcap := cap1') (dipsTo_len R P k) (unhide HM3) (unhide HB) (unhide HVR) (unhide HVL) (unhide HV1) hg1 (by rw [unhide ERl]; exact hcap1) hcap2 (unhide HBl) (by rw [unhide ERl]; exact hown') hgrow hat); clear hown' hgrow hat hbx2)
                go_roundg (R.length - (k + 1))
                case measure => omega
                case rel => exact ⟨k + 1, _, by omega, rfl, by go_num, by rw [show (fun s => permTo L s L.length) = P from (unhide EP).symm, dipsTo_succ, ← unhide ERow]; exact unhide HN⟩
      · have hkk : k = R.length := by omega
        subst hkk
        have hO := OwnV.step (unhide HA1) (unhide HM).below
        have r0 := hO.cell (i := 0) rfl
        have r1 := hO.cell (i := 1) rfl
        have r2 := hO.cell (i := 2) rfl
        have s0 := hO.frozen
        have hX := (unhide HM).box
        have t0 := hX.cell (i := 0) rfl
        have t1 := hX.cell (i := 1) rfl
        have t2 := hX.cell (i := 2) rfl
        have c2 := OwnV.cell (unhide HBr) (i := 2) rfl
        clear hO hX
        go_wp2
        refine bodyPost_ret (v := .agg #[.int .i64 step, .int .i64 rise, .slice ao2 R.length cap2]) (by simp [results, Try.results32, go_sem, r0, r1, r2]) rfl ⟨ao2, R.length, cap2, ?_, ?_, ?_⟩
        · rw [(unhide E1).1, (unhide E1).2.1]
        · rw [(unhide E1).2.2]
          exact ((unhide HM).grow.kept (mir_out wo (w.heap.size + 1) _ _ _) (fun g hg _ e => by omega)).rowsIn
        · exact (((unhide HWr).setCell (by simp) _).setCell (by simp) _).setCell (by simp) _

end Go.Proofs.Yticcjdcglfiggaa

/- Steps to a goal: contracts of the program's hopsTo and Hops. Written by wip/mkfrle.py. -/
import Derived.Test.YtnapggchejdcgaaFrlD
import Derived.Test.YtnapggchejdcgaaQuA
import Derived.Test.YtnapggchejdcgaaRpA
namespace Go.Proofs.Ytnapggchejdcgaa
open Go.RowKit

set_option maxRecDepth 10000 in
set_option maxHeartbeats 8000000 in
theorem hopsTo_any (s : Flr) (hn : FlN s) (dao : Option Addr) (dc : Nat) (f : Nat) (hf : f < s.W.length) (w : World) (hD : IntsIn w (.slice dao s.W.length dc) s.W) :
    Calls Try.prog 57 #[vFloor s.wd s.hg (.slice dao s.W.length dc), .int .i64 f] w fun e w' => ∃ g, e = .returned (.slice (some ⟨g, 0, none⟩) s.W.length s.W.length) ∧ w.heap.size ≤ g ∧ OwnV w' g (ints (hopL s f)) ∧ (hopL s f).length = s.W.length ∧ Below w.heap.size w w' := by
  obtain ⟨i0, hinf, hzz⟩ := Option.map_eq_some_iff.1 Try.infoIntCp
  simp only [Prod.mk.injEq] at hzz
  obtain ⟨hz0, hz1, hz2⟩ := hzz
  have HFN := hide hn
  have hn100 := hn.le
  have hn0 := hn.pos
  have HBS := hide fun p b V h0 h1 hb => beside_any s hn dao dc p b V h0 h1 hb
  have HWY := hide fun p b V (hV : Below w.heap.size w V) h0 h1 hb => hasWay_any s hn dao dc p b V (hD.below hV) h0 h1 hb
  have HY := hide fun P hP => hopL_eq (s := s) (g := f) (P := P) hP
  have HED := hide fun (u v b : Nat) hu hb hv hw => ed_back hn (u := u) (v := v) (b := b) hu hb hv hw
  have HEF := hide fun (u v b : Nat) hv hb h => ed_fwd hn (u := u) (v := v) (b := b) hv hb h
  have HNB := hide fun (t b : Nat) (ht : t < s.W.length) (hb : b < 4) (h : nbV s.wd s.hg (t : Int) b ≠ -1) => nb_back (p := (t : Int)) hn.w0 hb (by omega) (by rw [← hn.len]; omega) h
  have HLE := hide hn.len
  clear hn hD
  generalize hopL s f = RV at *
  unfold vFloor at *
  have hA0 := Below.alloc1 w (.cells #[.int .i64 s.wd, .int .i64 s.hg, .slice dao s.W.length dc] 26)
  have HX := hide (ownV_alloc w #[.int .i64 s.wd, .int .i64 s.hg, .slice dao s.W.length dc] 26)
  obtain ⟨g0, eg0⟩ : ∃ z, z = w.heap.size := ⟨_, rfl⟩
  have hg0 : w.heap.size ≤ g0 := by omega
  have hg0' : g0 ≤ w.heap.size := by omega
  rw [← eg0] at HX
  go_enter Try.func57, Try.ntmps57
  go_upto_region 1 with (fail)
  obtain ⟨w1, ew1⟩ : ∃ z, z = w.alloc (.cells #[.int .i64 s.wd, .int .i64 s.hg, .slice dao s.W.length dc] 26) := ⟨_, rfl⟩
  rw [← ew1] at hA0 HX ⊢
  rw [← eg0]
  have HB := hide hA0
  have hA := Below.alloc1 w1 (.cells #[.int .i64 (-1)] 3)
  have HRP := hide (repeat1_any w1.heap.size 0 1 (-1) s.W.length (w1.alloc (.cells #[.int .i64 (-1)] 3)) (by simp) (by omega) (by omega))
  have HB1 := hide (Below.step (unhide HB) hA)
  have HX1 := hide ((unhide HX).step hA)
  have c2 := (unhide HX1).cell (i := 2) rfl
  have HSA : Hid (g0 + 1 ≤ (w1.alloc (.cells #[.int .i64 (-1)] 3)).heap.size) := by
    have := (unhide HX1).lt
    exact this
  clear hA0 ew1 eg0 hA HX HB
  go_wp2_with fail
  refine (unhide HRP).mono ?_
  rintro e w2 ⟨g, rfl, hg, hO, hb⟩
  have hgw : g0 < g := by have := unhide HSA; omega
  have HB2 := hide (Below.step (unhide HB1) hb)
  have HX2 := hide ((unhide HX1).step hb)
  clear hb HRP HB1 HSA HX1 c2
  have hrl : (List.replicate s.W.length (-1 : Int)).length = s.W.length := by simp
  have hu := hO.cell (ints_get (List.replicate s.W.length (-1)) (i := f) (by omega))
  have hfz := hO.frozen f
  have hN := hO.set f (.int .i64 0) (by rw [ints_length]; omega)
  rw [ints_set] at hN
  have HW3 := hide ((unhide HB2).setCell (p := ⟨g, f, none⟩) (by show w.heap.size ≤ g; omega) (.int .i64 0))
  have HX3 := hide ((unhide HX2).other (a := ⟨g, f, none⟩) (by show g0 ≠ g; omega) (.int .i64 0))
  have HS := hide (BfT.start s f hf)
  have hng : negs ((List.replicate s.W.length (-1 : Int)).set f 0) + 1 = s.W.length := by
    rw [negs_put (by omega) (by simp [List.getD, hf]) (by omega)]
    simp [negs, List.countP_replicate]
  have HBD : Hid (∀ v, v < s.W.length → ((List.replicate s.W.length (-1 : Int)).set f 0).getD v 0 + (negs ((List.replicate s.W.length (-1 : Int)).set f 0) : Int) ≤ s.W.length) := fun v hv => by
    have := (Lev.start s f hf).up v hv
    have h2 : ((List.replicate s.W.length (-1 : Int)).set f 0).getD v 0 ≤ 0 := by
      rw [getD_set _ _ _ _ (by omega)]
      split
      · omega
      · simp [List.getD, hv]
    omega
  generalize (List.replicate s.W.length (-1 : Int)).set f 0 = P0 at *
  generalize (List.replicate s.W.length (-1 : Int)).getD f 0 = z at hu
  obtain ⟨w3, hw3⟩ : ∃ z, w2.setCell ⟨g, f, none⟩ (.int .i64 0) = z := ⟨_, rfl⟩
  rw [hw3] at hN HW3 HX3
  have hgl := hN.lt
  have hA3 := Below.alloc1 w3 (.cells #[.int .i64 (f : Int)] 3)
  have HQ0 := hide (qrow_new (g0 + 1) g w3 (f : Int) 3 (by omega) hgl)
  have HN4 := hide (hN.step hA3)
  have HW4 := hide (Below.step (unhide HW3) hA3)
  have HX4 := hide ((unhide HX3).step hA3)
  have HNG := hide hng
  have hfi : (f : Int) < s.W.length := by omega
  clear hO hN hA3 hg hrl hng
  go_wp2
  clear hu hfz hw3 HX3 HX2
  go_loopg [6] (2 * negs P0 + 1) (fun gg tv wr => ∃ (P : List Int) (Q : List Nat), gg = 2 * negs P + Q.length ∧ (∃ a n cp, tv = .slice a n cp) ∧ Hid (QRow (g0 + 1) g wr tv (natL Q)) ∧ OwnV wr g (ints P) ∧ Below w.heap.size w wr ∧ Hid (OwnV wr g0 [.int .i64 s.wd, .int .i64 s.hg, .slice dao s.W.length dc]) ∧ Hid (BfT s f P Q) ∧ negs P + Q.length ≤ s.W.length ∧ Hid (∀ v, v < s.W.length → P.getD v 0 + (negs P : Int) ≤ s.W.length))
  case atStart => exact ⟨P0, [f], rfl, ⟨_, _, _, rfl⟩, HQ0, unhide HN4, unhide HW4, HX4, HS, by have := unhide HNG; simp; omega, HBD⟩
  case round =>
    obtain ⟨P, Q, rfl, ⟨ta, tn, tc, rfl⟩, HQ, hO, hW, HX, HT, hnq, HBP⟩ := hrel
    clear HQ0 HN4 HW4 HS HNG HBD HW3 HB2 HX4
    have HW := hide hW
    have HO := hide hO
    have hgwr := hO.lt
    clear hW hO
    cases Q with
    | nil =>
      have EC := hide (unhide HY P (unhide HT).done)
      have hPl := (unhide HT).len
      obtain ⟨gq, oq, cq, eq, -⟩ := unhide HQ
      simp only [natL, List.map_nil, List.length_nil, Value.slice.injEq] at eq
      obtain ⟨rfl, rfl, rfl⟩ := eq
      go_wp2
      go_ret
      exact ⟨g, rfl, by omega, by rw [unhide EC]; exact unhide HO, by rw [unhide EC]; exact hPl, unhide HW⟩
    | cons t R =>
      have hQ := unhide HQ
      rw [show natL (t :: R) = (t : Int) :: natL R from rfl] at hQ
      obtain ⟨gq, oq, cq, eq, hq1, hq2, hq3, hq4, hq5, hq6⟩ := id hQ
      simp only [Value.slice.injEq, List.length_cons] at eq
      obtain ⟨rfl, rfl, rfl⟩ := eq
      have ct := hq5 0 (by simp)
      rw [Nat.add_zero] at ct
      simp only [List.getD, List.getElem?_cons_zero, Option.getD_some] at ct
      have hQT := hQ.tail
      rw [natL_len] at hQT ⊢
      rw [List.length_cons, natL_len] at hq3
      simp only [List.length_cons] at hnq
      obtain ⟨htl, htp⟩ := (unhide HT).pop.tl
      have HI := hide (unhide HT).pop
      have hpos : (0 : Int) < (R.length : Int) + 1 := by omega
      have hposn : 0 < R.length + 1 := by omega
      have htli : (t : Int) < s.W.length := by omega
      have HNQ := hide hnq
      have ht1 : 1 ≤ tc := by omega
      have hQ9 := hQ
      rw [natL_len] at hQ9
      have HQ2 := hide hQ9
      clear hQ hQ9 hq1 hq2 hq4 hq5 hq6 HQ HT hnq hQT
      go_wp2
      clear ct
      go_loopg [6, 28] 4 (fun gg tv kv wr2 => ∃ (k : Nat) (P' : List Int) (Q' : List Nat), k ≤ 4 ∧ gg = 4 - k ∧ kv = .int .i64 k ∧ (∃ a n cp, tv = .slice a n cp) ∧ Hid (QRow (g0 + 1) g wr2 tv ((t : Int) :: natL Q')) ∧ OwnV wr2 g (ints P') ∧ Below w.heap.size w wr2 ∧ Hid (OwnV wr2 g0 [.int .i64 s.wd, .int .i64 s.hg, .slice dao s.W.length dc]) ∧ Hid (BfI s f t P' Q') ∧ Hid (∀ b, b < k → ∀ v : Nat, v < s.W.length → nbV s.wd s.hg (t : Int) (opS b) = (v : Int) → bitB (s.W.getD v 0) b = true → 0 ≤ P'.getD v 0) ∧ Hid (2 * negs P' + Q'.length ≤ 2 * negs P + R.length) ∧ Hid (negs P' + Q'.length ≤ s.W.length) ∧ Hid (∀ v, v < s.W.length → P'.getD v 0 + (negs P' : Int) ≤ s.W.length))
      case atStart => exact ⟨0, P, R, Nat.zero_le _, rfl, rfl, ⟨_, _, _, rfl⟩, HQ2, unhide HO, unhide HW, HX, HI, fun q hq => by omega, Nat.le_refl _, by have := unhide HNQ; show _ ≤ _; omega, HBP⟩
      case round =>
        obtain ⟨k, P', Q', hk, rfl, rfl, ⟨a', n', c', rfl⟩, HQ', hO, hW, HX', HI', HK, HM, HL', HBP'⟩ := hrel
        have hPl' := (unhide HI').len
        have ht0 := (unhide HI').tl.2
        have ht24 : P'.getD t 0 ≤ 100 := by have := unhide HBP' t htl; omega
        clear HQ2 HO HW HX HI HBP
        have HW := hide hW
        have HO := hide hO
        have hgwr' := hO.lt
        clear hW hO
        by_cases hkm : k < 4
        case neg =>
          have hki : ¬ (k : Int) < 4 := by omega
          have HB2 := hide ((unhide HI').close (fun v hE => by
            obtain ⟨hu, hv, b, hb, hx⟩ := hE
            obtain ⟨e1, e2⟩ := unhide HEF t v b hv hb hx
            exact unhide HK b (by omega) v hv e2 e1))
          generalize P'.getD t 0 = y at *
          have hQ := unhide HQ'
          obtain ⟨gq2, oq2, cq2, eq, hr1, hr2, hr3, hr4, hr5, hr6⟩ := id hQ
          simp only [Value.slice.injEq, List.length_cons] at eq
          obtain ⟨rfl, rfl, rfl⟩ := eq
          have hQT := hQ.tail
          rw [natL_len] at hQT ⊢
          rw [List.length_cons, natL_len] at hr3
          clear hr1 hr2 hr4 hr5 hr6 HQ' hQ HK HI'
          by_cases htc : c' = 1
          case' pos =>
            subst htc
            rw [if_pos rfl] at hQT
            have HQT := hide hQT
            clear hQT hr3
            go_wp2
          case' neg =>
            rw [if_neg htc] at hQT
            have HQT := hide hQT
            clear hQT
            go_wp2
          all_goals
            go_roundg (2 * negs P' + Q'.length)
            case measure => have := unhide HM; omega
            case rel => exact ⟨P', Q', rfl, ⟨_, _, _, rfl⟩, HQT, unhide HO, unhide HW, HX', HB2, unhide HL', HBP'⟩
        have hki : (k : Int) < 4 := by omega
        have HOP := hide fun V => opposite_any k hkm V
        obtain ⟨zz, ezz⟩ : ∃ zz, zz = nbV s.wd s.hg (t : Int) (opS k) := ⟨_, rfl⟩
        have EZ := hide ezz
        have HBQ0 := hide fun V => unhide HBS (t : Int) (opS k) V (by omega) htli (opS_lt k)
        rw [← ezz] at HBQ0
        clear ezz
        obtain ⟨ok, eok⟩ : ∃ ok, ok = opS k := ⟨_, rfl⟩
        rw [← eok] at HOP HBQ0 EZ
        have EOK := hide eok
        clear eok
        have HOPG := hide fun (x : Gr wr) => calls_grown (x := x) ((unhide HOP x.val).mono fun e w' h => ⟨h.1, by rw [h.2]; exact Below.refl _ _⟩)
        have HBSG := hide fun (x : Gr wr) => calls_grown (x := x) (unhide HBQ0 x.val)
        have x0 := (unhide HX').cell (i := 0) rfl
        have x1 := (unhide HX').cell (i := 1) rfl
        have x2 := (unhide HX').cell (i := 2) rfl
        have y0 := fun x : Gr wr => gr_cell x0 x
        have y1 := fun x : Gr wr => gr_cell x1 x
        have y2 := fun x : Gr wr => gr_cell x2 x
        have gsome := gr_some wr
        clear x0 x1 x2 HOP HBQ0
        go_upto_region 10 with (fail)
        refine wp_region_grown (by kernel_rfl) (by kernel_rfl) ?_
        repeat (go_big_quiet_step (fail))
        go_big_quiet_want
        go_big_quiet_op
        go_big_quiet_call (exact unhide HOPG _)
        repeat (go_big_quiet_step (fail))
        go_big_quiet_want
        go_big_quiet_op
        go_big_quiet_call (exact unhide HBSG _)
        repeat (go_big_quiet_step (fail))
        refine wpQuiet_nil ?_
        intro w1 hw1
        obtain ⟨z', hz⟩ := hw1
        have hb : Below wr.heap.size wr w1 := hz ▸ z'.ok
        clear hz z' y0 y1 y2 HOPG HBSG gsome
        replace HO := hide ((unhide HO).step hb)
        replace HX' := hide ((unhide HX').step hb)
        replace HQ' := hide ((unhide HQ').below hb)
        replace HW := hide (Below.step (unhide HW) hb)
        have hgwr1 := (unhide HO).lt
        clear hb hgwr'
        by_cases hz1' : zz = -1
        · have d1 : (zz != -1) = false := by simp; exact hz1'
          have HQ2 : Hid (∀ b, b < k + 1 → ∀ v : Nat, v < s.W.length → nbV s.wd s.hg (t : Int) (opS b) = (v : Int) → bitB (s.W.getD v 0) b = true → 0 ≤ P'.getD v 0) := fun b hb v hv h1 h2 => by
            by_cases e : b = k
            · exfalso
              rw [e, ← unhide EOK, ← unhide EZ] at h1
              omega
            · exact unhide HK b (by omega) v hv h1 h2
          clear hz1' HK
          generalize P'.getD t 0 = y at *
          go_wp2
          go_roundg (4 - (k + 1))
          case measure => omega
          case rel => exact ⟨k + 1, P', Q', by omega, rfl, by go_num, ⟨_, _, _, rfl⟩, HQ', unhide HO, unhide HW, HX', HI', HQ2, HM, HL', HBP'⟩
        have d1 : (zz != -1) = true := by simp; exact hz1'
        obtain ⟨hzz0, hzz1, -⟩ := unhide HNB t ok htl (by rw [unhide EOK]; exact opS_lt k) (by rw [← unhide EZ]; exact hz1')
        rw [← unhide EZ] at hzz0 hzz1
        rw [← unhide HLE] at hzz1
        obtain ⟨x, hx⟩ : ∃ x : Nat, zz = (x : Int) := ⟨zz.toNat, by omega⟩
        subst hx
        have hxl : x < s.W.length := by omega
        have HWQ := hide (unhide HWY (x : Int) k w1 (unhide HW) hzz0 hzz1 hkm)
        rw [Int.toNat_natCast] at HWQ
        have HEX := hide fun hbit => unhide HED t x k htl hkm (by rw [← unhide EOK, ← unhide EZ]) hbit
        have x0 := (unhide HX').cell (i := 0) rfl
        have x1 := (unhide HX').cell (i := 1) rfl
        have x2 := (unhide HX').cell (i := 2) rfl
        cases hbt : bitB (s.W.getD x 0) k with
        | false =>
          rw [hbt] at HWQ
          have HQ2 : Hid (∀ b, b < k + 1 → ∀ v : Nat, v < s.W.length → nbV s.wd s.hg (t : Int) (opS b) = (v : Int) → bitB (s.W.getD v 0) b = true → 0 ≤ P'.getD v 0) := fun b hb v hv h1 h2 => by
            by_cases e : b = k
            · exfalso
              rw [e, ← unhide EOK, ← unhide EZ] at h1
              have : x = v := by omega
              rw [← this, e, hbt] at h2
              cases h2
            · exact unhide HK b (by omega) v hv h1 h2
          clear HK hbt HEX hz1'
          generalize P'.getD t 0 = y at *
          go_wp2_with fail
          refine (unhide HWQ).mono ?_
          rintro e w4 ⟨rfl, hb⟩
          replace HO := hide ((unhide HO).step hb)
          replace HX' := hide ((unhide HX').step hb)
          replace HQ' := hide ((unhide HQ').below hb)
          replace HW := hide (Below.step (unhide HW) hb)
          clear hb x0 x1 x2 HWQ
          go_wp2
          go_roundg (4 - (k + 1))
          case measure => omega
          case rel => exact ⟨k + 1, P', Q', by omega, rfl, by go_num, ⟨_, _, _, rfl⟩, HQ', unhide HO, unhide HW, HX', HI', HQ2, HM, HL', HBP'⟩
        | true =>
        rw [hbt] at HWQ
        have hE := unhide HEX hbt
        have HHE := hide hE
        have hlx := (unhide HI').low x hxl
        clear HEX hbt hz1' hE
        by_cases hneg : P'.getD x 0 < 0
        · have HP := hide ((unhide HI').put (unhide HHE) hneg)
          have hnp := negs_put (P := P') (j := x) (x := P'.getD t 0 + 1) (by omega) hneg (by omega)
          have HT24 := hide (unhide HBP' t htl)
          have HBQ : Hid (∀ v, v < s.W.length → (P'.set x (P'.getD t 0 + 1)).getD v 0 + (negs (P'.set x (P'.getD t 0 + 1)) : Int) ≤ s.W.length) := fun v hv => by
            have h1 := unhide HT24
            have h2 := unhide HBP' v hv
            rw [getD_set P' x _ v (by omega)]
            split <;> omega
          have HQ2 : Hid (∀ b, b < k + 1 → ∀ v : Nat, v < s.W.length → nbV s.wd s.hg (t : Int) (opS b) = (v : Int) → bitB (s.W.getD v 0) b = true → 0 ≤ (P'.set x (P'.getD t 0 + 1)).getD v 0) := fun b hb v hv h1 h2 => by
            rw [getD_set P' x _ v (by omega)]
            by_cases e : v = x
            · rw [if_pos e]; omega
            · rw [if_neg e]
              by_cases eb : b = k
              · exfalso
                rw [eb, ← unhide EOK, ← unhide EZ] at h1
                omega
              · exact unhide HK b (by omega) v hv h1 h2
          have HM2 : Hid (2 * negs (P'.set x (P'.getD t 0 + 1)) + (Q' ++ [x]).length ≤ 2 * negs P + R.length) := by
            have := unhide HM
            show _ ≤ _
            rw [List.length_append, List.length_singleton]
            omega
          have HL2 : Hid (negs (P'.set x (P'.getD t 0 + 1)) + (Q' ++ [x]).length ≤ s.W.length) := by
            have := unhide HL'
            show _ ≤ _
            rw [List.length_append, List.length_singleton]
            omega
          have hpx : P'.getD x 0 = -1 := by omega
          have hyt : P'.getD t 0 = P'.getD t 0 := rfl
          clear hyt
          have HPX := hide hpx
          have hl5 : ((t : Int) :: natL Q').length ≤ 1000 := by have := unhide HL'; rw [List.length_cons, natL_len]; omega
          have HL5 := hide hl5
          clear hl5 hnp HT24 HK HM HL' HBP' HI'
          have HTL := hide (show t < P'.length by omega)
          have HXL := hide (show x < P'.length by omega)
          have c0 := (unhide HO).cell (ints_get P' (i := x) (by omega))
          rw [hpx] at c0
          clear c0 hpx hneg
          obtain ⟨y, ey⟩ : ∃ y, y = P'.getD t 0 := ⟨_, rfl⟩
          rw [← ey] at HP HBQ HQ2 HM2 HL2 ht0 ht24
          have HEY := hide ey
          clear ey
          obtain ⟨P2, hP2⟩ : ∃ z, P'.set x (y + 1) = z := ⟨_, rfl⟩
          rw [hP2] at HP HBQ HQ2 HM2 HL2
          have HP2 := hide hP2
          clear hP2
          go_wp2_with fail
          refine (unhide HWQ).mono ?_
          rintro e w4 ⟨rfl, hb⟩
          replace HO := hide ((unhide HO).step hb)
          replace HX' := hide ((unhide HX').step hb)
          replace HQ' := hide ((unhide HQ').below hb)
          replace HW := hide (Below.step (unhide HW) hb)
          clear hb x0 x1 x2 HWQ
          have cx := (unhide HO).cell (ints_get P' (i := x) (unhide HXL))
          rw [unhide HPX] at cx
          have ci := (unhide HO).cell (ints_get P' (i := t) (unhide HTL))
          rw [← unhide HEY] at ci
          have hoz := (unhide HO).frozen
          have HN0 := (unhide HO).set x (.int .i64 (y + 1)) (by rw [ints_length]; exact unhide HXL)
          rw [ints_set, unhide HP2] at HN0
          have HB4 := (unhide HW).setCell (p := ⟨g, x, none⟩) (by show w.heap.size ≤ g; omega) (.int .i64 (y + 1))
          have HX4 := (unhide HX').other (a := ⟨g, x, none⟩) (by show g0 ≠ g; omega) (.int .i64 (y + 1))
          have HQ4 := (unhide HQ').kept ((Kept.refl (fun b => b = g) w4).setCell (p := ⟨g, x, none⟩) rfl (.int .i64 (y + 1))) (fun b hb _ e => hb e)
          obtain ⟨w5, hw5⟩ : ∃ z, w4.setCell ⟨g, x, none⟩ (.int .i64 (y + 1)) = z := ⟨_, rfl⟩
          rw [hw5] at HN0 HB4 HQ4 HX4
          have hA := Below.alloc1 w5 (.cells #[.int .i64 (x : Int)] 3)
          have HN5 := hide (HN0.step hA)
          have HB5 := hide (Below.step HB4 hA)
          have HX5 := hide (HX4.step hA)
          have HQ5 := hide (HQ4.below hA)
          have HS5 := hide (show g0 + 1 ≤ (w5.alloc (.cells #[.int .i64 (x : Int)] 3)).heap.size from (HX4.step hA).lt)
          have HG5 := hide (HN0.step hA).lt
          clear HN0 HB4 HQ4 hA HX4 HPX HEY HP2 HTL HXL HO HX' HW
          go_wp2_with (at_builtin; refine wpList_push_q rfl _ _ 24 rfl 3 i0 _ Try.underlying24 hinf hz0 hz1 hz2 rfl (g0 + 1) g _ ((t : Int) :: natL Q') (unhide HQ5) rfl (unhide HS5) (unhide HG5) (unhide HL5) ⟨w5.heap.size, 0, none⟩ (x : Int) rfl (by simp [Addr.add]) ?_; intro g6 o6 cap6 w6 hq6 hk6; have HQ6 := hide hq6; have HK6 := hide hk6; clear hq6 hk6)
          go_roundg (4 - (k + 1))
          case measure => omega
          case rel => exact ⟨k + 1, P2, Q' ++ [x], by omega, rfl, by go_num, ⟨_, _, _, rfl⟩, by rw [show natL (Q' ++ [x]) = natL Q' ++ [(x : Int)] from by simp [natL]]; exact HQ6, (unhide HN5).kept (unhide HK6) (fun h => h.2 rfl), (unhide HB5).trans ((unhide HK6).below (Nat.le_of_succ_le (Nat.le_trans (Nat.succ_le_succ hg0) (unhide HS5))) (fun b h => by have := h.1; omega)), hide ((unhide HX5).kept (unhide HK6) (fun h => by have := h.1; omega)), HP, HQ2, HM2, HL2, HBQ⟩
        · have HQ2 : Hid (∀ b, b < k + 1 → ∀ v : Nat, v < s.W.length → nbV s.wd s.hg (t : Int) (opS b) = (v : Int) → bitB (s.W.getD v 0) b = true → 0 ≤ P'.getD v 0) := fun b hb v hv h1 h2 => by
            by_cases e : b = k
            · rw [e, ← unhide EOK, ← unhide EZ] at h1
              have : x = v := by omega
              rw [← this]; omega
            · exact unhide HK b (by omega) v hv h1 h2
          have HXL := hide (show x < P'.length by omega)
          clear HK HHE
          generalize P'.getD t 0 = y at *
          go_wp2_with fail
          refine (unhide HWQ).mono ?_
          rintro e w4 ⟨rfl, hb⟩
          replace HO := hide ((unhide HO).step hb)
          replace HX' := hide ((unhide HX').step hb)
          replace HQ' := hide ((unhide HQ').below hb)
          replace HW := hide (Below.step (unhide HW) hb)
          clear hb x0 x1 x2 HWQ
          have cx := (unhide HO).cell (ints_get P' (i := x) (unhide HXL))
          obtain ⟨yx, eyx⟩ : ∃ yx, yx = P'.getD x 0 := ⟨_, rfl⟩
          rw [← eyx] at cx hneg
          have d2 : (yx == -1) = false := by simp; omega
          clear eyx
          go_wp2
          go_roundg (4 - (k + 1))
          case measure => omega
          case rel => exact ⟨k + 1, P', Q', by omega, rfl, by go_num, ⟨_, _, _, rfl⟩, HQ', unhide HO, unhide HW, HX', HI', HQ2, HM, HL', HBP'⟩

set_option maxHeartbeats 1600000 in
theorem implHops_any (s : Flr) (dao : Option Addr) (dn dc : Nat) (p : Int) (w : World) (hD : IntsIn w (.slice dao dn dc) s.W) :
    Calls Try.prog 23 #[vFloor s.wd s.hg (.slice dao dn dc), .int .i64 p] w fun e w' => ∃ a n cp, e = .returned (.tuple #[.slice a n cp, .bool (hopsB s p)]) ∧ OwnSl w.heap.size w' (.slice a n cp) (hopsV s p) ∧ Below w.heap.size w w' := by
  have HOK := hide fun V (hV : Below w.heap.size w V) => implFloorOk_any s dao dn dc V (hD.below hV)
  have HDD := hide hD
  obtain ⟨dao', dc', eD, hdl, hdm, -⟩ := hD
  simp only [Value.slice.injEq] at eD
  obtain ⟨rfl, rfl, rfl⟩ := eD
  unfold maxLen at hdm
  have hA0 := Below.alloc1 w (.cells #[.int .i64 s.wd, .int .i64 s.hg, .slice dao s.W.length dc] 26)
  have HX := hide (ownV_alloc w #[.int .i64 s.wd, .int .i64 s.hg, .slice dao s.W.length dc] 26)
  have HOF := hide fun p V h => isOnFloor_any s.wd s.hg dao s.W dc p V h
  have HTO := hide fun hn f hf V (hV : Below w.heap.size w V) => hopsTo_any s hn dao dc f hf V ((unhide HDD).below hV)
  have HOK1 := hide (unhide HOK _ hA0)
  have HW := hide hA0
  have nil : ∀ W a, OwnSl w.heap.size W (.slice a 0 0) [] := fun W a => ⟨a, 0, rfl, Nat.le_refl _, Nat.zero_le _, fun h => absurd rfl h⟩
  clear hA0 HOK
  obtain ⟨RV, eRV⟩ : ∃ z, z = hopsV s p := ⟨_, rfl⟩
  obtain ⟨RB, eRB⟩ : ∃ z, z = hopsB s p := ⟨_, rfl⟩
  rw [← eRV, ← eRB]
  have EV := hide eRV
  have EB := hide eRB
  clear eRV eRB
  unfold vFloor at *
  obtain ⟨g0, eg0⟩ : ∃ z, z = w.heap.size := ⟨_, rfl⟩
  rw [← eg0] at HX
  have hg0 : w.heap.size ≤ g0 := by omega
  go_enter Try.func23, Try.ntmps23
  go_wp2_with fail
  rw [← eg0]
  clear eg0
  refine (unhide HOK1).mono ?_
  rintro e w1 ⟨rfl, hb⟩
  replace HX := hide ((unhide HX).step hb)
  replace HW := hide (Below.step (unhide HW) hb)
  clear hb HOK1
  cases hfl : flB s with
  | false =>
    have e1 : RV = [] := by rw [unhide EV]; unfold hopsV; rw [hfl]; rfl
    have e2 : RB = false := by rw [unhide EB]; unfold hopsB; rw [hfl]; rfl
    subst e1 e2
    go_wp2
    refine bodyPost_ret (v := .tuple #[.slice none 0 0, .bool false]) (by simp [results, Try.results23, go_sem]) rfl ⟨_, _, _, rfl, nil _ _, unhide HW⟩
  | true =>
  have hfn := flB_n hfl
  have hn100 := hfn.le
  have HFN := hide hfn
  clear hfn
  have c0 := (unhide HX).cell (i := 0) rfl
  have c1 := (unhide HX).cell (i := 1) rfl
  have c2 := (unhide HX).cell (i := 2) rfl
  have HQ := hide (unhide HOF p w1 (by omega))
  cases hon : onF s p with
  | false =>
    have e1 : RV = [] := by rw [unhide EV]; unfold hopsV; rw [hfl, hon]; rfl
    have e2 : RB = false := by rw [unhide EB]; unfold hopsB; rw [hfl, hon]; rfl
    subst e1 e2
    unfold onF at hon
    rw [hon] at HQ
    clear hfl hon HOF HTO
    go_wp2_with fail
    refine (unhide HQ).mono ?_
    rintro e w2 ⟨rfl, hb⟩
    replace HW := hide (Below.step (unhide HW) hb)
    clear hb c0 c1 c2 HQ HX
    go_wp2
    refine bodyPost_ret (v := .tuple #[.slice none 0 0, .bool false]) (by simp [results, Try.results23, go_sem]) rfl ⟨_, _, _, rfl, nil _ _, unhide HW⟩
  | true =>
    obtain ⟨hp0, hp1⟩ := onF_true hon
    obtain ⟨f, rfl⟩ : ∃ f : Nat, p = (f : Int) := ⟨p.toNat, by omega⟩
    have hf : f < s.W.length := by omega
    have e1 : RV = hopL s f := by rw [unhide EV]; unfold hopsV; rw [hfl, hon, Int.toNat_natCast]; rfl
    have e2 : RB = true := by rw [unhide EB]; unfold hopsB; rw [hfl, hon]; rfl
    subst e2
    have EL := hide e1
    unfold onF at hon
    rw [hon] at HQ
    clear hfl hon HOF e1 EV EB
    go_wp2_with fail
    refine (unhide HQ).mono ?_
    rintro e w2 ⟨rfl, hb⟩
    replace HX := hide ((unhide HX).step hb)
    replace HW := hide (Below.step (unhide HW) hb)
    clear hb c0 c1 c2 HQ
    have c0 := (unhide HX).cell (i := 0) rfl
    have c1 := (unhide HX).cell (i := 1) rfl
    have c2 := (unhide HX).cell (i := 2) rfl
    have HTQ := hide (unhide HTO (unhide HFN) f hf w2 (unhide HW))
    have hsz := (unhide HW).size
    go_wp2_with fail
    refine (unhide HTQ).mono ?_
    rintro e w3 ⟨b, rfl, hbs, hO, hOl, hb⟩
    have HOl := hide hOl
    clear hOl
    replace HW := hide (Below.step (unhide HW) hb)
    have HO := hide hO
    clear hb c0 c1 c2 HX HTQ hO
    go_wp2
    refine bodyPost_ret (v := .tuple #[.slice (some ⟨b, 0, none⟩) s.W.length s.W.length, .bool true]) (by simp [results, Try.results23, go_sem]) rfl ⟨_, _, _, rfl, ?_, unhide HW⟩
    rw [unhide EL]
    exact ⟨some ⟨b, 0, none⟩, s.W.length, by rw [unhide HOl], by rw [unhide HOl]; exact Nat.le_refl _, by unfold maxLen; omega, fun _ => ⟨b, rfl, by omega, unhide HO⟩⟩

end Go.Proofs.Ytnapggchejdcgaa

/- Customs: the contract of the program's HouseOk. Written by wip/mkcsg.py. -/
import Derived.Test.YtojlkdmlelgcbaaCsF
import Derived.Test.YtojlkdmlelgcbaaWalkF
namespace Go.Proofs.Ytojlkdmlelgcbaa
open Go.RowKit

set_option maxRecDepth 100000 in
set_option maxHeartbeats 12800000 in
theorem implHouseOk_any (lv tv : Value) (L : List LotT) (T : List TraderT) (tk : Int) (w : World) (h : HsIn w lv tv (L, T, tk)) :
    Calls Try.prog 13 #[vHouse lv tv tk] w fun e w' => e = .returned (.bool (houseB (L, T, tk))) ∧ Below w.heap.size w w' := by
  obtain ⟨h1, h2⟩ := h
  dsimp only at h1 h2
  obtain ⟨ao, cap, rfl, hl, hm, hcl⟩ := h1
  obtain ⟨fo, fcap, rfl, hfl, hfm, hct⟩ := h2
  unfold maxLen at hm hfm
  have A := Below.alloc1 w (.cells #[.slice ao L.length cap, .slice fo T.length fcap, .int .i64 tk] 27)
  have HO := hide (ownV_alloc w #[.slice ao L.length cap, .slice fo T.length fcap, .int .i64 tk] 27)
  have HL := hide hcl
  have HT := hide hct
  have HW0 := hide A
  have HIn := hide fun (x : Int) V => isWealth_any x V
  have HLO := hide fun id ow ma va ra st bo n V hn => lotOk_any id ow ma va ra st bo n V hn
  have HTO := hide fun m b d V => traderOk_any m b d V
  unfold vLot at HLO
  unfold vTrader at HTO
  have HROW := hide fun k hk h => house_row (L := L) (T := T) (tk := tk) (k := k) hk h
  have HTR := hide fun k hk h => house_tr (L := L) (T := T) (tk := tk) (k := k) hk h
  clear hcl hct A
  unfold vHouse
  by_cases b1 : ¬ L.length ≤ 40
  · have HB : Hid (houseB (L, T, tk) = false) := house_not fun hh => b1 hh.nl
    have d1 : decide (40 < (L.length : Int)) = true := by rw [decide_eq_true_eq]; omega
    go_enter Try.func13, Try.ntmps13
    go_wp2
    go_ret
    exact ⟨by rw [unhide HB]; rfl, unhide HW0⟩
  replace b1 := Decidable.not_not.1 b1
  have d1 : decide (40 < (L.length : Int)) = false := by rw [decide_eq_false_iff_not]; omega
  have i1 : ¬ (40 < (L.length : Int)) := by omega
  by_cases b2 : ¬ T.length ≤ 10
  · have HB : Hid (houseB (L, T, tk) = false) := house_not fun hh => b2 hh.nt
    have d2 : decide (10 < (T.length : Int)) = true := by rw [decide_eq_true_eq]; omega
    go_enter Try.func13, Try.ntmps13
    go_wp2
    go_ret
    exact ⟨by rw [unhide HB]; rfl, unhide HW0⟩
  replace b2 := Decidable.not_not.1 b2
  have d2 : decide (10 < (T.length : Int)) = false := by rw [decide_eq_false_iff_not]; omega
  have i2 : ¬ (10 < (T.length : Int)) := by omega
  cases b3 : inB tk 0 1000000000000000 with
  | false =>
    have HB : Hid (houseB (L, T, tk) = false) := house_not fun hh => by have := inB_mk hh.tk.1 hh.tk.2; rw [b3] at this; cases this
    go_enter Try.func13, Try.ntmps13
    go_wp2_with (go_at_call 46; refine (unhide HIn _ _).mono ?_; rintro e w9 ⟨rfl, h9⟩; have h8 := h9.symm; subst h8; clear h9)
    go_ret
    exact ⟨by rw [unhide HB]; rfl, unhide HW0⟩
  | true =>
  have HALL := hide fun h4 h5 => house_all (L := L) (T := T) (tk := tk) b1 b2 b3 h4 h5
  go_enter Try.func13, Try.ntmps13
  go_wp2_with (go_at_call 46; refine (unhide HIn _ _).mono ?_; rintro e w9 ⟨rfl, h9⟩; have h8 := h9.symm; subst h8; clear h9)
  obtain ⟨V, eV⟩ : ∃ V, V = w.alloc (.cells #[.slice ao L.length cap, .slice fo T.length fcap, .int .i64 tk] 27) := ⟨_, rfl⟩
  have hVs : V.heap.size = w.heap.size + 1 := by rw [eV, World.size_alloc]
  rw [← eV] at HO HW0 ⊢
  clear eV
  have HB0 := hide (ownV_alloc V #[.int .i64 0, .int .i64 0, .int .i64 0, .int .i64 0, .int .i64 0, .int .i64 0, .int .i64 0, .int .i64 0, .int .i64 0, .int .i64 0] 87)
  have AV := Below.alloc1 V (.cells #[.int .i64 0, .int .i64 0, .int .i64 0, .int .i64 0, .int .i64 0, .int .i64 0, .int .i64 0, .int .i64 0, .int .i64 0, .int .i64 0] 87)
  have hgr : w.heap.size < V.heap.size := (unhide HO).lt
  replace HW0 := hide (Below.step (unhide HW0) AV)
  replace HO := hide ((unhide HO).step AV)
  obtain ⟨V2, eV⟩ : ∃ X, X = V.alloc (.cells #[.int .i64 0, .int .i64 0, .int .i64 0, .int .i64 0, .int .i64 0, .int .i64 0, .int .i64 0, .int .i64 0, .int .i64 0, .int .i64 0] 87) := ⟨_, rfl⟩
  rw [← eV] at HO HW0 HB0 ⊢
  clear eV AV
  rw [hVs] at HB0 hgr
  obtain ⟨gr, egr⟩ : ∃ g, g = w.heap.size + 1 := ⟨_, rfl⟩
  rw [← egr] at HB0 hgr ⊢
  clear egr hVs
  obtain ⟨gb, egb⟩ : ∃ g, g = w.heap.size := ⟨_, rfl⟩
  rw [← egb] at HO hgr ⊢
  have hgb : w.heap.size ≤ gb := by omega
  clear egb
  have hne1 : ¬ gb = gr := by omega
  have hne2 : ¬ gr = gb := by omega
  have HB1 : Hid (OwnV V2 gr (ints (bnds 10 (L.take 0)))) := by
    have h9 := unhide HB0
    have e9 : ints (bnds 10 (L.take 0)) = #[.int .i64 0, .int .i64 0, .int .i64 0, .int .i64 0, .int .i64 0, .int .i64 0, .int .i64 0, .int .i64 0, .int .i64 0, .int .i64 0].toList := by rw [List.take_zero, bnds_nil]; rfl
    show OwnV _ _ _
    rw [e9]
    exact h9
  clear HB0
  go_loopg [27] L.length (fun g iv wr => ∃ k : Nat, k ≤ L.length ∧ g = L.length - k ∧ iv = .int .i64 k ∧ Hid (Below w.heap.size w wr) ∧ Hid (OwnV wr gb [.slice ao L.length cap, .slice fo T.length fcap, .int .i64 tk]) ∧ Hid (OwnV wr gr (ints (bnds 10 (L.take k)))) ∧ Hid (∀ r, r < k → RwOk T.length L r))
  case atStart => exact ⟨0, Nat.zero_le _, rfl, rfl, HW0, HO, HB1, fun r hr => by omega⟩
  case round =>
    clear HO HW0 HB1
    obtain ⟨k, hk, rfl, rfl, HW, HO, HB, HD⟩ := hrel
    by_cases hkn : k < L.length
    · obtain ⟨bb, o, id, ow, ma, va, ra, st, bo, rfl, hc0, hc1, hc2, hc3, hc4, hc5, hc6, EX⟩ := recLotAt (unhide HL) hkn
      have hki : (k : Int) < L.length := by omega
      have g0 := wcell3 hc0 (unhide HW)
      have g1 := wcell3 hc1 (unhide HW)
      have g2 := wcell3 hc2 (unhide HW)
      have g3 := wcell3 hc3 (unhide HW)
      have g4 := wcell3 hc4 (unhide HW)
      have g5 := wcell3 hc5 (unhide HW)
      have g6 := wcell3 hc6 (unhide HW)
      have AL := Below.alloc1 wr (.cells #[.int .i64 id, .int .i64 ow, .int .i64 ma, .int .i64 va, .int .i64 ra, .int .i64 st, .int .i64 bo] 39)
      have hgrw := (unhide HB).lt
      have HWA := hide (Below.step (unhide HW) AL)
      have HOA := hide ((unhide HO).step AL)
      have HBA := hide ((unhide HB).step AL)
      have HX := hide (ownV_alloc wr #[.int .i64 id, .int .i64 ow, .int .i64 ma, .int .i64 va, .int .i64 ra, .int .i64 st, .int .i64 bo] 39)
      have ERW : Hid (RwOk T.length L k ↔ (lotB T.length (id, ow, ma, va, ra, st, bo) = true ∧ (k = 0 ∨ lId L (k - 1) < id))) := by
        show _ ↔ _
        unfold RwOk
        rw [show lId L k = id by unfold lId; rw [unhide EX], unhide EX, lotB_iff]
      have HRK := hide (unhide HROW k hkn)
      have HDN : Hid (RwOk T.length L k → ∀ r, r < k + 1 → RwOk T.length L r) := fun h r hr => by
        by_cases e : r = k
        · rw [e]; exact h
        · exact unhide HD r (by omega)
      have HBN : Hid (∀ j : Nat, j < 10 → ow = (j : Int) → (bnds 10 (L.take k)).set j (bsum (j : Int) (L.take k) + bo) = bnds 10 (L.take (k + 1))) := fun j hj e => by
        have := bnds_succ (m := 10) hkn hj (by rw [unhide EX]; exact e)
        rw [unhide EX] at this
        exact this
      have HBB : Hid (∀ j : Nat, 0 ≤ bsum (j : Int) (L.take k) ∧ bsum (j : Int) (L.take k) ≤ 5000000000000 * k) := fun j => bsum_bd (n := T.length) (j : Int) L k hk (fun i hi => (unhide HD i hi).1)
      clear hc0 hc1 hc2 hc3 hc4 hc5 hc6 AL HW HO HB HD EX
      have Q1 := hide fun V => unhide HLO id ow ma va ra st bo T.length V (by omega)
      go_upto_region 7 with (fail)
      obtain ⟨V1, eV⟩ : ∃ z, z = wr.alloc (.cells #[.int .i64 id, .int .i64 ow, .int .i64 ma, .int .i64 va, .int .i64 ra, .int .i64 st, .int .i64 bo] 39) := ⟨_, rfl⟩
      rw [← eV] at HWA HOA HBA HX ⊢
      clear eV g0 g1 g2 g3 g4 g5 g6
      obtain ⟨gx, egx⟩ : ∃ g, g = wr.heap.size := ⟨_, rfl⟩
      rw [← egx] at HX hgrw ⊢
      have hne3 : ¬ gx = gr := by omega
      have hne4 : ¬ gr = gx := by omega
      clear egx hgrw
      obtain ⟨C, eC⟩ : ∃ C, C = (lotB T.length (id, ow, ma, va, ra, st, bo) && (decide (k = 0) || decide (lId L (k - 1) < id))) := ⟨_, rfl⟩
      have EC := hide eC
      clear eC
      go_cut [53] (fun sv wx => sv = .bool (!C) ∧ Hid (Below V1.heap.size V1 wx))
      case first =>
        cases h1 : lotB T.length (id, ow, ma, va, ra, st, bo) with
        | false =>
          rw [h1] at Q1
          have HCv : Hid (C = false) := by show _ = _; rw [unhide EC]; simp [h1]
          have gd0 := fun x' : Gr V1 => gr_cell ((unhide HX).cell (i := 0) rfl) x'
          have gd1 := fun x' : Gr V1 => gr_cell ((unhide HX).cell (i := 1) rfl) x'
          have gd2 := fun x' : Gr V1 => gr_cell ((unhide HX).cell (i := 2) rfl) x'
          have gd3 := fun x' : Gr V1 => gr_cell ((unhide HX).cell (i := 3) rfl) x'
          have gd4 := fun x' : Gr V1 => gr_cell ((unhide HX).cell (i := 4) rfl) x'
          have gd5 := fun x' : Gr V1 => gr_cell ((unhide HX).cell (i := 5) rfl) x'
          have gd6 := fun x' : Gr V1 => gr_cell ((unhide HX).cell (i := 6) rfl) x'
          have gq0 := fun x' : Gr V1 => gr_cell ((unhide HOA).cell (i := 0) rfl) x'
          have gq1 := fun x' : Gr V1 => gr_cell ((unhide HOA).cell (i := 1) rfl) x'
          have gsome := gr_some V1
          refine wp_region_grown (by kernel_rfl) (by kernel_rfl) ?_
          repeat (go_big_quiet_step (fail))
          go_big_quiet_want
          go_big_quiet_op
          go_big_quiet_call (exact calls_grown (unhide Q1 _))
          repeat (go_big_quiet_step (fail))
          refine wpQuiet_nil ?_
          intro wz hw1
          obtain ⟨z', hz⟩ := hw1
          have hb : Below V1.heap.size V1 wz := hz ▸ z'.ok
          clear hz z' gsome gd0 gd1 gd2 gd3 gd4 gd5 gd6 gq0 gq1
          have HBZ := hide hb
          clear hb
          go_wp2
          go_meet
          exact ⟨by rw [unhide HCv]; rfl, HBZ⟩
        | true =>
          rw [h1] at Q1
          by_cases hk0 : k = 0
          · have dk : decide ((0 : Int) < (k : Int)) = false := by rw [decide_eq_false_iff_not]; omega
            have dkN : decide (0 < k) = false := by rw [decide_eq_false_iff_not]; omega
            have dkk : decide (k = 0) = true := by simpa using hk0
            clear hk0
            have HCv : Hid (C = true) := by show _ = _; rw [unhide EC]; simp [h1, dkk]
            have gd0 := fun x' : Gr V1 => gr_cell ((unhide HX).cell (i := 0) rfl) x'
            have gd1 := fun x' : Gr V1 => gr_cell ((unhide HX).cell (i := 1) rfl) x'
            have gd2 := fun x' : Gr V1 => gr_cell ((unhide HX).cell (i := 2) rfl) x'
            have gd3 := fun x' : Gr V1 => gr_cell ((unhide HX).cell (i := 3) rfl) x'
            have gd4 := fun x' : Gr V1 => gr_cell ((unhide HX).cell (i := 4) rfl) x'
            have gd5 := fun x' : Gr V1 => gr_cell ((unhide HX).cell (i := 5) rfl) x'
            have gd6 := fun x' : Gr V1 => gr_cell ((unhide HX).cell (i := 6) rfl) x'
            have gq0 := fun x' : Gr V1 => gr_cell ((unhide HOA).cell (i := 0) rfl) x'
            have gq1 := fun x' : Gr V1 => gr_cell ((unhide HOA).cell (i := 1) rfl) x'
            have gsome := gr_some V1
            refine wp_region_grown (by kernel_rfl) (by kernel_rfl) ?_
            repeat (go_big_quiet_step (fail))
            go_big_quiet_want
            go_big_quiet_op
            go_big_quiet_call (exact calls_grown (unhide Q1 _))
            repeat (go_big_quiet_step (fail))
            refine wpQuiet_nil ?_
            intro wz hw1
            obtain ⟨z', hz⟩ := hw1
            have hb : Below V1.heap.size V1 wz := hz ▸ z'.ok
            clear hz z' gsome gd0 gd1 gd2 gd3 gd4 gd5 gd6 gq0 gq1
            have HBZ := hide hb
            clear hb
            go_wp2
            go_meet
            exact ⟨by rw [unhide HCv]; rfl, HBZ⟩
          · have dk : decide ((0 : Int) < (k : Int)) = true := by rw [decide_eq_true_eq]; omega
            have dkN : decide (0 < k) = true := by rw [decide_eq_true_eq]; omega
            have dkk : decide (k = 0) = false := by simpa using hk0
            obtain ⟨p, ep⟩ : ∃ p, p = k - 1 := ⟨_, rfl⟩
            obtain ⟨bb', o', xp, y1, y2, y3, y4, y5, y6, e', hp0, -, -, -, -, -, -, EX'⟩ := recLotAt (unhide HL) (show p < L.length by omega)
            simp only [Option.some.injEq, Addr.mk.injEq, and_true] at e'
            obtain ⟨rfl, rfl⟩ := e'
            have f0' := wcell3 hp0 (unhide HWA)
            have exp : lId L (k - 1) = xp := by rw [← ep]; unfold lId; rw [unhide EX']
            have q1 : IntKind.i64.wrap ((k : Int) - 1) = (p : Int) := by rw [IntKind.wrap_i64]; omega
            have q2 : (k : Int) - 1 = (p : Int) := by omega
            have hpi : (p : Int) < L.length := by omega
            clear hp0 EX' hk0
            by_cases ho : xp < id
            · have d2 : decide (id ≤ xp) = false := by rw [decide_eq_false_iff_not]; omega
              have d3 : decide (lId L (k - 1) < id) = true := by rw [exp]; simpa using ho
              clear exp ep ho
              have HCv : Hid (C = true) := by show _ = _; rw [unhide EC]; simp [h1, d3]
              have gd0 := fun x' : Gr V1 => gr_cell ((unhide HX).cell (i := 0) rfl) x'
              have gd1 := fun x' : Gr V1 => gr_cell ((unhide HX).cell (i := 1) rfl) x'
              have gd2 := fun x' : Gr V1 => gr_cell ((unhide HX).cell (i := 2) rfl) x'
              have gd3 := fun x' : Gr V1 => gr_cell ((unhide HX).cell (i := 3) rfl) x'
              have gd4 := fun x' : Gr V1 => gr_cell ((unhide HX).cell (i := 4) rfl) x'
              have gd5 := fun x' : Gr V1 => gr_cell ((unhide HX).cell (i := 5) rfl) x'
              have gd6 := fun x' : Gr V1 => gr_cell ((unhide HX).cell (i := 6) rfl) x'
              have gq0 := fun x' : Gr V1 => gr_cell ((unhide HOA).cell (i := 0) rfl) x'
              have gq1 := fun x' : Gr V1 => gr_cell ((unhide HOA).cell (i := 1) rfl) x'
              have gf0 := fun x' : Gr V1 => gr_cell (f0') x'
              have gsome := gr_some V1
              refine wp_region_grown (by kernel_rfl) (by kernel_rfl) ?_
              repeat (go_big_quiet_step (fail))
              go_big_quiet_want
              go_big_quiet_op
              go_big_quiet_call (exact calls_grown (unhide Q1 _))
              repeat (go_big_quiet_step (fail))
              refine wpQuiet_nil ?_
              intro wz hw1
              obtain ⟨z', hz⟩ := hw1
              have hb : Below V1.heap.size V1 wz := hz ▸ z'.ok
              clear hz z' gsome gd0 gd1 gd2 gd3 gd4 gd5 gd6 gq0 gq1 gf0
              have HBZ := hide hb
              clear hb
              go_wp2
              go_meet
              exact ⟨by rw [unhide HCv]; rfl, HBZ⟩
            · have d2 : decide (id ≤ xp) = true := by rw [decide_eq_true_eq]; omega
              have d3 : decide (lId L (k - 1) < id) = false := by rw [exp]; simpa using ho
              clear exp ep ho
              have HCv : Hid (C = false) := by show _ = _; rw [unhide EC]; simp [dkk, d3]
              have gd0 := fun x' : Gr V1 => gr_cell ((unhide HX).cell (i := 0) rfl) x'
              have gd1 := fun x' : Gr V1 => gr_cell ((unhide HX).cell (i := 1) rfl) x'
              have gd2 := fun x' : Gr V1 => gr_cell ((unhide HX).cell (i := 2) rfl) x'
              have gd3 := fun x' : Gr V1 => gr_cell ((unhide HX).cell (i := 3) rfl) x'
              have gd4 := fun x' : Gr V1 => gr_cell ((unhide HX).cell (i := 4) rfl) x'
              have gd5 := fun x' : Gr V1 => gr_cell ((unhide HX).cell (i := 5) rfl) x'
              have gd6 := fun x' : Gr V1 => gr_cell ((unhide HX).cell (i := 6) rfl) x'
              have gq0 := fun x' : Gr V1 => gr_cell ((unhide HOA).cell (i := 0) rfl) x'
              have gq1 := fun x' : Gr V1 => gr_cell ((unhide HOA).cell (i := 1) rfl) x'
              have gf0 := fun x' : Gr V1 => gr_cell (f0') x'
              have gsome := gr_some V1
              refine wp_region_grown (by kernel_rfl) (by kernel_rfl) ?_
              repeat (go_big_quiet_step (fail))
              go_big_quiet_want
              go_big_quiet_op
              go_big_quiet_call (exact calls_grown (unhide Q1 _))
              repeat (go_big_quiet_step (fail))
              refine wpQuiet_nil ?_
              intro wz hw1
              obtain ⟨z', hz⟩ := hw1
              have hb : Below V1.heap.size V1 wz := hz ▸ z'.ok
              clear hz z' gsome gd0 gd1 gd2 gd3 gd4 gd5 gd6 gq0 gq1 gf0
              have HBZ := hide hb
              clear hb
              go_wp2
              go_meet
              exact ⟨by rw [unhide HCv]; rfl, HBZ⟩
      case rest =>
        obtain ⟨rfl, hb⟩ := hcut
        have hb := unhide hb
        replace HWA := hide (Below.step (unhide HWA) hb)
        replace HOA := hide ((unhide HOA).step hb)
        replace HBA := hide ((unhide HBA).step hb)
        replace HX := hide ((unhide HX).step hb)
        clear hb
        cases C with
        | false =>
          have HF : Hid (houseB (L, T, tk) = false) := unhide HRK (by
            rw [unhide ERW]
            intro hh
            have : false = true := by
              have e := unhide EC
              rw [e]
              simp only [Bool.and_eq_true, Bool.or_eq_true, decide_eq_true_eq]
              exact hh
            cases this)
          go_wp2
          go_ret
          exact ⟨by rw [unhide HF]; rfl, unhide HWA⟩
        | true =>
          have hC := (unhide EC).symm
          simp only [Bool.and_eq_true, Bool.or_eq_true, decide_eq_true_eq] at hC
          have hLO := (lotB_iff _ _).1 hC.1
          have hdb := lot_bond hLO
          have p3' := hLO.2.2.1
          dsimp only at hdb p3'
          have HR2 := hide (unhide HDN ((unhide ERW).2 hC))
          clear hC hLO
          obtain ⟨j, ej⟩ : ∃ j : Nat, ow = (j : Int) := ⟨ow.toNat, by omega⟩
          subst ej
          have hj : j < 10 := by omega
          have hji : (j : Int) < 10 := by omega
          have hsb := unhide HBB j
          have HN := hide (unhide HBN j hj rfl)
          have cj := (unhide HBA).cell (ints_get (bnds 10 (L.take k)) (i := j) (by rw [bnds_len]; exact hj))
          rw [bnds_get hj] at cj
          obtain ⟨bj, ebj⟩ : ∃ x, x = bsum (j : Int) (L.take k) := ⟨_, rfl⟩
          rw [← ebj] at cj HN hsb
          clear ebj EC HBB HBN HRK ERW HDN Q1
          have fr := (unhide HBA).frozen
          have d1' := (unhide HX).cell (i := 1) rfl
          have d6' := (unhide HX).cell (i := 6) rfl
          have e9 : IntKind.i64.wrap (bj + bo) = bj + bo := by rw [IntKind.wrap_i64]; omega
          go_wp2
          go_region
          all_goals
            go_wp2
            go_roundg (L.length - (k + 1))
            case measure => omega
            case rel =>
              refine ⟨k + 1, by omega, rfl, by go_num, hide ?_, hide ?_, hide ?_, HR2⟩
              · exact Below.setCell (below_drewN (unhide HWA) _) (p := ⟨gr, j, none⟩) (by show w.heap.size ≤ gr; omega) _
              · exact (unhide HOA).other (a := ⟨gr, j, none⟩) hne1 _
              · rw [← unhide HN]; exact ownIntsSet (unhide HBA) j _ (by rw [bnds_len]; exact hj)
    · have HLS : Hid (∀ r, r < L.length → RwOk T.length L r) := fun r hr => unhide HD r (by omega)
      have ek : k = L.length := by omega
      have hBD : ∀ j : Nat, 0 ≤ bsum (j : Int) L := fun j => by have := (bsum_bd (n := T.length) (j : Int) L L.length (Nat.le_refl _) (fun i hi => (unhide HLS i hi).1)).1; rwa [List.take_length] at this
      rw [ek, List.take_length] at HB
      clear HD ek
      have q1' := (unhide HO).cell (i := 1) rfl
      go_wp2
      clear q1'
      generalize wr = w2 at *
      go_loopg [66] T.length (fun g iv wr => ∃ k : Nat, k ≤ T.length ∧ g = T.length - k ∧ iv = .int .i64 k ∧ Hid (Below w.heap.size w wr) ∧ Hid (OwnV wr gb [.slice ao L.length cap, .slice fo T.length fcap, .int .i64 tk]) ∧ Hid (OwnV wr gr (ints (bnds 10 L))) ∧ Hid (∀ r, r < k → TOk (T.getD r default) ∧ (T.getD r default).2.2 = bsum (r : Int) L))
      case atStart => exact ⟨0, Nat.zero_le _, rfl, rfl, HW, HO, HB, fun r hr => by omega⟩
      case round =>
        clear HO HW HB
        obtain ⟨k, hk, rfl, rfl, HW, HO, HB, HD⟩ := hrel
        by_cases hkn : k < T.length
        · obtain ⟨bb, o, mo, bn, bd, rfl, hc0, hc1, hc2, EX⟩ := recTrAt (unhide HT) hkn
          have hki : (k : Int) < T.length := by omega
          have g0 := wcell3 hc0 (unhide HW)
          have g1 := wcell3 hc1 (unhide HW)
          have g2 := wcell3 hc2 (unhide HW)
          have AL := Below.alloc1 wr (.cells #[.int .i64 mo, .int .i64 bn, .int .i64 bd] 37)
          have hgrw := (unhide HB).lt
          have HWA := hide (Below.step (unhide HW) AL)
          have HOA := hide ((unhide HO).step AL)
          have HBA := hide ((unhide HB).step AL)
          have HX := hide (ownV_alloc wr #[.int .i64 mo, .int .i64 bn, .int .i64 bd] 37)
          have ck := (unhide HBA).cell (ints_get (bnds 10 L) (i := k) (by rw [bnds_len]; omega))
          rw [bnds_get (show k < 10 by omega)] at ck
          have hk10 : (k : Int) < 10 := by omega
          obtain ⟨bk, ebk⟩ : ∃ x, x = bsum (k : Int) L := ⟨_, rfl⟩
          rw [← ebk] at ck
          have ETR : Hid ((TOk (T.getD k default) ∧ (T.getD k default).2.2 = bsum (k : Int) L) = (TOk (mo, bn, bd) ∧ bd = bk)) := by
            show _ = _
            rw [unhide EX, ebk]
          have HRK := hide (unhide HTR k hkn)
          rw [unhide ETR] at HRK
          have HDN : Hid ((TOk (mo, bn, bd) ∧ bd = bk) → ∀ r, r < k + 1 → TOk (T.getD r default) ∧ (T.getD r default).2.2 = bsum (r : Int) L) := fun h r hr => by
            by_cases e : r = k
            · rw [e, unhide ETR]; exact h
            · exact unhide HD r (by omega)
          clear hc0 hc1 hc2 AL HW HO HB HD ETR ebk EX
          have Q1 := hide fun V => unhide HTO mo bn bd V
          go_upto_region 14 with (fail)
          obtain ⟨V1, eV⟩ : ∃ z, z = wr.alloc (.cells #[.int .i64 mo, .int .i64 bn, .int .i64 bd] 37) := ⟨_, rfl⟩
          rw [← eV] at HWA HOA HBA HX ck ⊢
          clear eV g0 g1 g2
          obtain ⟨gx, egx⟩ : ∃ g, g = wr.heap.size := ⟨_, rfl⟩
          rw [← egx] at HX ⊢
          clear egx hgrw
          cases h1 : trB (mo, bn, bd) with
          | false =>
            rw [h1] at Q1
            have HF : Hid (houseB (L, T, tk) = false) := unhide HRK (fun hh => by have := (trB_iff _).2 hh.1; rw [h1] at this; cases this)
            have gd0 := fun x' : Gr V1 => gr_cell ((unhide HX).cell (i := 0) rfl) x'
            have gd1 := fun x' : Gr V1 => gr_cell ((unhide HX).cell (i := 1) rfl) x'
            have gd2 := fun x' : Gr V1 => gr_cell ((unhide HX).cell (i := 2) rfl) x'
            have gck := fun x' : Gr V1 => gr_cell (ck) x'
            have gsome := gr_some V1
            refine wp_region_grown (by kernel_rfl) (by kernel_rfl) ?_
            repeat (go_big_quiet_step (fail))
            go_big_quiet_want
            go_big_quiet_op
            go_big_quiet_call (exact calls_grown (unhide Q1 _))
            repeat (go_big_quiet_step (fail))
            refine wpQuiet_nil ?_
            intro wz hw1
            obtain ⟨z', hz⟩ := hw1
            have hb : Below V1.heap.size V1 wz := hz ▸ z'.ok
            clear hz z' gsome gd0 gd1 gd2 gck
            have HBZ := hide (Below.step (unhide HWA) hb)
            clear hb
            go_wp2
            go_ret
            exact ⟨by rw [unhide HF]; rfl, unhide HBZ⟩
          | true =>
          rw [h1] at Q1
          by_cases h4 : bd = bk
          · have d4 : (bd != bk) = false := by simpa using h4
            have HG := hide (unhide HDN ⟨(trB_iff _).1 h1, h4⟩)
            clear h4 HDN HRK
            have gd0 := fun x' : Gr V1 => gr_cell ((unhide HX).cell (i := 0) rfl) x'
            have gd1 := fun x' : Gr V1 => gr_cell ((unhide HX).cell (i := 1) rfl) x'
            have gd2 := fun x' : Gr V1 => gr_cell ((unhide HX).cell (i := 2) rfl) x'
            have gck := fun x' : Gr V1 => gr_cell (ck) x'
            have gsome := gr_some V1
            refine wp_region_grown (by kernel_rfl) (by kernel_rfl) ?_
            repeat (go_big_quiet_step (fail))
            go_big_quiet_want
            go_big_quiet_op
            go_big_quiet_call (exact calls_grown (unhide Q1 _))
            repeat (go_big_quiet_step (fail))
            refine wpQuiet_nil ?_
            intro wz hw1
            obtain ⟨z', hz⟩ := hw1
            have hb : Below V1.heap.size V1 wz := hz ▸ z'.ok
            clear hz z' gsome gd0 gd1 gd2 gck
            replace HOA := hide ((unhide HOA).step hb)
            replace HBA := hide ((unhide HBA).step hb)
            have HBZ := hide (Below.step (unhide HWA) hb)
            clear hb
            go_wp2
            go_roundg (T.length - (k + 1))
            case measure => omega
            case rel => exact ⟨k + 1, by omega, rfl, by go_num, HBZ, HOA, HBA, HG⟩
          · have d4 : (bd != bk) = true := by simpa using h4
            have HF : Hid (houseB (L, T, tk) = false) := unhide HRK (fun hh => h4 hh.2)
            clear h4 HDN HRK
            have gd0 := fun x' : Gr V1 => gr_cell ((unhide HX).cell (i := 0) rfl) x'
            have gd1 := fun x' : Gr V1 => gr_cell ((unhide HX).cell (i := 1) rfl) x'
            have gd2 := fun x' : Gr V1 => gr_cell ((unhide HX).cell (i := 2) rfl) x'
            have gck := fun x' : Gr V1 => gr_cell (ck) x'
            have gsome := gr_some V1
            refine wp_region_grown (by kernel_rfl) (by kernel_rfl) ?_
            repeat (go_big_quiet_step (fail))
            go_big_quiet_want
            go_big_quiet_op
            go_big_quiet_call (exact calls_grown (unhide Q1 _))
            repeat (go_big_quiet_step (fail))
            refine wpQuiet_nil ?_
            intro wz hw1
            obtain ⟨z', hz⟩ := hw1
            have hb : Below V1.heap.size V1 wz := hz ▸ z'.ok
            clear hz z' gsome gd0 gd1 gd2 gck
            have HBZ := hide (Below.step (unhide HWA) hb)
            clear hb
            go_wp2
            go_ret
            exact ⟨by rw [unhide HF]; rfl, unhide HBZ⟩
        · have HF : Hid (houseB (L, T, tk) = true) := unhide HALL (unhide HLS) (fun r hr => unhide HD r (by omega))
          go_wp2
          go_ret
          exact ⟨by rw [unhide HF]; rfl, unhide HW⟩

end Go.Proofs.Ytojlkdmlelgcbaa

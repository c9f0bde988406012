/- Customs: words for both HouseOk; the contract of the specification's. Written by wip/mkcsf.py. -/
import Derived.Test.YtojlkdmlelgcbaaCsA
import Derived.Deep.QuietTactic
import Derived.BigQuiet
import Derived.Deep.DeepCutAuto
import Derived.Deep.Cut
import Derived.BigRegion
namespace Go.Proofs.Ytojlkdmlelgcbaa
open Go.RowKit

/-- What the lots bind of the bonds of the first m owners. -/
def bnds (m : Nat) (L : List LotT) : List Int := (List.range m).map fun j : Nat => bsum (j : Int) L
theorem bnds_len (m : Nat) (L : List LotT) : (bnds m L).length = m := by simp [bnds]
theorem bnds_get {m : Nat} {L : List LotT} {j : Nat} (h : j < m) : (bnds m L).getD j 0 = bsum (j : Int) L := by
  have : j < ((List.range m).map fun j : Nat => bsum (j : Int) L).length := by simpa using h
  unfold bnds
  rw [getD_lt this]
  simp
theorem bnds_nil (m : Nat) : bnds m [] = List.replicate m 0 := by
  apply List.ext_getElem?
  intro i
  by_cases h : i < m
  · simp [bnds, h, bsum]
  · simp [bnds, h]
theorem bnds_succ {m : Nat} {L : List LotT} {k j : Nat} (hk : k < L.length) (hj : j < m) (ho : (L.getD k default).2.1 = (j : Int)) : (bnds m (L.take k)).set j (bsum (j : Int) (L.take k) + (L.getD k default).2.2.2.2.2.2) = bnds m (L.take (k + 1)) := by
  apply List.ext_getElem?
  intro i
  by_cases hi : i < m
  · by_cases e : i = j
    · subst e
      rw [List.getElem?_set_self (by rw [bnds_len]; exact hi)]
      simp only [bnds, List.getElem?_map, List.getElem?_range hi, Option.map_some]
      rw [bsum_succ _ L hk, if_pos ho]
    · rw [List.getElem?_set_ne (fun h => e h.symm)]
      simp only [bnds, List.getElem?_map, List.getElem?_range hi, Option.map_some]
      rw [bsum_succ _ L hk, if_neg (fun h => e (by omega)), Int.add_zero]
  · rw [List.getElem?_eq_none (by rw [List.length_set, bnds_len]; omega), List.getElem?_eq_none (by rw [bnds_len]; omega)]
def RwOk (n : Nat) (L : List LotT) (k : Nat) : Prop := LOk n (L.getD k default) ∧ (k = 0 ∨ lId L (k - 1) < lId L k)
theorem house_row {L : List LotT} {T : List TraderT} {tk : Int} {k : Nat} (hk : k < L.length) (h : ¬ RwOk T.length L k) : houseB (L, T, tk) = false := house_not fun hh => h ⟨hh.lots k hk, hh.asc k hk⟩
theorem house_tr {L : List LotT} {T : List TraderT} {tk : Int} {k : Nat} (hk : k < T.length) (h : ¬ (TOk (T.getD k default) ∧ (T.getD k default).2.2 = bsum (k : Int) L)) : houseB (L, T, tk) = false := house_not fun hh => h (hh.trs k hk)
theorem house_all {L : List LotT} {T : List TraderT} {tk : Int} (h1 : L.length ≤ 40) (h2 : T.length ≤ 10) (h3 : inB tk 0 1000000000000000 = true) (h4 : ∀ r, r < L.length → RwOk T.length L r) (h5 : ∀ r, r < T.length → TOk (T.getD r default) ∧ (T.getD r default).2.2 = bsum (r : Int) L) : houseB (L, T, tk) = true :=
  house_yes ⟨h1, h2, inB_true h3, fun i hi => (h4 i hi).1, fun i hi => (h4 i hi).2, h5⟩
theorem Try.infoIntH : (Try.prog.info? 3).map (fun i => (i.zero, i.size, i.bytes)) = some (some (Value.int .i64 0), 1, 8) := by kernel_rfl
theorem made_ints (w : World) (n : Nat) (t : TypeId) : OwnV (w.alloc (.cells (madeCells (Value.int .i64 0).cells n) t)) w.heap.size (ints (List.replicate n 0)) := by
  have h : (w.alloc (.cells (madeCells (Value.int .i64 0).cells n) t)).rowIs w.heap.size t n (fun _ => .int .i64 0) := (World.rowIs_made w _ n t).congr (fun j _ => by simp)
  exact rowIs_ownV h (by simp [ints]) (fun i hi => by simp [ints, hi])
theorem ownIntsSet {w : World} {g : Nat} {xs : List Int} (h : OwnV w g (ints xs)) (j : Nat) (u : Int) (hj : j < xs.length) : OwnV (w.setCell ⟨g, j, none⟩ (.int .i64 u)) g (ints (xs.set j u)) := by
  rw [← ints_set]
  exact h.set j _ (by rw [ints_length]; exact hj)
theorem recTrAt {w : World} {ao : Option Addr} {L : List TraderT} {k : Nat} (h : ∀ i, i < L.length → ∃ b o, ao = some ⟨b, o, none⟩ ∧ ∀ j, j < 3 → w.cell? ⟨b, o + (i * 3 + j), none⟩ = some (eTrader (L.getD i default) j)) (hk : k < L.length) :
    ∃ b o x0 x1 x2, ao = some ⟨b, o, none⟩ ∧ w.cell? ⟨b, o + k * 3, none⟩ = some (.int .i64 x0) ∧ w.cell? ⟨b, o + k * 3 + 1, none⟩ = some (.int .i64 x1) ∧ w.cell? ⟨b, o + k * 3 + 2, none⟩ = some (.int .i64 x2) ∧ Hid (L.getD k default = (x0, x1, x2)) := by
  obtain ⟨b, o, e, hc⟩ := h k hk
  exact ⟨b, o, _, _, _, e, hc 0 (by omega), hc 1 (by omega), hc 2 (by omega), rfl⟩

set_option maxRecDepth 100000 in
set_option maxHeartbeats 12800000 in
theorem specHouseOk_any (lv tv : Value) (L : List LotT) (T : List TraderT) (tk : Int) (w : World) (h : HsIn w lv tv (L, T, tk)) :
    Calls Try.prog 20 #[vHouse lv tv tk] w fun e w' => e = .returned (.bool (houseB (L, T, tk))) ∧ Below w.heap.size w w' := by
  obtain ⟨h1, h2⟩ := h
  dsimp only at h1 h2
  obtain ⟨ao, cap, rfl, hl, hm, hcl⟩ := h1
  obtain ⟨fo, fcap, rfl, hfl, hfm, hct⟩ := h2
  unfold maxLen at hm hfm
  have A := Below.alloc1 w (.cells #[.slice ao L.length cap, .slice fo T.length fcap, .int .i64 tk] 27)
  have HO := hide (ownV_alloc w #[.slice ao L.length cap, .slice fo T.length fcap, .int .i64 tk] 27)
  have HL := hide hcl
  have HT := hide hct
  have HW0 := hide A
  have HIn := hide fun (x a b : Int) V => l1In_any x a b V
  have HDU := hide fun m v r V => specDuty6_any m v r V
  have HROW := hide fun k hk h => house_row (L := L) (T := T) (tk := tk) (k := k) hk h
  have HTR := hide fun k hk h => house_tr (L := L) (T := T) (tk := tk) (k := k) hk h
  clear hcl hct A
  unfold vHouse
  by_cases b1 : ¬ L.length ≤ 40
  · have HB : Hid (houseB (L, T, tk) = false) := house_not fun hh => b1 hh.nl
    have d1 : decide (40 < (L.length : Int)) = true := by rw [decide_eq_true_eq]; omega
    go_enter Try.func20, Try.ntmps20
    go_wp2
    go_ret
    exact ⟨by rw [unhide HB]; rfl, unhide HW0⟩
  replace b1 := Decidable.not_not.1 b1
  have d1 : decide (40 < (L.length : Int)) = false := by rw [decide_eq_false_iff_not]; omega
  have i1 : ¬ (40 < (L.length : Int)) := by omega
  by_cases b2 : ¬ T.length ≤ 10
  · have HB : Hid (houseB (L, T, tk) = false) := house_not fun hh => b2 hh.nt
    have d2 : decide (10 < (T.length : Int)) = true := by rw [decide_eq_true_eq]; omega
    go_enter Try.func20, Try.ntmps20
    go_wp2
    go_ret
    exact ⟨by rw [unhide HB]; rfl, unhide HW0⟩
  replace b2 := Decidable.not_not.1 b2
  have d2 : decide (10 < (T.length : Int)) = false := by rw [decide_eq_false_iff_not]; omega
  have i2 : ¬ (10 < (T.length : Int)) := by omega
  cases b3 : inB tk 0 1000000000000000 with
  | false =>
    have HB : Hid (houseB (L, T, tk) = false) := house_not fun hh => by have := inB_mk hh.tk.1 hh.tk.2; rw [b3] at this; cases this
    go_enter Try.func20, Try.ntmps20
    go_wp2_with (go_at_call 51; refine (unhide HIn _ _ _ _).mono ?_; rintro e w9 ⟨rfl, h9⟩; have h8 := h9.symm; subst h8; clear h9)
    go_ret
    exact ⟨by rw [unhide HB]; rfl, unhide HW0⟩
  | true =>
  have HALL := hide fun h4 h5 => house_all (L := L) (T := T) (tk := tk) b1 b2 b3 h4 h5
  have hmk := run_make_recs (P := Try.prog) 40 3 _ 1 8 Try.underlying40 Try.infoIntH .i64 .i64 T.length (by omega) (by omega)
  have HMK := hide fun (V : World) (n : Nat) => made_ints V n 3
  obtain ⟨Z, eZ⟩ : ∃ Z, Z = (Value.int .i64 0).cells := ⟨_, rfl⟩
  rw [← eZ] at hmk HMK
  rw [Nat.mul_one] at hmk
  clear eZ
  go_enter Try.func20, Try.ntmps20
  go_wp2_with (go_at_call 51; refine (unhide HIn _ _ _ _).mono ?_; rintro e w9 ⟨rfl, h9⟩; have h8 := h9.symm; subst h8; clear h9)
  obtain ⟨V, eV⟩ : ∃ V, V = w.alloc (.cells #[.slice ao L.length cap, .slice fo T.length fcap, .int .i64 tk] 27) := ⟨_, rfl⟩
  have hVs : V.heap.size = w.heap.size + 1 := by rw [eV, World.size_alloc]
  rw [← eV] at HO HW0 ⊢
  clear eV
  have HB0 := hide (unhide HMK V T.length)
  have AV := Below.alloc1 V (.cells (madeCells Z T.length) 3)
  have hgr : w.heap.size < V.heap.size := (unhide HO).lt
  replace HW0 := hide (Below.step (unhide HW0) AV)
  replace HO := hide ((unhide HO).step AV)
  obtain ⟨V2, eV⟩ : ∃ X, X = V.alloc (.cells (madeCells Z T.length) 3) := ⟨_, rfl⟩
  rw [← eV] at HO HW0 HB0 ⊢
  clear eV AV HMK hmk
  rw [hVs] at HB0 hgr
  obtain ⟨gr, egr⟩ : ∃ g, g = w.heap.size + 1 := ⟨_, rfl⟩
  rw [← egr] at HB0 hgr ⊢
  clear egr hVs
  obtain ⟨gb, egb⟩ : ∃ g, g = w.heap.size := ⟨_, rfl⟩
  rw [← egb] at HO hgr ⊢
  have hgb : w.heap.size ≤ gb := by omega
  clear egb
  have hne1 : ¬ gb = gr := by omega
  have hne2 : ¬ gr = gb := by omega
  rw [← bnds_nil] at HB0
  go_loopg [4] L.length (fun g iv wr => ∃ k : Nat, k ≤ L.length ∧ g = L.length - k ∧ iv = .int .i64 k ∧ Hid (Below w.heap.size w wr) ∧ Hid (OwnV wr gb [.slice ao L.length cap, .slice fo T.length fcap, .int .i64 tk]) ∧ Hid (OwnV wr gr (ints (bnds T.length (L.take k)))) ∧ Hid (∀ r, r < k → RwOk T.length L r))
  case atStart => exact ⟨0, Nat.zero_le _, rfl, rfl, HW0, HO, HB0, fun r hr => by omega⟩
  case round =>
    clear HO HW0 HB0
    obtain ⟨k, hk, rfl, rfl, HW, HO, HB, HD⟩ := hrel
    have q0 := (unhide HO).cell (i := 0) rfl
    by_cases hkn : k < L.length
    · obtain ⟨bb, o, id, ow, ma, va, ra, st, bo, rfl, hc0, hc1, hc2, hc3, hc4, hc5, hc6, EX⟩ := recLotAt (unhide HL) hkn
      have hki : (k : Int) < L.length := by omega
      have g0 := wcell3 hc0 (unhide HW)
      have g1 := wcell3 hc1 (unhide HW)
      have g2 := wcell3 hc2 (unhide HW)
      have g3 := wcell3 hc3 (unhide HW)
      have g4 := wcell3 hc4 (unhide HW)
      have g5 := wcell3 hc5 (unhide HW)
      have g6 := wcell3 hc6 (unhide HW)
      have AL := Below.alloc1 wr (.cells #[.int .i64 id, .int .i64 ow, .int .i64 ma, .int .i64 va, .int .i64 ra, .int .i64 st, .int .i64 bo] 39)
      have hgrw := (unhide HB).lt
      have HWA := hide (Below.step (unhide HW) AL)
      have HOA := hide ((unhide HO).step AL)
      have HBA := hide ((unhide HB).step AL)
      have HX := hide (ownV_alloc wr #[.int .i64 id, .int .i64 ow, .int .i64 ma, .int .i64 va, .int .i64 ra, .int .i64 st, .int .i64 bo] 39)
      have ERW : Hid (RwOk T.length L k = (LOk T.length (id, ow, ma, va, ra, st, bo) ∧ (k = 0 ∨ lId L (k - 1) < id))) := by
        show _ = _
        unfold RwOk
        rw [show lId L k = id by unfold lId; rw [unhide EX], unhide EX]
      have HRK := hide (unhide HROW k hkn)
      have HDN : Hid (RwOk T.length L k → ∀ r, r < k + 1 → RwOk T.length L r) := fun h r hr => by
        by_cases e : r = k
        · rw [e]; exact h
        · exact unhide HD r (by omega)
      have HBN : Hid (∀ j : Nat, j < T.length → ow = (j : Int) → (bnds T.length (L.take k)).set j (bsum (j : Int) (L.take k) + bo) = bnds T.length (L.take (k + 1))) := fun j hj e => by
        have := bnds_succ (m := T.length) hkn hj (by rw [unhide EX]; exact e)
        rw [unhide EX] at this
        exact this
      have HBB : Hid (∀ j : Nat, 0 ≤ bsum (j : Int) (L.take k) ∧ bsum (j : Int) (L.take k) ≤ 5000000000000 * k) := fun j => bsum_bd (n := T.length) (j : Int) L k hk (fun i hi => (unhide HD i hi).1)
      clear hc0 hc1 hc2 hc3 hc4 hc5 hc6 AL HW HO HB HD
      have Q0 := hide fun V => unhide HDU ma va ra V
      have Q1 := hide fun V => unhide HIn id 1 1000000 V
      have Q2 := hide fun V => unhide HIn ow 0 ((T.length : Int) - 1) V
      have Q3 := hide fun V => unhide HIn st 1 5 V
      go_upto_region 8 with (fail)
      obtain ⟨V1, eV⟩ : ∃ z, z = wr.alloc (.cells #[.int .i64 id, .int .i64 ow, .int .i64 ma, .int .i64 va, .int .i64 ra, .int .i64 st, .int .i64 bo] 39) := ⟨_, rfl⟩
      rw [← eV] at HWA HOA HBA HX ⊢
      clear eV g0 g1 g2 g3 g4 g5 g6 q0
      obtain ⟨gx, egx⟩ : ∃ g, g = wr.heap.size := ⟨_, rfl⟩
      rw [← egx] at HX hgrw ⊢
      have hne3 : ¬ gx = gr := by omega
      have hne4 : ¬ gr = gx := by omega
      clear egx hgrw
      have q0 := (unhide HOA).cell (i := 0) rfl
      have q1' := (unhide HOA).cell (i := 1) rfl
      have d0 := (unhide HX).cell (i := 0) rfl
      have d1' := (unhide HX).cell (i := 1) rfl
      have d2' := (unhide HX).cell (i := 2) rfl
      have d3' := (unhide HX).cell (i := 3) rfl
      have d4' := (unhide HX).cell (i := 4) rfl
      have d5' := (unhide HX).cell (i := 5) rfl
      have d6' := (unhide HX).cell (i := 6) rfl
      obtain ⟨C, eC⟩ : ∃ C, C = (dutB ma va ra && inB id 1 1000000 && (decide (k = 0) || decide (lId L (k - 1) < id)) && inB ow 0 ((T.length : Int) - 1) && inB st 1 5) := ⟨_, rfl⟩
      have EC := hide eC
      clear eC
      obtain ⟨du, edu⟩ : ∃ x, x = dutV ma va ra := ⟨_, rfl⟩
      rw [← edu] at Q0
      have EDU := hide edu
      clear edu
      go_wp2_with fail
      refine (unhide Q0 _).mono ?_
      rintro e w9 ⟨rfl, h9⟩
      have h8 := h9.symm
      subst h8
      clear h9
      go_upto_region 9 with (fail)
      cases h0 : dutB ma va ra with
      | false =>
        have HF : Hid (houseB (L, T, tk) = false) := unhide HRK (by
          rw [unhide ERW]
          intro hh
          have h5 := hh.1.1
          dsimp only at h5
          rw [h0] at h5
          cases h5)
        refine wp_region_quiet_lit (by kernel_rfl) (by kernel_rfl) ?_
        repeat (go_big_quiet_step (fail))
        refine wpQuiet_nil ?_
        intro _ hw'
        obtain ⟨nq, hw''⟩ := hw'
        subst hw''
        go_wp2
        go_ret
        exact ⟨by rw [unhide HF]; rfl, below_drewN (unhide HWA) _⟩
      | true =>
      rw [h0] at EC
      go_cut [91] (fun sv wx => sv = .bool (!C) ∧ ∃ n, wx = V1.drewN n)
      case first =>
        cases h1 : inB id 1 1000000 with
        | false =>
          rw [h1] at Q1
          have HCv : Hid (C = false) := by show _ = _; rw [unhide EC]; simp [h1]
          refine wp_region_quiet_lit (by kernel_rfl) (by kernel_rfl) ?_
          repeat (go_big_quiet_step (fail))
          go_big_quiet_want
          go_big_quiet_op
          go_big_quiet_call (exact Calls.quiet_of_same (unhide Q1 _))
          repeat (go_big_quiet_step (fail))
          refine wpQuiet_nil ?_
          intro _ hw'
          obtain ⟨nq, hw''⟩ := hw'
          subst hw''
          go_wp2
          go_meet
          exact ⟨by rw [unhide HCv]; rfl, nq, rfl⟩
        | true =>
          rw [h1] at Q1
          by_cases hk0 : k = 0
          · have dk : decide ((0 : Int) < (k : Int)) = false := by rw [decide_eq_false_iff_not]; omega
            have dkN : decide (0 < k) = false := by rw [decide_eq_false_iff_not]; omega
            have dkk : decide (k = 0) = true := by simpa using hk0
            clear hk0
            cases h2 : inB ow 0 ((T.length : Int) - 1) with
            | false =>
              rw [h2] at Q2
              have HCv : Hid (C = false) := by show _ = _; rw [unhide EC]; simp [h2]
              refine wp_region_quiet_lit (by kernel_rfl) (by kernel_rfl) ?_
              repeat (go_big_quiet_step (fail))
              go_big_quiet_want
              go_big_quiet_op
              go_big_quiet_call (exact Calls.quiet_of_same (unhide Q1 _))
              repeat (go_big_quiet_step (fail))
              go_big_quiet_want
              go_big_quiet_op
              go_big_quiet_call (exact Calls.quiet_of_same (unhide Q2 _))
              repeat (go_big_quiet_step (fail))
              refine wpQuiet_nil ?_
              intro _ hw'
              obtain ⟨nq, hw''⟩ := hw'
              subst hw''
              go_wp2
              go_meet
              exact ⟨by rw [unhide HCv]; rfl, nq, rfl⟩
            | true =>
              rw [h2] at Q2
              cases h3 : inB st 1 5 with
              | false =>
                rw [h3] at Q3
                have HCv : Hid (C = false) := by show _ = _; rw [unhide EC]; simp [h3]
                refine wp_region_quiet_lit (by kernel_rfl) (by kernel_rfl) ?_
                repeat (go_big_quiet_step (fail))
                go_big_quiet_want
                go_big_quiet_op
                go_big_quiet_call (exact Calls.quiet_of_same (unhide Q1 _))
                repeat (go_big_quiet_step (fail))
                go_big_quiet_want
                go_big_quiet_op
                go_big_quiet_call (exact Calls.quiet_of_same (unhide Q2 _))
                repeat (go_big_quiet_step (fail))
                go_big_quiet_want
                go_big_quiet_op
                go_big_quiet_call (exact Calls.quiet_of_same (unhide Q3 _))
                repeat (go_big_quiet_step (fail))
                refine wpQuiet_nil ?_
                intro _ hw'
                obtain ⟨nq, hw''⟩ := hw'
                subst hw''
                go_wp2
                go_meet
                exact ⟨by rw [unhide HCv]; rfl, nq, rfl⟩
              | true =>
                rw [h3] at Q3
                have HCv : Hid (C = true) := by show _ = _; rw [unhide EC]; simp [h1, h2, h3, dkk]
                refine wp_region_quiet_lit (by kernel_rfl) (by kernel_rfl) ?_
                repeat (go_big_quiet_step (fail))
                go_big_quiet_want
                go_big_quiet_op
                go_big_quiet_call (exact Calls.quiet_of_same (unhide Q1 _))
                repeat (go_big_quiet_step (fail))
                go_big_quiet_want
                go_big_quiet_op
                go_big_quiet_call (exact Calls.quiet_of_same (unhide Q2 _))
                repeat (go_big_quiet_step (fail))
                go_big_quiet_want
                go_big_quiet_op
                go_big_quiet_call (exact Calls.quiet_of_same (unhide Q3 _))
                repeat (go_big_quiet_step (fail))
                refine wpQuiet_nil ?_
                intro _ hw'
                obtain ⟨nq, hw''⟩ := hw'
                subst hw''
                go_wp2
                go_meet
                exact ⟨by rw [unhide HCv]; rfl, nq, rfl⟩
          · have dk : decide ((0 : Int) < (k : Int)) = true := by rw [decide_eq_true_eq]; omega
            have dkN : decide (0 < k) = true := by rw [decide_eq_true_eq]; omega
            have dkk : decide (k = 0) = false := by simpa using hk0
            obtain ⟨p, ep⟩ : ∃ p, p = k - 1 := ⟨_, rfl⟩
            obtain ⟨bb', o', xp, y1, y2, y3, y4, y5, y6, e', hp0, -, -, -, -, -, -, EX'⟩ := recLotAt (unhide HL) (show p < L.length by omega)
            simp only [Option.some.injEq, Addr.mk.injEq, and_true] at e'
            obtain ⟨rfl, rfl⟩ := e'
            have f0 := wcell3 hp0 (unhide HWA)
            have exp : lId L (k - 1) = xp := by rw [← ep]; unfold lId; rw [unhide EX']
            have q1 : IntKind.i64.wrap ((k : Int) - 1) = (p : Int) := by rw [IntKind.wrap_i64]; omega
            have q2 : (k : Int) - 1 = (p : Int) := by omega
            have hpi : (p : Int) < L.length := by omega
            clear hp0 EX' hk0
            by_cases ho : xp < id
            · have d2 : decide (id ≤ xp) = false := by rw [decide_eq_false_iff_not]; omega
              have d3 : decide (lId L (k - 1) < id) = true := by rw [exp]; simpa using ho
              clear exp ep ho
              cases h2 : inB ow 0 ((T.length : Int) - 1) with
              | false =>
                rw [h2] at Q2
                have HCv : Hid (C = false) := by show _ = _; rw [unhide EC]; simp [h2]
                refine wp_region_quiet_lit (by kernel_rfl) (by kernel_rfl) ?_
                repeat (go_big_quiet_step (fail))
                go_big_quiet_want
                go_big_quiet_op
                go_big_quiet_call (exact Calls.quiet_of_same (unhide Q1 _))
                repeat (go_big_quiet_step (fail))
                go_big_quiet_want
                go_big_quiet_op
                go_big_quiet_call (exact Calls.quiet_of_same (unhide Q2 _))
                repeat (go_big_quiet_step (fail))
                refine wpQuiet_nil ?_
                intro _ hw'
                obtain ⟨nq, hw''⟩ := hw'
                subst hw''
                go_wp2
                go_meet
                exact ⟨by rw [unhide HCv]; rfl, nq, rfl⟩
              | true =>
                rw [h2] at Q2
                cases h3 : inB st 1 5 with
                | false =>
                  rw [h3] at Q3
                  have HCv : Hid (C = false) := by show _ = _; rw [unhide EC]; simp [h3]
                  refine wp_region_quiet_lit (by kernel_rfl) (by kernel_rfl) ?_
                  repeat (go_big_quiet_step (fail))
                  go_big_quiet_want
                  go_big_quiet_op
                  go_big_quiet_call (exact Calls.quiet_of_same (unhide Q1 _))
                  repeat (go_big_quiet_step (fail))
                  go_big_quiet_want
                  go_big_quiet_op
                  go_big_quiet_call (exact Calls.quiet_of_same (unhide Q2 _))
                  repeat (go_big_quiet_step (fail))
                  go_big_quiet_want
                  go_big_quiet_op
                  go_big_quiet_call (exact Calls.quiet_of_same (unhide Q3 _))
                  repeat (go_big_quiet_step (fail))
                  refine wpQuiet_nil ?_
                  intro _ hw'
                  obtain ⟨nq, hw''⟩ := hw'
                  subst hw''
                  go_wp2
                  go_meet
                  exact ⟨by rw [unhide HCv]; rfl, nq, rfl⟩
                | true =>
                  rw [h3] at Q3
                  have HCv : Hid (C = true) := by show _ = _; rw [unhide EC]; simp [h1, h2, h3, d3]
                  refine wp_region_quiet_lit (by kernel_rfl) (by kernel_rfl) ?_
                  repeat (go_big_quiet_step (fail))
                  go_big_quiet_want
                  go_big_quiet_op
                  go_big_quiet_call (exact Calls.quiet_of_same (unhide Q1 _))
                  repeat (go_big_quiet_step (fail))
                  go_big_quiet_want
                  go_big_quiet_op
                  go_big_quiet_call (exact Calls.quiet_of_same (unhide Q2 _))
                  repeat (go_big_quiet_step (fail))
                  go_big_quiet_want
                  go_big_quiet_op
                  go_big_quiet_call (exact Calls.quiet_of_same (unhide Q3 _))
                  repeat (go_big_quiet_step (fail))
                  refine wpQuiet_nil ?_
                  intro _ hw'
                  obtain ⟨nq, hw''⟩ := hw'
                  subst hw''
                  go_wp2
                  go_meet
                  exact ⟨by rw [unhide HCv]; rfl, nq, rfl⟩
            · have d2 : decide (id ≤ xp) = true := by rw [decide_eq_true_eq]; omega
              have d3 : decide (lId L (k - 1) < id) = false := by rw [exp]; simpa using ho
              have HCv : Hid (C = false) := by show _ = _; rw [unhide EC]; simp [dkk, d3]
              clear exp ep ho
              refine wp_region_quiet_lit (by kernel_rfl) (by kernel_rfl) ?_
              repeat (go_big_quiet_step (fail))
              go_big_quiet_want
              go_big_quiet_op
              go_big_quiet_call (exact Calls.quiet_of_same (unhide Q1 _))
              repeat (go_big_quiet_step (fail))
              refine wpQuiet_nil ?_
              intro _ hw'
              obtain ⟨nq, hw''⟩ := hw'
              subst hw''
              go_wp2
              go_meet
              exact ⟨by rw [unhide HCv]; rfl, nq, rfl⟩
      case rest =>
        obtain ⟨rfl, n9, rfl⟩ := hcut
        cases C with
        | false =>
          have HF : Hid (houseB (L, T, tk) = false) := unhide HRK (by
            rw [unhide ERW]
            intro hh
            have : false = true := by
              have e := unhide EC
              rw [e]
              simp only [Bool.and_eq_true, Bool.or_eq_true, decide_eq_true_eq]
              exact ⟨⟨⟨⟨trivial, inB_mk hh.1.2.1.1 hh.1.2.1.2⟩, hh.2⟩, inB_mk hh.1.2.2.1.1 hh.1.2.2.1.2⟩, inB_mk hh.1.2.2.2.1.1 hh.1.2.2.2.1.2⟩
            cases this)
          go_wp2
          go_ret
          exact ⟨by rw [unhide HF]; rfl, below_drewN (unhide HWA) _⟩
        | true =>
          have hC := (unhide EC).symm
          simp only [Bool.and_eq_true, Bool.or_eq_true, decide_eq_true_eq] at hC
          have p0 := h0
          obtain ⟨⟨⟨⟨-, p1⟩, p2⟩, p3⟩, p4⟩ := hC
          have p3' := inB_true p3
          have hdb := dut_bd ma va ra
          rw [← unhide EDU] at hdb
          have HLK : Hid (bo = (if st = 3 then du else 0) → RwOk T.length L k) := fun hb => by
            rw [unhide ERW]
            exact ⟨⟨p0, inB_true p1, p3', inB_true p4, by rw [← unhide EDU]; exact hb⟩, p2⟩
          have HLN : Hid (bo ≠ (if st = 3 then du else 0) → houseB (L, T, tk) = false) := fun hb => unhide HRK (by
            rw [unhide ERW]
            intro hh
            have h5 := hh.1.2.2.2.2
            dsimp only at h5
            rw [← unhide EDU] at h5
            exact hb h5)
          obtain ⟨j, ej⟩ : ∃ j : Nat, ow = (j : Int) := ⟨ow.toNat, by omega⟩
          subst ej
          have hj : j < T.length := by omega
          have hji : (j : Int) < T.length := by omega
          have hsb := unhide HBB j
          have HN := hide (unhide HBN j hj rfl)
          have cj := (unhide HBA).cell (ints_get (bnds T.length (L.take k)) (i := j) (by rw [bnds_len]; exact hj))
          rw [bnds_get hj] at cj
          obtain ⟨bj, ebj⟩ : ∃ x, x = bsum (j : Int) (L.take k) := ⟨_, rfl⟩
          rw [← ebj] at cj HN hsb
          clear ebj p0 p1 p2 p3 p4 EC HBB HBN HRK ERW EDU
          have fr := (unhide HBA).frozen
          by_cases hs : st = 3
          · have dst : (st != 3) = false := by simp [hs]
            rw [if_pos hs] at HLK HLN
            clear hs
            by_cases hbo : bo = du
            · subst hbo
              have db : (bo != bo) = false := by simp
              have HR2 := hide (unhide HDN (unhide HLK rfl))
              have e9 : IntKind.i64.wrap (bj + bo) = bj + bo := by rw [IntKind.wrap_i64]; omega
              clear HLK HLN HDN
              go_wp2
              go_region
              all_goals
                go_wp2
                go_roundg (L.length - (k + 1))
                case measure => omega
                case rel =>
                  refine ⟨k + 1, by omega, rfl, by go_num, hide ?_, hide ?_, hide ?_, HR2⟩
                  · exact Below.setCell (below_drewN (unhide HWA) _) (p := ⟨gr, j, none⟩) (by show w.heap.size ≤ gr; omega) _
                  · exact (unhide HOA).other (a := ⟨gr, j, none⟩) hne1 _
                  · rw [← unhide HN]; exact ownIntsSet (unhide HBA) j _ (by rw [bnds_len]; exact hj)
            · have db : (bo != du) = true := by simpa using hbo
              have HF := hide (unhide HLN hbo)
              clear HLK HLN HDN HN
              go_wp2
              go_ret
              exact ⟨by rw [unhide HF]; rfl, below_drewN (unhide HWA) _⟩
          · have dst : (st != 3) = true := by simp [hs]
            rw [if_neg hs] at HLK HLN
            clear hs
            by_cases hbo : bo = 0
            · subst hbo
              have HR2 := hide (unhide HDN (unhide HLK rfl))
              have e9 : IntKind.i64.wrap (bj + 0) = bj + 0 := by rw [IntKind.wrap_i64]; omega
              have e8 : bj + 0 = bj := by omega
              rw [e8] at HN
              clear HLK HLN HDN
              go_wp2
              go_region
              all_goals
                go_wp2
                go_roundg (L.length - (k + 1))
                case measure => omega
                case rel =>
                  refine ⟨k + 1, by omega, rfl, by go_num, hide ?_, hide ?_, hide ?_, HR2⟩
                  · exact Below.setCell (below_drewN (unhide HWA) _) (p := ⟨gr, j, none⟩) (by show w.heap.size ≤ gr; omega) _
                  · exact (unhide HOA).other (a := ⟨gr, j, none⟩) hne1 _
                  · rw [← unhide HN]; exact ownIntsSet (unhide HBA) j _ (by rw [bnds_len]; exact hj)
            · have db : (bo != 0) = true := by simpa using hbo
              have HF := hide (unhide HLN hbo)
              clear HLK HLN HDN HN
              go_wp2
              go_ret
              exact ⟨by rw [unhide HF]; rfl, below_drewN (unhide HWA) _⟩
    · have HLS : Hid (∀ r, r < L.length → RwOk T.length L r) := fun r hr => unhide HD r (by omega)
      have ek : k = L.length := by omega
      have hBD : ∀ j : Nat, 0 ≤ bsum (j : Int) L := fun j => by have := (bsum_bd (n := T.length) (j : Int) L L.length (Nat.le_refl _) (fun i hi => (unhide HLS i hi).1)).1; rwa [List.take_length] at this
      rw [ek, List.take_length] at HB
      clear HD ek
      go_wp2
      generalize wr = w2 at *
      go_loopg [8] T.length (fun g iv wr => ∃ k : Nat, k ≤ T.length ∧ g = T.length - k ∧ iv = .int .i64 k ∧ Hid (Below w.heap.size w wr) ∧ Hid (OwnV wr gb [.slice ao L.length cap, .slice fo T.length fcap, .int .i64 tk]) ∧ Hid (OwnV wr gr (ints (bnds T.length L))) ∧ Hid (∀ r, r < k → TOk (T.getD r default) ∧ (T.getD r default).2.2 = bsum (r : Int) L))
      case atStart => exact ⟨0, Nat.zero_le _, rfl, rfl, HW, HO, HB, fun r hr => by omega⟩
      case round =>
        clear HO HW HB q0
        obtain ⟨k, hk, rfl, rfl, HW, HO, HB, HD⟩ := hrel
        have q1' := (unhide HO).cell (i := 1) rfl
        by_cases hkn : k < T.length
        · obtain ⟨bb, o, mo, bn, bd, rfl, hc0, hc1, hc2, EX⟩ := recTrAt (unhide HT) hkn
          have hki : (k : Int) < T.length := by omega
          have g0 := wcell3 hc0 (unhide HW)
          have g1 := wcell3 hc1 (unhide HW)
          have g2 := wcell3 hc2 (unhide HW)
          have AL := Below.alloc1 wr (.cells #[.int .i64 mo, .int .i64 bn, .int .i64 bd] 37)
          have hgrw := (unhide HB).lt
          have HWA := hide (Below.step (unhide HW) AL)
          have HOA := hide ((unhide HO).step AL)
          have HBA := hide ((unhide HB).step AL)
          have HX := hide (ownV_alloc wr #[.int .i64 mo, .int .i64 bn, .int .i64 bd] 37)
          have ck := (unhide HBA).cell (ints_get (bnds T.length L) (i := k) (by rw [bnds_len]; exact hkn))
          rw [bnds_get hkn] at ck
          obtain ⟨bk, ebk⟩ : ∃ x, x = bsum (k : Int) L := ⟨_, rfl⟩
          rw [← ebk] at ck
          have ETR : Hid ((TOk (T.getD k default) ∧ (T.getD k default).2.2 = bsum (k : Int) L) = (TOk (mo, bn, bd) ∧ bd = bk)) := by
            show _ = _
            rw [unhide EX, ebk]
          have HRK := hide (unhide HTR k hkn)
          rw [unhide ETR] at HRK
          have HDN : Hid ((TOk (mo, bn, bd) ∧ bd = bk) → ∀ r, r < k + 1 → TOk (T.getD r default) ∧ (T.getD r default).2.2 = bsum (r : Int) L) := fun h r hr => by
            by_cases e : r = k
            · rw [e, unhide ETR]; exact h
            · exact unhide HD r (by omega)
          clear hc0 hc1 hc2 AL HW HO HB HD ETR ebk EX
          have Q1 := hide fun V => unhide HIn mo 0 1000000000000000 V
          have Q2 := hide fun V => unhide HIn bn 0 1000000000000000 V
          have Q3 := hide fun V => unhide HIn bd 0 bn V
          go_upto_region 20 with (fail)
          obtain ⟨V1, eV⟩ : ∃ z, z = wr.alloc (.cells #[.int .i64 mo, .int .i64 bn, .int .i64 bd] 37) := ⟨_, rfl⟩
          rw [← eV] at HWA HOA HBA HX ck ⊢
          clear eV g0 g1 g2 q1'
          obtain ⟨gx, egx⟩ : ∃ g, g = wr.heap.size := ⟨_, rfl⟩
          rw [← egx] at HX ⊢
          clear egx hgrw
          have d0 := (unhide HX).cell (i := 0) rfl
          have d1' := (unhide HX).cell (i := 1) rfl
          have d2' := (unhide HX).cell (i := 2) rfl
          cases h1 : inB mo 0 1000000000000000 with
          | false =>
            rw [h1] at Q1
            have HF : Hid (houseB (L, T, tk) = false) := unhide HRK (fun hh => by have := inB_mk hh.1.1.1 hh.1.1.2; dsimp only at this; rw [h1] at this; cases this)
            refine wp_region_quiet_lit (by kernel_rfl) (by kernel_rfl) ?_
            repeat (go_big_quiet_step (fail))
            go_big_quiet_want
            go_big_quiet_op
            go_big_quiet_call (exact Calls.quiet_of_same (unhide Q1 _))
            repeat (go_big_quiet_step (fail))
            refine wpQuiet_nil ?_
            intro _ hw'
            obtain ⟨nq, hw''⟩ := hw'
            subst hw''
            go_wp2
            go_ret
            exact ⟨by rw [unhide HF]; rfl, below_drewN (unhide HWA) _⟩
          | true =>
          rw [h1] at Q1
          cases h2 : inB bn 0 1000000000000000 with
          | false =>
            rw [h2] at Q2
            have HF : Hid (houseB (L, T, tk) = false) := unhide HRK (fun hh => by have := inB_mk hh.1.2.1.1 hh.1.2.1.2; dsimp only at this; rw [h2] at this; cases this)
            refine wp_region_quiet_lit (by kernel_rfl) (by kernel_rfl) ?_
            repeat (go_big_quiet_step (fail))
            go_big_quiet_want
            go_big_quiet_op
            go_big_quiet_call (exact Calls.quiet_of_same (unhide Q1 _))
            repeat (go_big_quiet_step (fail))
            go_big_quiet_want
            go_big_quiet_op
            go_big_quiet_call (exact Calls.quiet_of_same (unhide Q2 _))
            repeat (go_big_quiet_step (fail))
            refine wpQuiet_nil ?_
            intro _ hw'
            obtain ⟨nq, hw''⟩ := hw'
            subst hw''
            go_wp2
            go_ret
            exact ⟨by rw [unhide HF]; rfl, below_drewN (unhide HWA) _⟩
          | true =>
          rw [h2] at Q2
          cases h3 : inB bd 0 bn with
          | false =>
            rw [h3] at Q3
            have HF : Hid (houseB (L, T, tk) = false) := unhide HRK (fun hh => by have := inB_mk hh.1.2.2.1 hh.1.2.2.2; dsimp only at this; rw [h3] at this; cases this)
            refine wp_region_quiet_lit (by kernel_rfl) (by kernel_rfl) ?_
            repeat (go_big_quiet_step (fail))
            go_big_quiet_want
            go_big_quiet_op
            go_big_quiet_call (exact Calls.quiet_of_same (unhide Q1 _))
            repeat (go_big_quiet_step (fail))
            go_big_quiet_want
            go_big_quiet_op
            go_big_quiet_call (exact Calls.quiet_of_same (unhide Q2 _))
            repeat (go_big_quiet_step (fail))
            go_big_quiet_want
            go_big_quiet_op
            go_big_quiet_call (exact Calls.quiet_of_same (unhide Q3 _))
            repeat (go_big_quiet_step (fail))
            refine wpQuiet_nil ?_
            intro _ hw'
            obtain ⟨nq, hw''⟩ := hw'
            subst hw''
            go_wp2
            go_ret
            exact ⟨by rw [unhide HF]; rfl, below_drewN (unhide HWA) _⟩
          | true =>
          rw [h3] at Q3
          by_cases h4 : bd = bk
          · have d4 : (bd != bk) = false := by simpa using h4
            have HG := hide (unhide HDN ⟨⟨inB_true h1, inB_true h2, inB_true h3⟩, h4⟩)
            clear h4 HDN HRK
            refine wp_region_quiet_lit (by kernel_rfl) (by kernel_rfl) ?_
            repeat (go_big_quiet_step (fail))
            go_big_quiet_want
            go_big_quiet_op
            go_big_quiet_call (exact Calls.quiet_of_same (unhide Q1 _))
            repeat (go_big_quiet_step (fail))
            go_big_quiet_want
            go_big_quiet_op
            go_big_quiet_call (exact Calls.quiet_of_same (unhide Q2 _))
            repeat (go_big_quiet_step (fail))
            go_big_quiet_want
            go_big_quiet_op
            go_big_quiet_call (exact Calls.quiet_of_same (unhide Q3 _))
            repeat (go_big_quiet_step (fail))
            refine wpQuiet_nil ?_
            intro _ hw'
            obtain ⟨nq, hw''⟩ := hw'
            subst hw''
            go_wp2
            go_roundg (T.length - (k + 1))
            case measure => omega
            case rel => exact ⟨k + 1, by omega, rfl, by go_num, below_drewN (unhide HWA) _, (unhide HOA), (unhide HBA), HG⟩
          · have d4 : (bd != bk) = true := by simpa using h4
            have HF : Hid (houseB (L, T, tk) = false) := unhide HRK (fun hh => h4 hh.2)
            clear h4 HDN HRK
            refine wp_region_quiet_lit (by kernel_rfl) (by kernel_rfl) ?_
            repeat (go_big_quiet_step (fail))
            go_big_quiet_want
            go_big_quiet_op
            go_big_quiet_call (exact Calls.quiet_of_same (unhide Q1 _))
            repeat (go_big_quiet_step (fail))
            go_big_quiet_want
            go_big_quiet_op
            go_big_quiet_call (exact Calls.quiet_of_same (unhide Q2 _))
            repeat (go_big_quiet_step (fail))
            go_big_quiet_want
            go_big_quiet_op
            go_big_quiet_call (exact Calls.quiet_of_same (unhide Q3 _))
            repeat (go_big_quiet_step (fail))
            refine wpQuiet_nil ?_
            intro _ hw'
            obtain ⟨nq, hw''⟩ := hw'
            subst hw''
            go_wp2
            go_ret
            exact ⟨by rw [unhide HF]; rfl, below_drewN (unhide HWA) _⟩
        · have HF : Hid (houseB (L, T, tk) = true) := unhide HALL (unhide HLS) (fun r hr => unhide HD r (by omega))
          go_wp2
          go_ret
          exact ⟨by rw [unhide HF]; rfl, unhide HW⟩

end Go.Proofs.Ytojlkdmlelgcbaa

/- Customs: texts laid together by wip/lay16.py: CsUa CsUb CsUc CsV CsV1 CsV2 CsV3 CsV4 CsV8. -/
import Derived.Test.YtojlkdmlelgcbaaCsF
import Derived.Test.YtojlkdmlelgcbaaHsB
import Derived.Test.YtojlkdmlelgcbaaAppT
import Derived.Test.YtojlkdmlelgcbaaCsX
import Derived.Deep.QuietTactic
import Derived.BigQuiet
import Derived.Deep.CutBlock
import Derived.Deep.DeepCutAuto
import Derived.Test.YtojlkdmlelgcbaaCsO
/- Customs: contracts of the specification's l16Find, l16From, l16Bad. Written by wip/mkcsua.py. -/
namespace Go.Proofs.Ytojlkdmlelgcbaa
open Go.RowKit

/-- Where a lot is, or -1. -/
def lfnd (L : List LotT) (id : Int) : Int := if lhas L id = true then (lplc L id : Nat) else -1
theorem lfnd_at {L : List LotT} (ha : AscL L) {id : Int} {k : Nat} (hk : k < L.length) (e : lId L k = id) : lfnd L id = (k : Int) := by
  obtain ⟨h1, h2⟩ := lhas_of ha hk e
  rw [lfnd, if_pos h1, h2]
theorem lfnd_none {L : List LotT} {id : Int} (h : ∀ t, t < L.length → lId L t ≠ id) : lfnd L id = -1 := by
  rw [lfnd, if_neg]
  intro h1
  obtain ⟨h2, h3⟩ := lhas_yes h1
  exact h _ h2 h3

set_option maxHeartbeats 1600000 in
theorem l16Find_any (lv tv : Value) (L : List LotT) (T : List TraderT) (tk id : Int) (w : World) (h : HsIn w lv tv (L, T, tk)) (ha : AscL L) :
    Calls Try.prog 60 #[vHouse lv tv tk, .int .i64 id] w fun e w' => e = .returned (.int .i64 (lfnd L id)) ∧ Below w.heap.size w w' := by
  obtain ⟨h1, h2⟩ := h
  dsimp only at h1 h2
  obtain ⟨ao, lcap, rfl, hl, hm, hcl⟩ := h1
  obtain ⟨fo, fcap, rfl, -⟩ := h2
  unfold maxLen at hm
  have HL := hide hcl
  have HW := hide (Below.alloc1 w (.cells #[.slice ao L.length lcap, .slice fo T.length fcap, .int .i64 tk] 27))
  have c0 := (ownV_alloc w #[.slice ao L.length lcap, .slice fo T.length fcap, .int .i64 tk] 27).cell (i := 0) rfl
  have HAT := hide fun k hk e => lfnd_at ha (id := id) (k := k) hk e
  have HNO := hide fun h => lfnd_none (L := L) (id := id) h
  generalize lfnd L id = R at *
  clear hcl ha
  unfold vHouse
  go_enter Try.func60, Try.ntmps60
  go_wp2
  obtain ⟨V, eV⟩ : ∃ V, V = w.alloc (.cells #[.slice ao L.length lcap, .slice fo T.length fcap, .int .i64 tk] 27) := ⟨_, rfl⟩
  rw [← eV] at HW c0 ⊢
  clear eV
  generalize w.heap.size = gb at c0 ⊢
  go_loopg [5] L.length (fun g iv wr => wr = V ∧ ∃ k : Nat, k ≤ L.length ∧ g = L.length - k ∧ iv = .int .i64 k ∧ Hid (∀ r, r < k → lId L r ≠ id))
  case atStart => exact ⟨rfl, 0, Nat.zero_le _, rfl, rfl, fun r hr => by omega⟩
  case round =>
    obtain ⟨rfl, k, hk, rfl, rfl, HN⟩ := hrel
    by_cases hkn : k < L.length
    · obtain ⟨bb, o, xi, x1, x2, x3, x4, x5, x6, rfl, hc0, -, -, -, -, -, -, EX⟩ := recLotAt (unhide HL) hkn
      have hki : (k : Int) < L.length := by omega
      have exi : lId L k = xi := by unfold lId; rw [unhide EX]
      have g0 := wcell3 hc0 (unhide HW)
      by_cases hx : xi = id
      · have HT := hide (unhide HAT k hkn (exi.trans hx))
        subst hx
        clear HN exi
        go_wp2
        go_ret
        exact ⟨by rw [unhide HT]; rfl, unhide HW⟩
      · have HN' : Hid (∀ r, r < k + 1 → lId L r ≠ id) := fun r hr => by
          by_cases e : r = k
          · rw [e, exi]; exact hx
          · exact unhide HN r (by omega)
        clear HN exi
        have d1 : (xi == id) = false := by simpa using hx
        go_wp2
        go_roundg (L.length - (k + 1))
        case measure => omega
        case rel => exact ⟨rfl, k + 1, by omega, rfl, by go_num, HN'⟩
    · have HT := hide (unhide HNO fun t ht => unhide HN t (by omega))
      clear HN
      go_wp2
      go_ret
      exact ⟨by rw [unhide HT]; rfl, unhide HW⟩

theorem l16From_any (kd : Int) (w : World) : Calls Try.prog 62 #[.int .i64 kd] w fun e w' => e = .returned (.int .i64 (wantS kd)) ∧ w' = w := by
  by_cases e3 : kd = 3
  · subst e3
    go_enter Try.func62, Try.ntmps62
    go_wp2
    go_ret
    exact ⟨rfl, rfl⟩
  by_cases e6 : kd = 6
  · subst e6
    go_enter Try.func62, Try.ntmps62
    go_wp2
    go_ret
    exact ⟨rfl, rfl⟩
  by_cases e7 : kd = 7
  · subst e7
    go_enter Try.func62, Try.ntmps62
    go_wp2
    go_ret
    exact ⟨rfl, rfl⟩
  have d3 : (kd == 3) = false := by simpa using e3
  have d6 : (kd == 6) = false := by simpa using e6
  have d7 : (kd == 7) = false := by simpa using e7
  have HE : Hid (wantS kd = 1) := by show _ = _; unfold wantS; rw [if_neg e3, if_neg e6, if_neg e7]
  go_enter Try.func62, Try.ntmps62
  go_wp2
  go_ret
  exact ⟨by rw [unhide HE]; rfl, rfl⟩

theorem deed_alt (n : Nat) (kd id ow ma va ra nw : Int) : deedB n (kd, id, ow, ma, va, ra, nw) = (inB kd 1 8 && (inB id 1 1000000 && (if kd = 1 then dutB ma va ra && inB ow 0 ((n : Int) - 1) else if kd = 8 then decide (1 ≤ ma) && inB nw 1 1000000 else true))) := by
  unfold deedB
  dsimp only
  by_cases h1 : kd = 1
  · subst h1; simp [inB]
  · by_cases h8 : kd = 8
    · subst h8; simp [inB]
    · rw [if_neg h1, if_neg h1, if_neg h8, if_neg h8]
      by_cases hr : 2 ≤ kd ∧ kd ≤ 7
      · rw [if_pos hr, show inB kd 1 8 = true from inB_mk (by omega) (by omega)]; simp
      · rw [if_neg hr, show inB kd 1 8 = false from inB_not (by omega)]; simp

set_option maxHeartbeats 6400000 in
theorem l16Bad_any (lv tv : Value) (L : List LotT) (T : List TraderT) (tk kd id ow ma va ra nw : Int) (w : World) (h : HsIn w lv tv (L, T, tk)) (hT : T.length ≤ 1048576) :
    Calls Try.prog 59 #[vHouse lv tv tk, vDeed kd id ow ma va ra nw] w fun e w' => e = .returned (.bool (!(houseB (L, T, tk) && deedB T.length (kd, id, ow, ma, va, ra, nw)))) ∧ Below w.heap.size w w' := by
  have HV := hide h
  obtain ⟨h1, h2⟩ := h
  obtain ⟨ao, lcap, rfl, -⟩ := h1
  obtain ⟨fo, fcap, rfl, -⟩ := h2
  dsimp only at HV
  have A1 := Below.alloc1 w (.cells #[.slice ao L.length lcap, .slice fo T.length fcap, .int .i64 tk] 27)
  have A2 := Below.alloc1 (w.alloc (.cells #[.slice ao L.length lcap, .slice fo T.length fcap, .int .i64 tk] 27)) (.cells #[.int .i64 kd, .int .i64 id, .int .i64 ow, .int .i64 ma, .int .i64 va, .int .i64 ra, .int .i64 nw] 34)
  have HA := hide ((ownV_alloc w #[.slice ao L.length lcap, .slice fo T.length fcap, .int .i64 tk] 27).step A2)
  have HD := hide (ownV_alloc (w.alloc (.cells #[.slice ao L.length lcap, .slice fo T.length fcap, .int .i64 tk] 27)) #[.int .i64 kd, .int .i64 id, .int .i64 ow, .int .i64 ma, .int .i64 va, .int .i64 ra, .int .i64 nw] 34)
  rw [World.size_alloc] at HD
  have HW := hide (Below.step A1 A2)
  have Q1 := hide fun V (hV : Below w.heap.size w V) => specHouseOk_any _ _ L T tk V ((unhide HV).below hV)
  have HDU := hide fun V => specDuty6_any ma va ra V
  rw [deed_alt]
  obtain ⟨R, eR⟩ : ∃ R, R = (inB kd 1 8 && (inB id 1 1000000 && (if kd = 1 then dutB ma va ra && inB ow 0 ((T.length : Int) - 1) else if kd = 8 then decide (1 ≤ ma) && inB nw 1 1000000 else true))) := ⟨_, rfl⟩
  have ER := hide eR
  rw [← eR]
  clear eR
  obtain ⟨hh, ehh⟩ : ∃ b, b = houseB (L, T, tk) := ⟨_, rfl⟩
  rw [← ehh] at Q1 ⊢
  clear ehh
  obtain ⟨V0, eV0⟩ : ∃ V, V = (w.alloc (.cells #[.slice ao L.length lcap, .slice fo T.length fcap, .int .i64 tk] 27)).alloc (.cells #[.int .i64 kd, .int .i64 id, .int .i64 ow, .int .i64 ma, .int .i64 va, .int .i64 ra, .int .i64 nw] 34) := ⟨_, rfl⟩
  rw [← eV0] at HA HD HW
  unfold vHouse at Q1 ⊢
  unfold vDeed
  clear A1 A2
  go_enter Try.func59, Try.ntmps59
  go_upto_region 1 with (fail)
  rw [← eV0]
  clear eV0
  have a0 := (unhide HA).cell (i := 0) rfl
  have a1 := (unhide HA).cell (i := 1) rfl
  have a2 := (unhide HA).cell (i := 2) rfl
  go_wp2_with fail
  refine (unhide Q1 _ (unhide HW)).mono ?_
  rintro e V1 ⟨rfl, hb⟩
  replace HA := hide ((unhide HA).step hb)
  replace HD := hide ((unhide HD).step hb)
  replace HW := hide (Below.step (unhide HW) hb)
  clear hb Q1 a0 a1 a2
  have a1 := (unhide HA).cell (i := 1) rfl
  have d0 := (unhide HD).cell (i := 0) rfl
  have d1 := (unhide HD).cell (i := 1) rfl
  have d2 := (unhide HD).cell (i := 2) rfl
  have d3 := (unhide HD).cell (i := 3) rfl
  have d4 := (unhide HD).cell (i := 4) rfl
  have d5 := (unhide HD).cell (i := 5) rfl
  have d6 := (unhide HD).cell (i := 6) rfl
  cases hh with
  | false =>
    go_wp2_with (first | (go_at_call 51; refine (l1In_any _ _ _ _).mono ?_; rintro e w9 ⟨rfl, h9⟩; have h8 := h9.symm; subst h8; clear h9) | (go_at_call 18; refine (unhide HDU _).mono ?_; rintro e w9 ⟨rfl, h9⟩; have h8 := h9.symm; subst h8; clear h9))
    go_ret
    exact ⟨rfl, unhide HW⟩
  | true =>
  cases hk : inB kd 1 8 with
  | false =>
    rw [hk, Bool.false_and] at ER
    go_wp2_with (first | (go_at_call 51; refine (l1In_any _ _ _ _).mono ?_; rintro e w9 ⟨rfl, h9⟩; have h8 := h9.symm; subst h8; clear h9) | (go_at_call 18; refine (unhide HDU _).mono ?_; rintro e w9 ⟨rfl, h9⟩; have h8 := h9.symm; subst h8; clear h9))
    go_ret
    exact ⟨by rw [unhide ER]; rfl, unhide HW⟩
  | true =>
  cases hi : inB id 1 1000000 with
  | false =>
    rw [hk, hi, Bool.true_and, Bool.false_and] at ER
    go_wp2_with (first | (go_at_call 51; refine (l1In_any _ _ _ _).mono ?_; rintro e w9 ⟨rfl, h9⟩; have h8 := h9.symm; subst h8; clear h9) | (go_at_call 18; refine (unhide HDU _).mono ?_; rintro e w9 ⟨rfl, h9⟩; have h8 := h9.symm; subst h8; clear h9))
    go_ret
    exact ⟨by rw [unhide ER]; rfl, unhide HW⟩
  | true =>
  rw [hk, hi, Bool.true_and, Bool.true_and] at ER
  by_cases e1 : kd = 1
  · subst e1
    rw [if_pos rfl] at ER
    cases h1 : dutB ma va ra with
    | false =>
      rw [h1, Bool.false_and] at ER
      rw [h1] at HDU
      go_wp2_with (first | (go_at_call 51; refine (l1In_any _ _ _ _).mono ?_; rintro e w9 ⟨rfl, h9⟩; have h8 := h9.symm; subst h8; clear h9) | (go_at_call 18; refine (unhide HDU _).mono ?_; rintro e w9 ⟨rfl, h9⟩; have h8 := h9.symm; subst h8; clear h9))
      go_ret
      exact ⟨by rw [unhide ER]; rfl, unhide HW⟩
    | true =>
      rw [h1, Bool.true_and] at ER
      rw [h1] at HDU
      have e9 : IntKind.i64.wrap ((T.length : Int) - 1) = (T.length : Int) - 1 := by rw [IntKind.wrap_i64]; omega
      go_wp2_with (first | (go_at_call 51; refine (l1In_any _ _ _ _).mono ?_; rintro e w9 ⟨rfl, h9⟩; have h8 := h9.symm; subst h8; clear h9) | (go_at_call 18; refine (unhide HDU _).mono ?_; rintro e w9 ⟨rfl, h9⟩; have h8 := h9.symm; subst h8; clear h9))
      go_ret
      exact ⟨by rw [unhide ER]; rfl, unhide HW⟩
  rw [if_neg e1] at ER
  have x1 : (kd == 1) = false := by simpa using e1
  by_cases e8 : kd = 8
  · subst e8
    rw [if_pos rfl] at ER
    by_cases hm : 1 ≤ ma
    · have y1 : decide (ma < 1) = false := by rw [decide_eq_false_iff_not]; omega
      rw [decide_eq_true hm, Bool.true_and] at ER
      go_wp2_with (first | (go_at_call 51; refine (l1In_any _ _ _ _).mono ?_; rintro e w9 ⟨rfl, h9⟩; have h8 := h9.symm; subst h8; clear h9) | (go_at_call 18; refine (unhide HDU _).mono ?_; rintro e w9 ⟨rfl, h9⟩; have h8 := h9.symm; subst h8; clear h9))
      go_ret
      exact ⟨by rw [unhide ER]; rfl, unhide HW⟩
    · have y1 : decide (ma < 1) = true := by rw [decide_eq_true_eq]; omega
      rw [decide_eq_false hm, Bool.false_and] at ER
      go_wp2_with (first | (go_at_call 51; refine (l1In_any _ _ _ _).mono ?_; rintro e w9 ⟨rfl, h9⟩; have h8 := h9.symm; subst h8; clear h9) | (go_at_call 18; refine (unhide HDU _).mono ?_; rintro e w9 ⟨rfl, h9⟩; have h8 := h9.symm; subst h8; clear h9))
      go_ret
      exact ⟨by rw [unhide ER]; rfl, unhide HW⟩
  rw [if_neg e8] at ER
  have x8 : (kd == 8) = false := by simpa using e8
  go_wp2_with (first | (go_at_call 51; refine (l1In_any _ _ _ _).mono ?_; rintro e w9 ⟨rfl, h9⟩; have h8 := h9.symm; subst h8; clear h9) | (go_at_call 18; refine (unhide HDU _).mono ?_; rintro e w9 ⟨rfl, h9⟩; have h8 := h9.symm; subst h8; clear h9))
  go_ret
  exact ⟨by rw [unhide ER]; rfl, unhide HW⟩

end Go.Proofs.Ytojlkdmlelgcbaa

/- Customs: contracts of the specification's l16Copy and l16With. Written by wip/mkcsub.py. -/
namespace Go.Proofs.Ytojlkdmlelgcbaa
open Go.RowKit

/-- A house copied. -/
def CpA (w : World) (L : List LotT) (T : List TraderT) (tk : Int) (e : Ending) (w' : World) : Prop :=
  ∃ g1 c1 g2 c2 : Nat, e = .returned (vHouse (.slice (some ⟨g1, 0, none⟩) L.length c1) (.slice (some ⟨g2, 0, none⟩) T.length c2) tk) ∧ OwnV w' g1 (recCells 7 eLot L) ∧ OwnV w' g2 (recCells 3 eTrader T) ∧ (L.length ≤ c1 ∧ c1 ≤ maxLen) ∧ (T.length ≤ c2 ∧ c2 ≤ maxLen) ∧ w.heap.size ≤ g1 ∧ w.heap.size ≤ g2 ∧ g1 ≠ g2 ∧ Below w.heap.size w w'

set_option maxRecDepth 100000 in
set_option maxHeartbeats 6400000 in
theorem l16Copy_any (lv tv : Value) (L : List LotT) (T : List TraderT) (tk : Int) (w : World) (h : HsIn w lv tv (L, T, tk)) (hs : L.length ≤ 1048576) (hT : T.length ≤ 1048576) :
    Calls Try.prog 58 #[vHouse lv tv tk] w fun e w' => CpA w L T tk e w' := by
  have HV := hide h
  obtain ⟨h1, h2⟩ := h
  obtain ⟨ao, lcap, rfl, -⟩ := h1
  obtain ⟨fo, fcap, rfl, -⟩ := h2
  dsimp only at HV
  obtain ⟨V1, eV1⟩ : ∃ V, V = (w.alloc (.cells #[.slice ao L.length lcap, .slice fo T.length fcap, .int .i64 tk] 27)).alloc (.cells #[.slice none 0 0, .slice none 0 0, .int .i64 0] 27) := ⟨_, rfl⟩
  have HW : Hid (Below w.heap.size w V1) := by show Below _ _ _; rw [eV1]; exact Below.step (Below.alloc1 _ _) (Below.alloc1 _ _)
  have HA : Hid (OwnV V1 w.heap.size [.slice ao L.length lcap, .slice fo T.length fcap, .int .i64 tk]) := by show OwnV _ _ _; rw [eV1]; exact (ownV_alloc w #[.slice ao L.length lcap, .slice fo T.length fcap, .int .i64 tk] 27).alloc _
  have HR : Hid (OwnV V1 (w.heap.size + 1) [.slice none 0 0, .slice none 0 0, .int .i64 0]) := by
    have := ownV_alloc (w.alloc (.cells #[.slice ao L.length lcap, .slice fo T.length fcap, .int .i64 tk] 27)) #[.slice none 0 0, .slice none 0 0, .int .i64 0] 27
    rw [World.size_alloc] at this
    show OwnV _ _ _
    rw [eV1]; exact this
  have A1 := Below.alloc1 V1 (.cells #[] 39)
  have HF1 := hide (((unhide HV).1.below (unhide HW)).below A1)
  dsimp only at HF1
  unfold vHouse
  go_enter Try.func58, Try.ntmps58
  go_upto_region 1 with (fail)
  rw [← eV1]
  clear eV1
  have HN := hide (rowB_new 39 7 eLot V1 0 (Nat.zero_le _))
  have HW1 := hide (Below.step (unhide HW) A1)
  have HA1 := hide ((unhide HA).step A1)
  have HR1 := hide ((unhide HR).step A1)
  have a0 := (unhide HA1).cell (i := 0) rfl
  have hlA := (unhide HR).lt
  have hsA : (V1.alloc (.cells #[] 39)).heap.size = V1.heap.size + 1 := World.size_alloc _ _
  clear A1 HW HA HR
  go_upto_region 2 with (at_builtin; go_must (refine wpList_appTo tyLot _ rfl _ _ rfl 0 V1.heap.size 0 0 [] rfl (unhide HN) (Nat.zero_le _) (by omega) ao L.length lcap L rfl (unhide HF1) hs ?_); intro f fc w1 hL hK hor; have HL := hide hL; have HK := hide hK; have HOR := hide hor; have HA2 := hide ((unhide HA1).kept hK (by show ¬ w.heap.size = V1.heap.size; omega)); have c0 := (unhide HA2).cell (i := 0) rfl; have cf := (unhide HA2).frozen; clear hL hK hor)
  rw [Nat.zero_add, List.nil_append] at HL
  have hsK := (unhide HK).size
  have hfo : V1.heap.size ≤ f := by rcases unhide HOR with e | e <;> omega
  have hfl := (unhide HL).ownG (by omega)
  have HW2 := hide ((unhide HW1).trans ((unhide HK).below (B := w.heap.size) (unhide HW1).size (fun b e => by have e : b = V1.heap.size := e; omega)))
  have HR2 := hide ((unhide HR1).kept (unhide HK) (by show ¬ w.heap.size + 1 = V1.heap.size; omega))
  have kS := Kept.setCell (T := fun b => b = w.heap.size) (Kept.refl _ w1) (p := ⟨w.heap.size, 0, none⟩) rfl (.slice (some ⟨f, 0, none⟩) L.length fc)
  have HA3 := hide ((unhide HA2).set 0 (.slice (some ⟨f, 0, none⟩) L.length fc) (by simp))
  have HW3 := hide ((unhide HW2).setCell (p := ⟨w.heap.size, 0, none⟩) (Nat.le_refl _) (.slice (some ⟨f, 0, none⟩) L.length fc))
  have HR3 := hide ((unhide HR2).kept kS (by show ¬ w.heap.size + 1 = w.heap.size; omega))
  have HL3 := hide ((unhide HL).ownG (by omega)).1
  replace HL3 := hide ((unhide HL3).kept kS (by show ¬ f = w.heap.size; omega))
  obtain ⟨V2, eV2⟩ : ∃ V, V = w1.setCell ⟨w.heap.size, 0, none⟩ (.slice (some ⟨f, 0, none⟩) L.length fc) := ⟨_, rfl⟩
  rw [← eV2] at HA3 HW3 HR3 HL3 ⊢
  have hV2 := (unhide HL3).lt
  have hcap := (⟨hfl.2.1, hfl.2.2.1⟩ : L.length ≤ fc ∧ fc ≤ maxLen)
  clear eV2 HA2 HW2 HR2 HL HK HOR HN HA1 HW1 HR1 HF1 a0 c0 cf kS hfl hsK hsA
  have A1 := Below.alloc1 V2 (.cells #[] 37)
  have HF1 := hide (((unhide HV).2.below (unhide HW3)).below A1)
  dsimp only at HF1
  have HN := hide (rowB_new 37 3 eTrader V2 0 (Nat.zero_le _))
  have HW1 := hide (Below.step (unhide HW3) A1)
  have HA1 := hide ((unhide HA3).step A1)
  have HR1 := hide ((unhide HR3).step A1)
  have HL1 := hide ((unhide HL3).step A1)
  have a1 := (unhide HA1).cell (i := 1) rfl
  have hlA2 := (unhide HR3).lt
  have hsA : (V2.alloc (.cells #[] 37)).heap.size = V2.heap.size + 1 := World.size_alloc _ _
  clear A1 HA3 HW3 HR3 HL3
  go_upto_region 3 with (at_builtin; go_must (refine wpList_appTo tyTrader _ rfl _ _ rfl 0 V2.heap.size 0 0 [] rfl (unhide HN) (Nat.zero_le _) (by omega) fo T.length fcap T rfl (unhide HF1) hT ?_); intro f2 fc2 w2 hL hK hor; have HT := hide hL; have HK := hide hK; have HOR := hide hor; have HA2 := hide ((unhide HA1).kept hK (by show ¬ w.heap.size = V2.heap.size; omega)); have c1 := (unhide HA2).cell (i := 1) rfl; have cf := (unhide HA2).frozen; clear hL hK hor)
  rw [Nat.zero_add, List.nil_append] at HT
  have hsK := (unhide HK).size
  have hfo2 : V2.heap.size ≤ f2 := by rcases unhide HOR with e | e <;> omega
  have hfl := (unhide HT).ownG (by omega)
  have HW2 := hide ((unhide HW1).trans ((unhide HK).below (B := w.heap.size) (unhide HW1).size (fun b e => by have e : b = V2.heap.size := e; omega)))
  have HR2 := hide ((unhide HR1).kept (unhide HK) (by show ¬ w.heap.size + 1 = V2.heap.size; omega))
  have HL2 := hide ((unhide HL1).kept (unhide HK) (by show ¬ f = V2.heap.size; omega))
  have kS := Kept.setCell (T := fun b => b = w.heap.size) (Kept.refl _ w2) (p := ⟨w.heap.size, 1, none⟩) rfl (.slice (some ⟨f2, 0, none⟩) T.length fc2)
  have HA3 := hide ((unhide HA2).set 1 (.slice (some ⟨f2, 0, none⟩) T.length fc2) (by simp))
  have HW3 := hide ((unhide HW2).setCell (p := ⟨w.heap.size, 1, none⟩) (Nat.le_refl _) (.slice (some ⟨f2, 0, none⟩) T.length fc2))
  have HR3 := hide ((unhide HR2).kept kS (by show ¬ w.heap.size + 1 = w.heap.size; omega))
  have HL3 := hide ((unhide HL2).kept kS (by show ¬ f = w.heap.size; omega))
  have HT3 := hide (hfl.1.kept kS (by show ¬ f2 = w.heap.size; omega))
  obtain ⟨V3, eV3⟩ : ∃ V, V = w2.setCell ⟨w.heap.size, 1, none⟩ (.slice (some ⟨f2, 0, none⟩) T.length fc2) := ⟨_, rfl⟩
  rw [← eV3] at HA3 HW3 HR3 HL3 HT3 ⊢
  have hcap2 := (⟨hfl.2.1, hfl.2.2.1⟩ : T.length ≤ fc2 ∧ fc2 ≤ maxLen)
  clear eV3 HA2 HW2 HR2 HL2 HT HK HOR HN HA1 HW1 HR1 HL1 HF1 a1 c1 cf kS hfl hsK hsA HV
  have a0 := (unhide HA3).cell (i := 0) rfl
  have a1 := (unhide HA3).cell (i := 1) rfl
  have a2 := (unhide HA3).cell (i := 2) rfl
  have r0 := (unhide HR3).cell (i := 0) rfl
  have r1 := (unhide HR3).cell (i := 1) rfl
  have r2 := (unhide HR3).cell (i := 2) rfl
  have rf := (unhide HR3).frozen
  have k3 : Kept (fun b => b = w.heap.size + 1) V3 (((V3.setCell ⟨w.heap.size + 1, 0, none⟩ (.slice (some ⟨f, 0, none⟩) L.length fc)).setCell ⟨w.heap.size + 1, 1, none⟩ (.slice (some ⟨f2, 0, none⟩) T.length fc2)).setCell ⟨w.heap.size + 1, 2, none⟩ (.int .i64 tk)) := Kept.setCell (T := fun b => b = w.heap.size + 1) (Kept.setCell (T := fun b => b = w.heap.size + 1) (Kept.setCell (T := fun b => b = w.heap.size + 1) (Kept.refl _ V3) (p := ⟨w.heap.size + 1, 0, none⟩) rfl _) (p := ⟨w.heap.size + 1, 1, none⟩) rfl _) (p := ⟨w.heap.size + 1, 2, none⟩) rfl _
  have HK3 := hide k3
  have HR4 := hide ((((unhide HR3).set 0 (.slice (some ⟨f, 0, none⟩) L.length fc) (by simp)).set 1 (.slice (some ⟨f2, 0, none⟩) T.length fc2) (by simp)).set 2 (.int .i64 tk) (by simp))
  clear k3
  go_wp2
  have k0 := (unhide HR4).cell (i := 0) rfl
  have k1 := (unhide HR4).cell (i := 1) rfl
  have k2 := (unhide HR4).cell (i := 2) rfl
  refine bodyPost_ret (v := vHouse (.slice (some ⟨f, 0, none⟩) L.length fc) (.slice (some ⟨f2, 0, none⟩) T.length fc2) tk) (by simp [results, Try.results58, go_sem, vHouse, k0, k1, k2]) rfl ?_
  exact ⟨f, fc, f2, fc2, rfl, (unhide HL3).kept (unhide HK3) (by show ¬ f = w.heap.size + 1; omega), (unhide HT3).kept (unhide HK3) (by show ¬ f2 = w.heap.size + 1; omega), hcap, hcap2, by omega, by omega, by omega, (unhide HW3).trans ((unhide HK3).below (unhide HW3).size (fun b e => by have e : b = w.heap.size + 1 := e; omega))⟩

end Go.Proofs.Ytojlkdmlelgcbaa

/- Customs: the contract of the specification's l16With. Written by wip/mkcsub.py. -/
namespace Go.Proofs.Ytojlkdmlelgcbaa
open Go.RowKit

/-- A house with a lot more: a row of its own. -/
def WiA (w : World) (L : List LotT) (x : LotT) (tv : Value) (tk : Int) (e : Ending) (w' : World) : Prop :=
  ∃ g c : Nat, e = .returned (vHouse (.slice (some ⟨g, 0, none⟩) (L.length + 1) c) tv tk) ∧ OwnV w' g (recCells 7 eLot (insL L (lplc L x.1) x)) ∧ (L.length + 1 ≤ c ∧ c ≤ maxLen) ∧ w.heap.size ≤ g ∧ Below w.heap.size w w'
/-- What is held: the three boxes. -/
structure W3 (w W : World) (hv xv rv : List Value) : Prop where
  below : Below w.heap.size w W
  arg : OwnV W w.heap.size hv
  x : OwnV W (w.heap.size + 1) xv
  res : OwnV W (w.heap.size + 1 + 1) rv
theorem W3.step {w W W' : World} {hv xv rv : List Value} (h : W3 w W hv xv rv) (hb : Below W.heap.size W W') : W3 w W' hv xv rv := ⟨Below.step h.below hb, h.arg.step hb, h.x.step hb, h.res.step hb⟩

set_option maxRecDepth 1000000 in
set_option maxHeartbeats 12800000 in
theorem l16With_any (g cp : Nat) (fo : Option Addr) (fn fcap : Nat) (L : List LotT) (x0 x1 x2 x3 x4 x5 x6 tk : Int) (w : World) (h : OwnV w g (recCells 7 eLot L)) (hcp : L.length ≤ cp ∧ cp ≤ maxLen) (hs : L.length ≤ 1048575) :
    Calls Try.prog 61 #[vHouse (.slice (some ⟨g, 0, none⟩) L.length cp) (.slice fo fn fcap) tk, vLot x0 x1 x2 x3 x4 x5 x6] w fun e w' => WiA w L (x0, x1, x2, x3, x4, x5, x6) (.slice fo fn fcap) tk e w' := by
  have hgw := h.lt
  have hcm := hcp.2
  unfold maxLen at hcm
  have HRL : Hid (RLot w (.slice (some ⟨g, 0, none⟩) L.length cp) L) := h.recsIn hcp.1 hcp.2
  obtain ⟨V1, eV1⟩ : ∃ V, V = ((w.alloc (.cells #[.slice (some ⟨g, 0, none⟩) L.length cp, .slice fo fn fcap, .int .i64 tk] 27)).alloc (.cells #[.int .i64 x0, .int .i64 x1, .int .i64 x2, .int .i64 x3, .int .i64 x4, .int .i64 x5, .int .i64 x6] 39)).alloc (.cells #[.slice none 0 0, .slice none 0 0, .int .i64 0] 27) := ⟨_, rfl⟩
  have HS : Hid (W3 w V1 [.slice (some ⟨g, 0, none⟩) L.length cp, .slice fo fn fcap, .int .i64 tk] [.int .i64 x0, .int .i64 x1, .int .i64 x2, .int .i64 x3, .int .i64 x4, .int .i64 x5, .int .i64 x6] [.slice none 0 0, .slice none 0 0, .int .i64 0]) := by
    have h3 := s3_new w #[.slice (some ⟨g, 0, none⟩) L.length cp, .slice fo fn fcap, .int .i64 tk] #[.int .i64 x0, .int .i64 x1, .int .i64 x2, .int .i64 x3, .int .i64 x4, .int .i64 x5, .int .i64 x6] #[.slice none 0 0, .slice none 0 0, .int .i64 0] 27 39 27
    show W3 _ _ _ _ _
    rw [eV1]
    exact ⟨h3.below, h3.o1, h3.o2, h3.o3⟩
  unfold WiA
  unfold vHouse vLot
  go_enter Try.func61, Try.ntmps61
  go_upto_block 0 with (fail)
  rw [← eV1]
  clear eV1
  go_cut [5] (fun s5 wx => ∃ k : Nat, s5 = .int .i64 (k : Int) ∧ k ≤ L.length ∧ Hid (W3 w wx [.slice (some ⟨g, 0, none⟩) L.length cp, .slice fo fn fcap, .int .i64 tk] [.int .i64 x0, .int .i64 x1, .int .i64 x2, .int .i64 x3, .int .i64 x4, .int .i64 x5, .int .i64 x6] [.slice none 0 0, .slice none 0 0, .int .i64 0]) ∧ Hid (lplc L x0 = k))
  case first =>
    go_wp2_with fail
    go_loopg [5] L.length (fun gg iv wr => ∃ k : Nat, k ≤ L.length ∧ gg = L.length - k ∧ iv = .int .i64 k ∧ Hid (W3 w wr [.slice (some ⟨g, 0, none⟩) L.length cp, .slice fo fn fcap, .int .i64 tk] [.int .i64 x0, .int .i64 x1, .int .i64 x2, .int .i64 x3, .int .i64 x4, .int .i64 x5, .int .i64 x6] [.slice none 0 0, .slice none 0 0, .int .i64 0]) ∧ Hid (∀ t, t < k → lId L t < x0))
    case atStart => exact ⟨0, Nat.zero_le _, rfl, rfl, HS, fun t ht => by omega⟩
    case round =>
      clear HS
      obtain ⟨k, hk, rfl, rfl, HS, HT⟩ := hrel
      have a0 := (unhide HS).arg.cell (i := 0) rfl
      have b0 := (unhide HS).x.cell (i := 0) rfl
      by_cases hkn : k < L.length
      · have hki : (k : Int) < L.length := by omega
        obtain ⟨y, ey⟩ : ∃ y, y = lId L k := ⟨_, rfl⟩
        have hcl : wr.cell? ⟨g, k * 7, none⟩ = some (.int .i64 y) := by
          rw [ey]
          exact wcell3 (h.cell (recCells_get (n := 7) (enc := eLot) (L := L) (i := k) (j := 0) hkn (by omega))) (unhide HS).below
        by_cases hlt : y < x0
        · have HT' : Hid (∀ t, t < k + 1 → lId L t < x0) := fun t ht => by
            by_cases e : t = k
            · rw [e, ← ey]; exact hlt
            · exact unhide HT t (by omega)
          have dl : decide (y < x0) = true := by simpa using hlt
          clear HT ey
          go_upto_region 2 with (fail)
          refine wp_region_quiet_lit (by kernel_rfl) (by kernel_rfl) ?_
          repeat (go_big_quiet_step (fail))
          refine wpQuiet_nil ?_
          intro _ hw'
          obtain ⟨nq, hw''⟩ := hw'
          subst hw''
          go_wp2
          go_roundg (L.length - (k + 1))
          case measure => omega
          case rel => exact ⟨k + 1, by omega, rfl, by go_num, hide ((unhide HS).step (below_drewN (Below.refl _ _) _)), HT'⟩
        · have HP : Hid (lplc L x0 = k) := lplc_mk hk (unhide HT) (fun _ => by rw [← ey]; omega)
          have dl : decide (y < x0) = false := by simpa using hlt
          clear HT ey
          go_upto_region 2 with (fail)
          refine wp_region_quiet_lit (by kernel_rfl) (by kernel_rfl) ?_
          repeat (go_big_quiet_step (fail))
          refine wpQuiet_nil ?_
          intro _ hw'
          obtain ⟨nq, hw''⟩ := hw'
          subst hw''
          go_wp2
          go_meet
          exact ⟨k, rfl, hk, hide ((unhide HS).step (below_drewN (Below.refl _ _) _)), HP⟩
      · have hkn' : ¬ (k : Int) < L.length := by omega
        have dk : decide ((k : Int) < (L.length : Int)) = false := by rw [decide_eq_false_iff_not]; exact hkn'
        have dkN : decide (k < L.length) = false := by rw [decide_eq_false_iff_not]; exact hkn
        have HP : Hid (lplc L x0 = k) := lplc_mk hk (unhide HT) (fun h => absurd h hkn)
        clear HT
        go_upto_region 2 with (fail)
        refine wp_region_quiet_lit (by kernel_rfl) (by kernel_rfl) ?_
        repeat (go_big_quiet_step (fail))
        refine wpQuiet_nil ?_
        intro _ hw'
        obtain ⟨nq, hw''⟩ := hw'
        subst hw''
        go_wp2
        go_meet
        exact ⟨k, rfl, hk, hide ((unhide HS).step (below_drewN (Below.refl _ _) _)), HP⟩
  case rest =>
  obtain ⟨k, rfl, hk, HS2, EP⟩ := hcut
  generalize wc = Y at *
  clear HS
  have HS := HS2
  clear HS2 h
  have a0 := (unhide HS).arg.cell (i := 0) rfl
  have a1 := (unhide HS).arg.cell (i := 1) rfl
  have a2 := (unhide HS).arg.cell (i := 2) rfl
  have q0 := (unhide HS).x.cell (i := 0) rfl
  have q1 := (unhide HS).x.cell (i := 1) rfl
  have q2 := (unhide HS).x.cell (i := 2) rfl
  have q3 := (unhide HS).x.cell (i := 3) rfl
  have q4 := (unhide HS).x.cell (i := 4) rfl
  have q5 := (unhide HS).x.cell (i := 5) rfl
  have q6 := (unhide HS).x.cell (i := 6) rfl
  have AY := Below.alloc1 Y (.cells #[.int .i64 x0, .int .i64 x1, .int .i64 x2, .int .i64 x3, .int .i64 x4, .int .i64 x5, .int .i64 x6] 39)
  have HRB : Hid (RowB 39 7 eLot 0 (Y.alloc (.cells #[.int .i64 x0, .int .i64 x1, .int .i64 x2, .int .i64 x3, .int .i64 x4, .int .i64 x5, .int .i64 x6] 39)) (some ⟨Y.heap.size, 0, none⟩) 1 1 [(x0, x1, x2, x3, x4, x5, x6)]) := by
    have hb : Blk (Y.alloc (.cells #[.int .i64 x0, .int .i64 x1, .int .i64 x2, .int .i64 x3, .int .i64 x4, .int .i64 x5, .int .i64 x6] 39)) Y.heap.size 39 (recCells 7 eLot [(x0, x1, x2, x3, x4, x5, x6)]) := by
      rw [recCells_one, show (List.range 7).map (eLot (x0, x1, x2, x3, x4, x5, x6)) = [.int .i64 x0, .int .i64 x1, .int .i64 x2, .int .i64 x3, .int .i64 x4, .int .i64 x5, .int .i64 x6] by simp [List.range, List.range.loop, eLot]]
      exact Go.Deep.blk_alloc_new _ _
    exact hb.row (L := [(x0, x1, x2, x3, x4, x5, x6)]) (by simp)
  have HRE := hide (((unhide HRL).below (unhide HS).below).below AY)
  have hkk : (k : Int) ≤ L.length := by omega
  obtain ⟨da, eda⟩ : ∃ da : Option Addr, da = (if cp = k then some ⟨g, 0, none⟩ else (some ⟨g, 0, none⟩ : Option Addr).map (·.add (k * 7))) := ⟨_, rfl⟩
  have hsl : ∀ V, (Instr.slice 24 (.slice (some ⟨g, 0, none⟩) L.length cp) (some (.int .i64 (k : Int))) none none).run Try.prog V = .ok (.slice da (L.length - k) (cp - k)) V := fun V => by
    rw [eda]
    simp [go_sem, hkk]
  have hsl2 : ∀ V, (Instr.sliceAt 24 (.slice (some ⟨g, 0, none⟩) L.length cp) (some (.int .i64 (k : Int))) none none).run Try.prog V = .ok (.slice da (L.length - k) (cp - k)) V := fun V => by
    rw [eda]
    simp [go_sem, hkk]
  have HRD := hide (recs_drop (k := k) (unhide HRE))
  rw [← eda] at HRD
  clear eda HRE
  have b0a := ((unhide HS).step AY).arg.cell (i := 0) rfl
  have hGY := (unhide HS).res.lt
  clear AY
  go_upto_region 4 with (fail)
  go_cut [6] (fun s6 wx => ∃ gr cr : Nat, s6 = .slice (some ⟨gr, 0, none⟩) (1 + (L.length - k)) cr ∧ Y.heap.size ≤ gr ∧ Hid (RowB 39 7 eLot 0 wx (some ⟨gr, 0, none⟩) (1 + (L.length - k)) cr ([(x0, x1, x2, x3, x4, x5, x6)] ++ L.drop k)) ∧ Hid (Below Y.heap.size Y wx))
  case first =>
    go_region_law (first | (refine step_appTo tyLot (by rfl) (.tmp 26) (.tmp 30) (by rfl) 0 Y.heap.size 1 1 [(x0, x1, x2, x3, x4, x5, x6)] (by rfl) (by first | exact unhide HRB | exact (unhide HRB).below (Below.refl _ _).drew) (Nat.zero_le _) (by omega) da (L.length - k) (cp - k) (L.drop k) (by rfl) (by first | exact unhide HRD | exact RecsIn.below (unhide HRD) (Below.refl _ _).drew) (by omega) ?_; intro gr cr wr2 hL hK hor; have HLR := hide hL; have HBR : Hid (Below Y.heap.size Y wr2) := (by first | exact (Below.alloc1 _ _).trans (hK.below (Below.alloc1 _ _).size (fun b e => by omega)) | exact (Below.alloc1 _ _).drew.trans (hK.below (Below.alloc1 _ _).size (fun b e => by omega))); have hgr : Y.heap.size ≤ gr := hor.elim (fun e => by omega) (fun e => by rw [e]; exact (Below.alloc1 _ _).size); clear hL hK hor))
    all_goals
      go_wp2_with fail
      go_meet
      first
        | exact ⟨gr, cr, rfl, hgr, HLR, HBR⟩
        | exact ⟨gr, cr, rfl, hgr, hide ((unhide HLR).below (Below.refl _ _).drew), hide (unhide HBR).drew⟩
  case rest =>
  obtain ⟨gr, cr, rfl, hgr, HLR, HBR⟩ := hcut
  generalize wc = Z at *
  have hYZ := (unhide HBR).size
  have HSZ := hide ((unhide HS).step (unhide HBR))
  have hgrZ := ((unhide HLR).ownG (by omega)).2.2.2.1
  have hgYw := (unhide HS).below.size
  clear a0 a1 a2 q0 q1 q2 q3 q4 q5 q6 HRB HRD b0a hsl hsl2 HS
  have A13 := Below.alloc1 Z (.cells #[] 39)
  have HN := hide (rowB_new 39 7 eLot Z 0 (Nat.zero_le _))
  have HRT := hide (recs_take (k := k) (((unhide HRL).below (unhide HSZ).below).below A13) hk)
  have hcapk : (k : Int) ≤ cp := by omega
  have hs1 := fun V => lotSlice_hi (g := g) (m := L.length) hcapk V
  have hs2 := fun V => lotSliceAt_hi (g := g) (m := L.length) hcapk V
  have b0a := ((unhide HSZ).step A13).arg.cell (i := 0) rfl
  have HZ1 := hide A13
  clear A13
  go_upto_region 6 with (at_builtin; first | ((have xx := unhide HL1; clear xx); go_must (refine wpList_appTo tyLot _ rfl (.tmp 37) (.tmp 38) rfl 0 g1 k c1 (L.take k) rfl (unhide HL1) (Nat.zero_le _) (by omega) (some ⟨gr, 0, none⟩) (1 + (L.length - k)) cr ([(x0, x1, x2, x3, x4, x5, x6)] ++ L.drop k) rfl (unhide HLR1) (by omega) ?_); intro g2 c2 w2 hL hK hor; have HL2 := hide hL; have HBZ2 : Hid (Below Z.heap.size Z w2) := (unhide HBZ).trans (hK.below (unhide HBZ).size (fun b e => by omega)); have hg2 : Z.heap.size ≤ g2 := hor.elim (fun e => by omega) (fun e => by rw [e]; exact (unhide HBZ).size); have b0c := ((unhide HSZ).step (unhide HBZ2)).arg.cell (i := 0) rfl; have bfc := ((unhide HSZ).step (unhide HBZ2)).arg.frozen; clear hL hK hor) | (go_must (refine wpList_appTo tyLot _ rfl (.tmp 32) (.tmp 36) rfl 0 Z.heap.size 0 0 [] rfl (unhide HN) (Nat.zero_le _) (by omega) (some ⟨g, 0, none⟩) k cp (L.take k) rfl (unhide HRT) (by omega) ?_); intro g1 c1 w1 hL hK hor; rw [Nat.zero_add, List.nil_append] at hL; have HL1 := hide hL; have HBZ : Hid (Below Z.heap.size Z w1) := (unhide HZ1).trans (hK.below (unhide HZ1).size (fun b e => by omega)); have HLR1 := hide (((unhide HLR).kept (kept_of_below (T := fun _ => False) (unhide HBZ)) (fun _ _ _ _ h => h)).recs (by omega)); have hg1 : Z.heap.size ≤ g1 := hor.elim (fun e => by omega) (fun e => by rw [e]; exact (unhide HZ1).size); have hg1w := (hL.ownG (by omega)).2.2.2.1; clear hL hK hor))
  have eLn : k + (1 + (L.length - k)) = L.length + 1 := by omega
  rw [eLn] at HL2 ⊢
  have hown := (unhide HL2).ownG (by omega)
  have HLI : Hid (OwnV w2 g2 (recCells 7 eLot (insL L (lplc L x0) (x0, x1, x2, x3, x4, x5, x6)))) := by
    show OwnV _ _ _
    rw [unhide EP]
    exact hown.1
  have hc2 : L.length + 1 ≤ c2 ∧ c2 ≤ maxLen := ⟨hown.2.1, hown.2.2.1⟩
  have HW2 := hide ((unhide HSZ).step (unhide HBZ2))
  have kS := Kept.setCell (T := fun b => b = w.heap.size) (Kept.refl _ w2) (p := ⟨w.heap.size, 0, none⟩) rfl (.slice (some ⟨g2, 0, none⟩) (L.length + 1) c2)
  have HA3 := hide ((unhide HW2).arg.set 0 (.slice (some ⟨g2, 0, none⟩) (L.length + 1) c2) (by simp))
  have HB3 := hide ((unhide HW2).below.setCell (p := ⟨w.heap.size, 0, none⟩) (Nat.le_refl _) (.slice (some ⟨g2, 0, none⟩) (L.length + 1) c2))
  have HR3 := hide ((unhide HW2).res.kept kS (by show ¬ w.heap.size + 1 + 1 = w.heap.size; omega))
  have HL3 := hide ((unhide HLI).kept kS (by show ¬ g2 = w.heap.size; omega))
  obtain ⟨V9, eV9⟩ : ∃ V, V = w2.setCell ⟨w.heap.size, 0, none⟩ (.slice (some ⟨g2, 0, none⟩) (L.length + 1) c2) := ⟨_, rfl⟩
  rw [← eV9] at HA3 HB3 HR3 HL3 ⊢
  have hg2w : w.heap.size + 1 + 1 < g2 := by omega
  clear eV9 eLn HL1 HL2 HLR HLR1 HBZ HBZ2 HBR HN HRT HZ1 HSZ b0a b0c bfc hs1 hs2 hcapk HLI HW2 kS hown EP HRL
  have a0 := (unhide HA3).cell (i := 0) rfl
  have a1 := (unhide HA3).cell (i := 1) rfl
  have a2 := (unhide HA3).cell (i := 2) rfl
  have r0 := (unhide HR3).cell (i := 0) rfl
  have r1 := (unhide HR3).cell (i := 1) rfl
  have r2 := (unhide HR3).cell (i := 2) rfl
  have rf := (unhide HR3).frozen
  have k3 : Kept (fun b => b = w.heap.size + 1 + 1) V9 (((V9.setCell ⟨w.heap.size + 1 + 1, 0, none⟩ (.slice (some ⟨g2, 0, none⟩) (L.length + 1) c2)).setCell ⟨w.heap.size + 1 + 1, 1, none⟩ (.slice fo fn fcap)).setCell ⟨w.heap.size + 1 + 1, 2, none⟩ (.int .i64 tk)) := Kept.setCell (T := fun b => b = w.heap.size + 1 + 1) (Kept.setCell (T := fun b => b = w.heap.size + 1 + 1) (Kept.setCell (T := fun b => b = w.heap.size + 1 + 1) (Kept.refl _ V9) (p := ⟨w.heap.size + 1 + 1, 0, none⟩) rfl _) (p := ⟨w.heap.size + 1 + 1, 1, none⟩) rfl _) (p := ⟨w.heap.size + 1 + 1, 2, none⟩) rfl _
  have HK3 := hide k3
  have HR4 := hide ((((unhide HR3).set 0 (.slice (some ⟨g2, 0, none⟩) (L.length + 1) c2) (by simp)).set 1 (.slice fo fn fcap) (by simp)).set 2 (.int .i64 tk) (by simp))
  clear k3
  go_wp2
  have k0 := (unhide HR4).cell (i := 0) rfl
  have k1 := (unhide HR4).cell (i := 1) rfl
  have k2 := (unhide HR4).cell (i := 2) rfl
  refine bodyPost_ret (v := vHouse (.slice (some ⟨g2, 0, none⟩) (L.length + 1) c2) (.slice fo fn fcap) tk) (by simp [results, Try.results61, go_sem, vHouse, k0, k1, k2]) rfl ?_
  exact ⟨g2, c2, rfl, (unhide HL3).kept (unhide HK3) (by show ¬ g2 = w.heap.size + 1 + 1; omega), hc2, by omega, (unhide HB3).trans ((unhide HK3).below (unhide HB3).size (fun b e => by have e : b = w.heap.size + 1 + 1 := e; omega))⟩

end Go.Proofs.Ytojlkdmlelgcbaa

/- Customs: words for the specification's DoDeed. Written by wip/mkcsv.py. -/
namespace Go.Proofs.Ytojlkdmlelgcbaa
open Go.RowKit

/-- The specification's answer: a house that can be read as long as what lies beyond is kept, and a code. -/
def SpA (w : World) (r : HsT × Int) (e : Ending) (w' : World) : Prop :=
  ∃ lv tv, e = .returned (.tuple #[vHouse lv tv r.1.2.2, .int .i64 r.2]) ∧ (∀ W2, Kept (fun k => k < w.heap.size) w' W2 → HsIn W2 lv tv r.1) ∧ Below w.heap.size w w'
theorem spA_mk {w : World} {r : HsT × Int} {L : List LotT} {T : List TraderT} {tk c : Int} {lv tv : Value} {w' : World} (hr : r = ((L, T, tk), c)) (h : ∀ W2, Kept (fun k => k < w.heap.size) w' W2 → HsIn W2 lv tv (L, T, tk)) (hb : Below w.heap.size w w') : SpA w r (.returned (.tuple #[vHouse lv tv tk, .int .i64 c])) w' := by
  subst hr; exact ⟨lv, tv, rfl, h, hb⟩
/-- What is held while the specification's DoDeed works: the arguments' boxes, the result, the house of its own in a box. -/
structure Sp (w W : World) (hv dv : List Value) (G g1 g2 : Nat) (bx : List Value) (L : List LotT) (T : List TraderT) : Prop where
  below : Below w.heap.size w W
  arg : OwnV W w.heap.size hv
  op : OwnV W (w.heap.size + 1) dv
  res : OwnV W (w.heap.size + 1 + 1) [.slice none 0 0, .slice none 0 0, .int .i64 0]
  box : OwnV W G bx
  lots : OwnV W g1 (recCells 7 eLot L)
  trs : OwnV W g2 (recCells 3 eTrader T)
  ap : w.heap.size + 1 + 1 < G ∧ w.heap.size + 1 + 1 < g1 ∧ w.heap.size + 1 + 1 < g2 ∧ G ≠ g1 ∧ G ≠ g2 ∧ g1 ≠ g2
section
variable {w W W' : World} {hv dv bx : List Value} {G g1 g2 c1 c2 : Nat} {L : List LotT} {T : List TraderT}
theorem Sp.step (h : Sp w W hv dv G g1 g2 bx L T) (hb : Below W.heap.size W W') : Sp w W' hv dv G g1 g2 bx L T := ⟨Below.step h.below hb, h.arg.step hb, h.op.step hb, h.res.step hb, h.box.step hb, h.lots.step hb, h.trs.step hb, h.ap⟩
theorem Sp.kept {P : Nat → Prop} (h : Sp w W hv dv G g1 g2 bx L T) (hk : Kept P W W') (hP : ∀ k, P k → w.heap.size + 1 + 1 < k ∧ k ≠ G ∧ k ≠ g1 ∧ k ≠ g2) : Sp w W' hv dv G g1 g2 bx L T :=
  ⟨h.below.trans (hk.below h.below.size fun k x => by have := (hP k x).1; omega), h.arg.kept hk (fun x => by have := (hP _ x).1; omega), h.op.kept hk (fun x => by have := (hP _ x).1; omega), h.res.kept hk (fun x => by have := (hP _ x).1; omega), h.box.kept hk (fun x => (hP _ x).2.1 rfl), h.lots.kept hk (fun x => (hP _ x).2.2.1 rfl), h.trs.kept hk (fun x => (hP _ x).2.2.2 rfl), h.ap⟩
/-- The house is told. -/
theorem res_fin {n1 n2 : Nat} {tk : Int} (hb : Below w.heap.size w W) (hr : OwnV W (w.heap.size + 1 + 1) [.slice none 0 0, .slice none 0 0, .int .i64 0]) (hl : OwnV W g1 (recCells 7 eLot L)) (ht : OwnV W g2 (recCells 3 eTrader T)) (h1 : w.heap.size + 1 + 1 < g1) (h2 : w.heap.size + 1 + 1 < g2) (e1 : L.length = n1) (e2 : T.length = n2) (hc1 : n1 ≤ c1 ∧ c1 ≤ maxLen) (hc2 : n2 ≤ c2 ∧ c2 ≤ maxLen) :
    let lv := Value.slice (some ⟨g1, 0, none⟩) n1 c1
    let tv := Value.slice (some ⟨g2, 0, none⟩) n2 c2
    let W9 := ((W.setCell ⟨w.heap.size + 1 + 1, 0, none⟩ lv).setCell ⟨w.heap.size + 1 + 1, 1, none⟩ tv).setCell ⟨w.heap.size + 1 + 1, 2, none⟩ (.int .i64 tk)
    OwnV W9 (w.heap.size + 1 + 1) [lv, tv, .int .i64 tk] ∧ (∀ W2, Kept (fun k => k < w.heap.size) W9 W2 → HsIn W2 lv tv (L, T, tk)) ∧ Below w.heap.size w W9 := by
  subst e1 e2
  intro lv tv W9
  have k3 : Kept (fun b => b = w.heap.size + 1 + 1) W W9 := Kept.setCell (T := fun b => b = w.heap.size + 1 + 1) (Kept.setCell (T := fun b => b = w.heap.size + 1 + 1) (Kept.setCell (T := fun b => b = w.heap.size + 1 + 1) (Kept.refl _ W) (p := ⟨w.heap.size + 1 + 1, 0, none⟩) rfl _) (p := ⟨w.heap.size + 1 + 1, 1, none⟩) rfl _) (p := ⟨w.heap.size + 1 + 1, 2, none⟩) rfl _
  refine ⟨((hr.set 0 lv (by simp)).set 1 tv (by simp)).set 2 _ (by simp), fun W2 hk => ⟨?_, ?_⟩, hb.trans (k3.below hb.size fun k e => by have e : k = _ := e; omega)⟩
  · exact ((hl.kept k3 (fun e => by have e : g1 = _ := e; omega)).kept hk (fun e => by have e : g1 < _ := e; omega)).recsIn hc1.1 hc1.2
  · exact ((ht.kept k3 (fun e => by have e : g2 = _ := e; omega)).kept hk (fun e => by have e : g2 < _ := e; omega)).recsIn hc2.1 hc2.2
end
/-- One record of a row written whole. -/
theorem rec_put {α : Type} [Inhabited α] {n : Nat} (hn : 0 < n) (enc : α → Nat → Value) (L : List α) {k : Nat} (hk : k < L.length) (y : α) : (recCells n enc L).take (k * n) ++ (List.range n).map (enc y) ++ (recCells n enc L).drop (k * n + n) = recCells n enc (L.set k y) := by
  have e : L.set k y = L.take k ++ ([y] ++ L.drop (k + 1)) := by
    rw [List.set_eq_take_append_cons_drop, if_pos hk]; rfl
  obtain ⟨h1, _⟩ := rec_take hn enc L (i := k) (by omega)
  obtain ⟨_, h2⟩ := rec_take hn enc L (i := k + 1) (by omega)
  rw [show k * n + n = (k + 1) * n by rw [Nat.succ_mul], h1, h2, e, recCells_append n hn, recCells_append n hn, recCells_one, List.append_assoc]
theorem lot_put {W : World} {g k : Nat} {L : List LotT} (h : OwnV W g (recCells 7 eLot L)) (hk : k < L.length) (x0 x1 x2 x3 x4 x5 x6 : Int) :
    OwnV (((((((W.setCell ⟨g, k * 7, none⟩ (.int .i64 x0)).setCell ⟨g, k * 7 + 1, none⟩ (.int .i64 x1)).setCell ⟨g, k * 7 + 2, none⟩ (.int .i64 x2)).setCell ⟨g, k * 7 + 3, none⟩ (.int .i64 x3)).setCell ⟨g, k * 7 + 4, none⟩ (.int .i64 x4)).setCell ⟨g, k * 7 + 5, none⟩ (.int .i64 x5)).setCell ⟨g, k * 7 + 6, none⟩ (.int .i64 x6)) g (recCells 7 eLot (L.set k (x0, x1, x2, x3, x4, x5, x6))) := by
  have hl : k * 7 + 6 < (recCells 7 eLot L).length := by rw [recCells_length]; omega
  have h9 := own_setCells (g := g) [.int .i64 x0, .int .i64 x1, .int .i64 x2, .int .i64 x3, .int .i64 x4, .int .i64 x5, .int .i64 x6] (k * 7) (recCells 7 eLot L) W h (by simp; omega)
  have e := rec_put (n := 7) (by omega) eLot L hk (x0, x1, x2, x3, x4, x5, x6)
  rw [show (List.range 7).map (eLot (x0, x1, x2, x3, x4, x5, x6)) = [.int .i64 x0, .int .i64 x1, .int .i64 x2, .int .i64 x3, .int .i64 x4, .int .i64 x5, .int .i64 x6] by simp [List.range, List.range.loop, eLot]] at e
  rw [← e]
  exact h9
theorem tr_put {W : World} {g k : Nat} {T : List TraderT} (h : OwnV W g (recCells 3 eTrader T)) (hk : k < T.length) (x y z : Int) :
    OwnV (((W.setCell ⟨g, k * 3, none⟩ (.int .i64 x)).setCell ⟨g, k * 3 + 1, none⟩ (.int .i64 y)).setCell ⟨g, k * 3 + 2, none⟩ (.int .i64 z)) g (recCells 3 eTrader (T.set k (x, y, z))) := by
  have hl : k * 3 + 2 < (recCells 3 eTrader T).length := by rw [recCells_length]; omega
  have h9 := own_setCells (g := g) [.int .i64 x, .int .i64 y, .int .i64 z] (k * 3) (recCells 3 eTrader T) W h (by simp; omega)
  have e := rec_put (n := 3) (by omega) eTrader T hk (x, y, z)
  rw [show (List.range 3).map (eTrader (x, y, z)) = [.int .i64 x, .int .i64 y, .int .i64 z] by simp [List.range, List.range.loop, eTrader]] at e
  rw [← e]
  exact h9
theorem keptS7 (W : World) (g k : Nat) (a b c d e f x : Value) : Kept (fun q => q = g) W (((((((W.setCell ⟨g, k, none⟩ a).setCell ⟨g, k + 1, none⟩ b).setCell ⟨g, k + 2, none⟩ c).setCell ⟨g, k + 3, none⟩ d).setCell ⟨g, k + 4, none⟩ e).setCell ⟨g, k + 5, none⟩ f).setCell ⟨g, k + 6, none⟩ x) := by
  have S := fun (V : World) i u => Kept.setCell (T := fun q => q = g) (Kept.refl _ V) (p := ⟨g, i, none⟩) rfl u
  exact ((((((S _ _ _).trans (S _ _ _)).trans (S _ _ _)).trans (S _ _ _)).trans (S _ _ _)).trans (S _ _ _)).trans (S _ _ _)
theorem keptS3 (W : World) (g k : Nat) (a b c : Value) : Kept (fun q => q = g) W (((W.setCell ⟨g, k, none⟩ a).setCell ⟨g, k + 1, none⟩ b).setCell ⟨g, k + 2, none⟩ c) := by
  have S := fun (V : World) i u => Kept.setCell (T := fun q => q = g) (Kept.refl _ V) (p := ⟨g, i, none⟩) rfl u
  exact ((S _ _ _).trans (S _ _ _)).trans (S _ _ _)
section
variable {w W : World} {hv dv : List Value} {G g1 g2 : Nat} {L : List LotT} {T : List TraderT}
theorem Sp.far {bx : List Value} (h : Sp w W hv dv G g1 g2 bx L T) {g : Nat} (hg : w.heap.size + 1 + 1 < g ∧ g ≠ G ∧ g ≠ g1 ∧ g ≠ g2) (i : Nat) (u : Value) : Sp w (W.setCell ⟨g, i, none⟩ u) hv dv G g1 g2 bx L T :=
  h.kept (P := fun b => b = g) (Kept.setCell (T := fun b => b = g) (Kept.refl _ W) (p := ⟨g, i, none⟩) rfl u) (fun k e => by have e : k = g := e; rw [e]; exact hg)
theorem Sp.setBox {bx : List Value} (h : Sp w W hv dv G g1 g2 bx L T) (i : Nat) (u : Value) (hi : i < bx.length) : Sp w (W.setCell ⟨G, i, none⟩ u) hv dv G g1 g2 (bx.set i u) L T := by
  obtain ⟨a1, a2, a3, a4, a5, a6⟩ := h.ap
  have k := Kept.setCell (T := fun b => b = G) (Kept.refl _ W) (p := ⟨G, i, none⟩) rfl u
  exact ⟨h.below.trans (k.below h.below.size fun q e => by have e : q = G := e; omega), h.arg.kept k (fun e => by have e : _ = G := e; omega), h.op.kept k (fun e => by have e : _ = G := e; omega), h.res.kept k (fun e => by have e : _ = G := e; omega), h.box.set i u hi, h.lots.kept k (fun e => a4 e.symm), h.trs.kept k (fun e => a5 e.symm), h.ap⟩
theorem Sp.setLot {bx : List Value} (h : Sp w W hv dv G g1 g2 bx L T) {k : Nat} (hk : k < L.length) (x0 x1 x2 x3 x4 x5 x6 : Int) : Sp w (((((((W.setCell ⟨g1, k * 7, none⟩ (.int .i64 x0)).setCell ⟨g1, k * 7 + 1, none⟩ (.int .i64 x1)).setCell ⟨g1, k * 7 + 2, none⟩ (.int .i64 x2)).setCell ⟨g1, k * 7 + 3, none⟩ (.int .i64 x3)).setCell ⟨g1, k * 7 + 4, none⟩ (.int .i64 x4)).setCell ⟨g1, k * 7 + 5, none⟩ (.int .i64 x5)).setCell ⟨g1, k * 7 + 6, none⟩ (.int .i64 x6)) hv dv G g1 g2 bx (L.set k (x0, x1, x2, x3, x4, x5, x6)) T := by
  obtain ⟨a1, a2, a3, a4, a5, a6⟩ := h.ap
  have q := keptS7 W g1 (k * 7) (.int .i64 x0) (.int .i64 x1) (.int .i64 x2) (.int .i64 x3) (.int .i64 x4) (.int .i64 x5) (.int .i64 x6)
  exact ⟨h.below.trans (q.below h.below.size fun b e => by have e : b = g1 := e; omega), h.arg.kept q (fun e => by have e : _ = g1 := e; omega), h.op.kept q (fun e => by have e : _ = g1 := e; omega), h.res.kept q (fun e => by have e : _ = g1 := e; omega), h.box.kept q a4, lot_put h.lots hk x0 x1 x2 x3 x4 x5 x6, h.trs.kept q (fun e => a6 e.symm), h.ap⟩
theorem Sp.setTr {bx : List Value} (h : Sp w W hv dv G g1 g2 bx L T) {k : Nat} (hk : k < T.length) (x y z : Int) : Sp w (((W.setCell ⟨g2, k * 3, none⟩ (.int .i64 x)).setCell ⟨g2, k * 3 + 1, none⟩ (.int .i64 y)).setCell ⟨g2, k * 3 + 2, none⟩ (.int .i64 z)) hv dv G g1 g2 bx L (T.set k (x, y, z)) := by
  obtain ⟨a1, a2, a3, a4, a5, a6⟩ := h.ap
  have q := keptS3 W g2 (k * 3) (.int .i64 x) (.int .i64 y) (.int .i64 z)
  exact ⟨h.below.trans (q.below h.below.size fun b e => by have e : b = g2 := e; omega), h.arg.kept q (fun e => by have e : _ = g2 := e; omega), h.op.kept q (fun e => by have e : _ = g2 := e; omega), h.res.kept q (fun e => by have e : _ = g2 := e; omega), h.box.kept q a5, h.lots.kept q a6, tr_put h.trs hk x y z, h.ap⟩
end

end Go.Proofs.Ytojlkdmlelgcbaa

/- Customs: the specification's DoDeed: a bad call. Written by wip/mkcsv.py. -/
namespace Go.Proofs.Ytojlkdmlelgcbaa
open Go.RowKit

set_option maxRecDepth 1000000 in
set_option maxHeartbeats 25600000 in
theorem specBad_any (lv tv : Value) (L : List LotT) (T : List TraderT) (tk kd id ow ma va ra nw : Int) (w : World) (h : HsIn w lv tv (L, T, tk)) (hs : L.length ≤ 1048576) (hT : T.length ≤ 1048576) (hbad : (houseB (L, T, tk) && deedB T.length (kd, id, ow, ma, va, ra, nw)) = false) :
    Calls Try.prog 23 #[vHouse lv tv tk, vDeed kd id ow ma va ra nw] w fun e w' => SpA w (doH (L, T, tk) (kd, id, ow, ma, va, ra, nw)) e w' := by
  have HV := hide h
  obtain ⟨h1, h2⟩ := h
  obtain ⟨ao, lcap, rfl, -⟩ := h1
  obtain ⟨fo, fcap, rfl, -⟩ := h2
  dsimp only at HV
  have QC := hide fun V (hV : Below w.heap.size w V) => l16Copy_any _ _ L T tk V ((unhide HV).below hV) hs hT
  have QB := hide fun V (hV : Below w.heap.size w V) => l16Bad_any _ _ L T tk kd id ow ma va ra nw V ((unhide HV).below hV) hT
  obtain ⟨R, eR⟩ : ∃ r, r = doH (L, T, tk) (kd, id, ow, ma, va, ra, nw) := ⟨_, rfl⟩
  rw [← eR]
  have ER := hide eR
  clear eR
  have H3 := hide (s3_new w #[.slice ao L.length lcap, .slice fo T.length fcap, .int .i64 tk] #[.int .i64 kd, .int .i64 id, .int .i64 ow, .int .i64 ma, .int .i64 va, .int .i64 ra, .int .i64 nw] #[.slice none 0 0, .slice none 0 0, .int .i64 0] 27 34 27)
  obtain ⟨V0, eV0⟩ : ∃ V, V = ((w.alloc (.cells #[.slice ao L.length lcap, .slice fo T.length fcap, .int .i64 tk] 27)).alloc (.cells #[.int .i64 kd, .int .i64 id, .int .i64 ow, .int .i64 ma, .int .i64 va, .int .i64 ra, .int .i64 nw] 34)).alloc (.cells #[.slice none 0 0, .slice none 0 0, .int .i64 0] 27) := ⟨_, rfl⟩
  rw [← eV0] at H3
  have hV0 := (unhide H3).o3.lt
  unfold vHouse at QB ⊢
  unfold CpA vHouse at QC
  unfold vDeed at QB ⊢
  go_enter Try.func23, Try.ntmps23
  go_upto_region 1 with (fail)
  rw [← eV0]
  clear eV0
  have a0 := (unhide H3).o1.cell (i := 0) rfl
  have a1 := (unhide H3).o1.cell (i := 1) rfl
  have a2 := (unhide H3).o1.cell (i := 2) rfl
  go_wp2_with fail
  refine (unhide QC _ (unhide H3).below).mono ?_
  rintro e V1 ⟨g1, c1, g2, c2, rfl, hl1, ht1, hc1, hc2, hg1, hg2, hg12, hb⟩
  have A1 := Below.alloc1 V1 (.cells #[.slice (some ⟨g1, 0, none⟩) L.length c1, .slice (some ⟨g2, 0, none⟩) T.length c2, .int .i64 tk] 27)
  have h3 := (unhide H3).step hb
  have hsz := hb.size
  have hl1l := hl1.lt
  have ht1l := ht1.lt
  have HS : Hid (Sp w (V1.alloc (.cells #[.slice (some ⟨g1, 0, none⟩) L.length c1, .slice (some ⟨g2, 0, none⟩) T.length c2, .int .i64 tk] 27)) [.slice ao L.length lcap, .slice fo T.length fcap, .int .i64 tk] [.int .i64 kd, .int .i64 id, .int .i64 ow, .int .i64 ma, .int .i64 va, .int .i64 ra, .int .i64 nw] V1.heap.size g1 g2 [.slice (some ⟨g1, 0, none⟩) L.length c1, .slice (some ⟨g2, 0, none⟩) T.length c2, .int .i64 tk] L T) := ⟨Below.step h3.below A1, h3.o1.step A1, h3.o2.step A1, h3.o3.step A1, ownV_alloc V1 #[.slice (some ⟨g1, 0, none⟩) L.length c1, .slice (some ⟨g2, 0, none⟩) T.length c2, .int .i64 tk] 27, hl1.step A1, ht1.step A1, by omega, by omega, by omega, by omega, by omega, by omega⟩
  clear hb h3 hl1 ht1 H3 QC a0 a1 a2 A1
  go_upto_region 2 with (fail)
  obtain ⟨V2, eV2⟩ : ∃ V, V = V1.alloc (.cells #[.slice (some ⟨g1, 0, none⟩) L.length c1, .slice (some ⟨g2, 0, none⟩) T.length c2, .int .i64 tk] 27) := ⟨_, rfl⟩
  rw [← eV2] at HS ⊢
  clear eV2
  obtain ⟨G, eG⟩ : ∃ g, g = V1.heap.size := ⟨_, rfl⟩
  rw [← eG] at HS ⊢
  clear eG hl1l ht1l hsz
  have hap := (unhide HS).ap
  have a0 := (unhide HS).arg.cell (i := 0) rfl
  have a1 := (unhide HS).arg.cell (i := 1) rfl
  have a2 := (unhide HS).arg.cell (i := 2) rfl
  have o0 := (unhide HS).op.cell (i := 0) rfl
  have o1 := (unhide HS).op.cell (i := 1) rfl
  have o2 := (unhide HS).op.cell (i := 2) rfl
  have o3 := (unhide HS).op.cell (i := 3) rfl
  have o4 := (unhide HS).op.cell (i := 4) rfl
  have o5 := (unhide HS).op.cell (i := 5) rfl
  have o6 := (unhide HS).op.cell (i := 6) rfl
  go_wp2_with fail
  refine (unhide QB _ (unhide HS).below).mono ?_
  rintro e V3 ⟨rfl, hb⟩
  replace HS := hide ((unhide HS).step hb)
  clear hb QB a0 a1 a2 o0 o1 o2 o3 o4 o5 o6
  have EF : Hid (R = ((L, T, tk), 1)) := by show _ = _; rw [unhide ER, doH, if_pos hbad]
  rw [hbad]
  have b0 := (unhide HS).box.cell (i := 0) rfl
  have b1 := (unhide HS).box.cell (i := 1) rfl
  have b2 := (unhide HS).box.cell (i := 2) rfl
  have r0 := (unhide HS).res.cell (i := 0) rfl
  have r1 := (unhide HS).res.cell (i := 1) rfl
  have r2 := (unhide HS).res.cell (i := 2) rfl
  have rf := (unhide HS).res.frozen
  have HF := hide (res_fin (c1 := c1) (c2 := c2) (tk := tk) (unhide HS).below (unhide HS).res (unhide HS).lots (unhide HS).trs hap.2.1 hap.2.2.1 rfl rfl hc1 hc2)
  dsimp only at HF
  have hnG : ¬ G = w.heap.size + 1 + 1 := by omega
  go_wp2
  have k0 := (unhide HF).1.cell (i := 0) rfl
  have k1 := (unhide HF).1.cell (i := 1) rfl
  have k2 := (unhide HF).1.cell (i := 2) rfl
  refine bodyPost_ret (v := .tuple #[vHouse (.slice (some ⟨g1, 0, none⟩) L.length c1) (.slice (some ⟨g2, 0, none⟩) T.length c2) (tk), .int .i64 1]) (by simp [results, Try.results23, go_sem, vHouse, k0, k1, k2]) rfl ?_
  exact spA_mk (unhide EF) (unhide HF).2.1 (unhide HF).2.2

end Go.Proofs.Ytojlkdmlelgcbaa

/- Customs: the specification's DoDeed: a lot that is landed. Written by wip/mkcsv.py. -/
namespace Go.Proofs.Ytojlkdmlelgcbaa
open Go.RowKit

set_option maxRecDepth 1000000 in
set_option maxHeartbeats 25600000 in
theorem specLand_any (lv tv : Value) (L : List LotT) (T : List TraderT) (tk id ow ma va ra nw : Int) (w : World) (h : HsIn w lv tv (L, T, tk)) (hs : L.length ≤ 1048576) (hT : T.length ≤ 1048576) (hgood : (houseB (L, T, tk) && deedB T.length (1, id, ow, ma, va, ra, nw)) = true) :
    Calls Try.prog 23 #[vHouse lv tv tk, vDeed 1 id ow ma va ra nw] w fun e w' => SpA w (doH (L, T, tk) (1, id, ow, ma, va, ra, nw)) e w' := by
  have HV := hide h
  obtain ⟨h1, h2⟩ := h
  obtain ⟨ao, lcap, rfl, -⟩ := h1
  obtain ⟨fo, fcap, rfl, -⟩ := h2
  dsimp only at HV
  have QC := hide fun V (hV : Below w.heap.size w V) => l16Copy_any _ _ L T tk V ((unhide HV).below hV) hs hT
  have QB := hide fun V (hV : Below w.heap.size w V) => l16Bad_any _ _ L T tk 1 id ow ma va ra nw V ((unhide HV).below hV) hT
  obtain ⟨R, eR⟩ : ∃ r, r = doH (L, T, tk) (1, id, ow, ma, va, ra, nw) := ⟨_, rfl⟩
  rw [← eR]
  have ER := hide eR
  clear eR
  have H3 := hide (s3_new w #[.slice ao L.length lcap, .slice fo T.length fcap, .int .i64 tk] #[.int .i64 1, .int .i64 id, .int .i64 ow, .int .i64 ma, .int .i64 va, .int .i64 ra, .int .i64 nw] #[.slice none 0 0, .slice none 0 0, .int .i64 0] 27 34 27)
  obtain ⟨V0, eV0⟩ : ∃ V, V = ((w.alloc (.cells #[.slice ao L.length lcap, .slice fo T.length fcap, .int .i64 tk] 27)).alloc (.cells #[.int .i64 1, .int .i64 id, .int .i64 ow, .int .i64 ma, .int .i64 va, .int .i64 ra, .int .i64 nw] 34)).alloc (.cells #[.slice none 0 0, .slice none 0 0, .int .i64 0] 27) := ⟨_, rfl⟩
  rw [← eV0] at H3
  have hV0 := (unhide H3).o3.lt
  unfold vHouse at QB ⊢
  unfold CpA vHouse at QC
  unfold vDeed at QB ⊢
  go_enter Try.func23, Try.ntmps23
  go_upto_region 1 with (fail)
  rw [← eV0]
  clear eV0
  have a0 := (unhide H3).o1.cell (i := 0) rfl
  have a1 := (unhide H3).o1.cell (i := 1) rfl
  have a2 := (unhide H3).o1.cell (i := 2) rfl
  go_wp2_with fail
  refine (unhide QC _ (unhide H3).below).mono ?_
  rintro e V1 ⟨g1, c1, g2, c2, rfl, hl1, ht1, hc1, hc2, hg1, hg2, hg12, hb⟩
  have A1 := Below.alloc1 V1 (.cells #[.slice (some ⟨g1, 0, none⟩) L.length c1, .slice (some ⟨g2, 0, none⟩) T.length c2, .int .i64 tk] 27)
  have h3 := (unhide H3).step hb
  have hsz := hb.size
  have hl1l := hl1.lt
  have ht1l := ht1.lt
  have HS : Hid (Sp w (V1.alloc (.cells #[.slice (some ⟨g1, 0, none⟩) L.length c1, .slice (some ⟨g2, 0, none⟩) T.length c2, .int .i64 tk] 27)) [.slice ao L.length lcap, .slice fo T.length fcap, .int .i64 tk] [.int .i64 1, .int .i64 id, .int .i64 ow, .int .i64 ma, .int .i64 va, .int .i64 ra, .int .i64 nw] V1.heap.size g1 g2 [.slice (some ⟨g1, 0, none⟩) L.length c1, .slice (some ⟨g2, 0, none⟩) T.length c2, .int .i64 tk] L T) := ⟨Below.step h3.below A1, h3.o1.step A1, h3.o2.step A1, h3.o3.step A1, ownV_alloc V1 #[.slice (some ⟨g1, 0, none⟩) L.length c1, .slice (some ⟨g2, 0, none⟩) T.length c2, .int .i64 tk] 27, hl1.step A1, ht1.step A1, by omega, by omega, by omega, by omega, by omega, by omega⟩
  clear hb h3 hl1 ht1 H3 QC a0 a1 a2 A1
  go_upto_region 2 with (fail)
  obtain ⟨V2, eV2⟩ : ∃ V, V = V1.alloc (.cells #[.slice (some ⟨g1, 0, none⟩) L.length c1, .slice (some ⟨g2, 0, none⟩) T.length c2, .int .i64 tk] 27) := ⟨_, rfl⟩
  rw [← eV2] at HS ⊢
  clear eV2
  obtain ⟨G, eG⟩ : ∃ g, g = V1.heap.size := ⟨_, rfl⟩
  rw [← eG] at HS ⊢
  clear eG hl1l ht1l hsz
  have hap := (unhide HS).ap
  have a0 := (unhide HS).arg.cell (i := 0) rfl
  have a1 := (unhide HS).arg.cell (i := 1) rfl
  have a2 := (unhide HS).arg.cell (i := 2) rfl
  have o0 := (unhide HS).op.cell (i := 0) rfl
  have o1 := (unhide HS).op.cell (i := 1) rfl
  have o2 := (unhide HS).op.cell (i := 2) rfl
  have o3 := (unhide HS).op.cell (i := 3) rfl
  have o4 := (unhide HS).op.cell (i := 4) rfl
  have o5 := (unhide HS).op.cell (i := 5) rfl
  have o6 := (unhide HS).op.cell (i := 6) rfl
  go_wp2_with fail
  refine (unhide QB _ (unhide HS).below).mono ?_
  rintro e V3 ⟨rfl, hb⟩
  replace HS := hide ((unhide HS).step hb)
  clear hb QB a0 a1 a2 o0 o1 o2 o3 o4 o5 o6
  have HH0 : Hid (HOk (L, T, tk)) := (houseB_iff _).1 (by have := hgood; rw [Bool.and_eq_true] at this; exact this.1)
  have HA := hide (unhide HH0).asc
  dsimp only at HA
  rw [hgood]
  have QF := hide fun V i (hV : Below w.heap.size w V) => l16Find_any _ _ L T tk i V ((unhide HV).below hV) (unhide HA)
  unfold vHouse at QF
  have a0 := (unhide HS).arg.cell (i := 0) rfl
  have a1 := (unhide HS).arg.cell (i := 1) rfl
  have a2 := (unhide HS).arg.cell (i := 2) rfl
  have o0 := (unhide HS).op.cell (i := 0) rfl
  have o1 := (unhide HS).op.cell (i := 1) rfl
  have o2 := (unhide HS).op.cell (i := 2) rfl
  have o3 := (unhide HS).op.cell (i := 3) rfl
  have o4 := (unhide HS).op.cell (i := 4) rfl
  have o5 := (unhide HS).op.cell (i := 5) rfl
  have o6 := (unhide HS).op.cell (i := 6) rfl
  go_wp2_with fail
  refine (unhide QF _ id (unhide HS).below).mono ?_
  rintro e V4 ⟨rfl, hb⟩
  replace HS := hide ((unhide HS).step hb)
  clear hb a0 a1 a2 o0 o1 o2 o3 o4 o5 o6
  have a0 := (unhide HS).arg.cell (i := 0) rfl
  have a1 := (unhide HS).arg.cell (i := 1) rfl
  have a2 := (unhide HS).arg.cell (i := 2) rfl
  have o0 := (unhide HS).op.cell (i := 0) rfl
  have o1 := (unhide HS).op.cell (i := 1) rfl
  have o2 := (unhide HS).op.cell (i := 2) rfl
  have o3 := (unhide HS).op.cell (i := 3) rfl
  have o4 := (unhide HS).op.cell (i := 4) rfl
  have o5 := (unhide HS).op.cell (i := 5) rfl
  have o6 := (unhide HS).op.cell (i := 6) rfl
  have ER2 : Hid (R = if roomL L id = false then ((L, T, tk), 2) else ((insL L (lplc L id) (id, ow, ma, va, ra, 1, 0), T, tk), 0)) := by show _ = _; rw [unhide ER, doH, if_neg (by rw [hgood]; simp)]; rfl
  have h40 := (unhide HH0).nl
  dsimp only at h40
  cases hl : lhas L id with
  | true =>
    have EF : Hid (R = ((L, T, tk), 2)) := by show _ = _; rw [unhide ER2, if_pos (by simp [roomL, hl])]
    have elf : lfnd L id = (lplc L id : Nat) := by rw [lfnd, if_pos hl]
    generalize lfnd L id = fi at *
    have d1 : decide (0 ≤ fi) = true := by rw [decide_eq_true_eq]; omega
    clear elf
    have b0 := (unhide HS).box.cell (i := 0) rfl
    have b1 := (unhide HS).box.cell (i := 1) rfl
    have b2 := (unhide HS).box.cell (i := 2) rfl
    have r0 := (unhide HS).res.cell (i := 0) rfl
    have r1 := (unhide HS).res.cell (i := 1) rfl
    have r2 := (unhide HS).res.cell (i := 2) rfl
    have rf := (unhide HS).res.frozen
    have HF := hide (res_fin (c1 := c1) (c2 := c2) (tk := tk) (unhide HS).below (unhide HS).res (unhide HS).lots (unhide HS).trs hap.2.1 hap.2.2.1 rfl rfl hc1 hc2)
    dsimp only at HF
    have hnG : ¬ G = w.heap.size + 1 + 1 := by omega
    go_wp2
    have k0 := (unhide HF).1.cell (i := 0) rfl
    have k1 := (unhide HF).1.cell (i := 1) rfl
    have k2 := (unhide HF).1.cell (i := 2) rfl
    refine bodyPost_ret (v := .tuple #[vHouse (.slice (some ⟨g1, 0, none⟩) L.length c1) (.slice (some ⟨g2, 0, none⟩) T.length c2) (tk), .int .i64 2]) (by simp [results, Try.results23, go_sem, vHouse, k0, k1, k2]) rfl ?_
    exact spA_mk (unhide EF) (unhide HF).2.1 (unhide HF).2.2
  | false =>
    have elf : lfnd L id = -1 := by rw [lfnd, if_neg (by rw [hl]; simp)]
    rw [elf]
    by_cases h4 : L.length = 40
    · have EF : Hid (R = ((L, T, tk), 2)) := by show _ = _; rw [unhide ER2, if_pos (by simp [roomL, h4])]
      have d2 : ((L.length : Int) == 40) = true := by rw [beq_iff_eq]; omega
      clear h4
      have b0 := (unhide HS).box.cell (i := 0) rfl
      have b1 := (unhide HS).box.cell (i := 1) rfl
      have b2 := (unhide HS).box.cell (i := 2) rfl
      have r0 := (unhide HS).res.cell (i := 0) rfl
      have r1 := (unhide HS).res.cell (i := 1) rfl
      have r2 := (unhide HS).res.cell (i := 2) rfl
      have rf := (unhide HS).res.frozen
      have HF := hide (res_fin (c1 := c1) (c2 := c2) (tk := tk) (unhide HS).below (unhide HS).res (unhide HS).lots (unhide HS).trs hap.2.1 hap.2.2.1 rfl rfl hc1 hc2)
      dsimp only at HF
      have hnG : ¬ G = w.heap.size + 1 + 1 := by omega
      go_wp2
      have k0 := (unhide HF).1.cell (i := 0) rfl
      have k1 := (unhide HF).1.cell (i := 1) rfl
      have k2 := (unhide HF).1.cell (i := 2) rfl
      refine bodyPost_ret (v := .tuple #[vHouse (.slice (some ⟨g1, 0, none⟩) L.length c1) (.slice (some ⟨g2, 0, none⟩) T.length c2) (tk), .int .i64 2]) (by simp [results, Try.results23, go_sem, vHouse, k0, k1, k2]) rfl ?_
      exact spA_mk (unhide EF) (unhide HF).2.1 (unhide HF).2.2
    · have EF : Hid (R = ((insL L (lplc L id) (id, ow, ma, va, ra, 1, 0), T, tk), 0)) := by show _ = _; rw [unhide ER2, if_neg (by simp [roomL, hl]; omega)]
      have d2 : ((L.length : Int) == 40) = false := by rw [beq_eq_false_iff_ne]; omega
      clear h4
      have QW := hide (l16With_any g1 c1 (some ⟨g2, 0, none⟩) T.length c2 L id ow ma va ra 1 0 tk V4 (unhide HS).lots hc1 (by omega))
      unfold WiA vHouse vLot at QW
      dsimp only at QW
      have b0 := (unhide HS).box.cell (i := 0) rfl
      have b1 := (unhide HS).box.cell (i := 1) rfl
      have b2 := (unhide HS).box.cell (i := 2) rfl
      go_wp2_with fail
      refine (unhide QW).mono ?_
      rintro e V5 ⟨g9, c9, rfl, hl9, hc9, hg9, hb⟩
      have hS5 := (unhide HS).step hb
      have hV4 := (unhide HS).box.lt
      have HF := hide (res_fin (n1 := L.length + 1) (n2 := T.length) (c1 := c9) (c2 := c2) (tk := tk) hS5.below hS5.res hl9 hS5.trs (by omega) hap.2.2.1 (by rw [insL_len]) rfl hc9 hc2)
      have r0 := hS5.res.cell (i := 0) rfl
      have r1 := hS5.res.cell (i := 1) rfl
      have r2 := hS5.res.cell (i := 2) rfl
      have rf := hS5.res.frozen
      dsimp only at HF
      clear hb hl9 hS5 QW b0 b1 b2 HS
      go_wp2
      have k0 := (unhide HF).1.cell (i := 0) rfl
      have k1 := (unhide HF).1.cell (i := 1) rfl
      have k2 := (unhide HF).1.cell (i := 2) rfl
      refine bodyPost_ret (v := .tuple #[vHouse (.slice (some ⟨g9, 0, none⟩) (L.length + 1) c9) (.slice (some ⟨g2, 0, none⟩) T.length c2) tk, .int .i64 0]) (by simp [results, Try.results23, go_sem, vHouse, k0, k1, k2]) rfl ?_
      exact spA_mk (unhide EF) (unhide HF).2.1 (unhide HF).2.2

end Go.Proofs.Ytojlkdmlelgcbaa

/- Customs: the specification's DoDeed: no such lot. Written by wip/mkcsv.py. -/
namespace Go.Proofs.Ytojlkdmlelgcbaa
open Go.RowKit

set_option maxRecDepth 1000000 in
set_option maxHeartbeats 25600000 in
theorem specNone_any (lv tv : Value) (L : List LotT) (T : List TraderT) (tk kd id ow ma va ra nw : Int) (w : World) (h : HsIn w lv tv (L, T, tk)) (hs : L.length ≤ 1048576) (hT : T.length ≤ 1048576) (hgood : (houseB (L, T, tk) && deedB T.length (kd, id, ow, ma, va, ra, nw)) = true) (e1 : kd ≠ 1) (hl : lhas L id = false) :
    Calls Try.prog 23 #[vHouse lv tv tk, vDeed kd id ow ma va ra nw] w fun e w' => SpA w (doH (L, T, tk) (kd, id, ow, ma, va, ra, nw)) e w' := by
  have HV := hide h
  obtain ⟨h1, h2⟩ := h
  obtain ⟨ao, lcap, rfl, -⟩ := h1
  obtain ⟨fo, fcap, rfl, -⟩ := h2
  dsimp only at HV
  have QC := hide fun V (hV : Below w.heap.size w V) => l16Copy_any _ _ L T tk V ((unhide HV).below hV) hs hT
  have QB := hide fun V (hV : Below w.heap.size w V) => l16Bad_any _ _ L T tk kd id ow ma va ra nw V ((unhide HV).below hV) hT
  obtain ⟨R, eR⟩ : ∃ r, r = doH (L, T, tk) (kd, id, ow, ma, va, ra, nw) := ⟨_, rfl⟩
  rw [← eR]
  have ER := hide eR
  clear eR
  have H3 := hide (s3_new w #[.slice ao L.length lcap, .slice fo T.length fcap, .int .i64 tk] #[.int .i64 kd, .int .i64 id, .int .i64 ow, .int .i64 ma, .int .i64 va, .int .i64 ra, .int .i64 nw] #[.slice none 0 0, .slice none 0 0, .int .i64 0] 27 34 27)
  obtain ⟨V0, eV0⟩ : ∃ V, V = ((w.alloc (.cells #[.slice ao L.length lcap, .slice fo T.length fcap, .int .i64 tk] 27)).alloc (.cells #[.int .i64 kd, .int .i64 id, .int .i64 ow, .int .i64 ma, .int .i64 va, .int .i64 ra, .int .i64 nw] 34)).alloc (.cells #[.slice none 0 0, .slice none 0 0, .int .i64 0] 27) := ⟨_, rfl⟩
  rw [← eV0] at H3
  have hV0 := (unhide H3).o3.lt
  unfold vHouse at QB ⊢
  unfold CpA vHouse at QC
  unfold vDeed at QB ⊢
  go_enter Try.func23, Try.ntmps23
  go_upto_region 1 with (fail)
  rw [← eV0]
  clear eV0
  have a0 := (unhide H3).o1.cell (i := 0) rfl
  have a1 := (unhide H3).o1.cell (i := 1) rfl
  have a2 := (unhide H3).o1.cell (i := 2) rfl
  go_wp2_with fail
  refine (unhide QC _ (unhide H3).below).mono ?_
  rintro e V1 ⟨g1, c1, g2, c2, rfl, hl1, ht1, hc1, hc2, hg1, hg2, hg12, hb⟩
  have A1 := Below.alloc1 V1 (.cells #[.slice (some ⟨g1, 0, none⟩) L.length c1, .slice (some ⟨g2, 0, none⟩) T.length c2, .int .i64 tk] 27)
  have h3 := (unhide H3).step hb
  have hsz := hb.size
  have hl1l := hl1.lt
  have ht1l := ht1.lt
  have HS : Hid (Sp w (V1.alloc (.cells #[.slice (some ⟨g1, 0, none⟩) L.length c1, .slice (some ⟨g2, 0, none⟩) T.length c2, .int .i64 tk] 27)) [.slice ao L.length lcap, .slice fo T.length fcap, .int .i64 tk] [.int .i64 kd, .int .i64 id, .int .i64 ow, .int .i64 ma, .int .i64 va, .int .i64 ra, .int .i64 nw] V1.heap.size g1 g2 [.slice (some ⟨g1, 0, none⟩) L.length c1, .slice (some ⟨g2, 0, none⟩) T.length c2, .int .i64 tk] L T) := ⟨Below.step h3.below A1, h3.o1.step A1, h3.o2.step A1, h3.o3.step A1, ownV_alloc V1 #[.slice (some ⟨g1, 0, none⟩) L.length c1, .slice (some ⟨g2, 0, none⟩) T.length c2, .int .i64 tk] 27, hl1.step A1, ht1.step A1, by omega, by omega, by omega, by omega, by omega, by omega⟩
  clear hb h3 hl1 ht1 H3 QC a0 a1 a2 A1
  go_upto_region 2 with (fail)
  obtain ⟨V2, eV2⟩ : ∃ V, V = V1.alloc (.cells #[.slice (some ⟨g1, 0, none⟩) L.length c1, .slice (some ⟨g2, 0, none⟩) T.length c2, .int .i64 tk] 27) := ⟨_, rfl⟩
  rw [← eV2] at HS ⊢
  clear eV2
  obtain ⟨G, eG⟩ : ∃ g, g = V1.heap.size := ⟨_, rfl⟩
  rw [← eG] at HS ⊢
  clear eG hl1l ht1l hsz
  have hap := (unhide HS).ap
  have a0 := (unhide HS).arg.cell (i := 0) rfl
  have a1 := (unhide HS).arg.cell (i := 1) rfl
  have a2 := (unhide HS).arg.cell (i := 2) rfl
  have o0 := (unhide HS).op.cell (i := 0) rfl
  have o1 := (unhide HS).op.cell (i := 1) rfl
  have o2 := (unhide HS).op.cell (i := 2) rfl
  have o3 := (unhide HS).op.cell (i := 3) rfl
  have o4 := (unhide HS).op.cell (i := 4) rfl
  have o5 := (unhide HS).op.cell (i := 5) rfl
  have o6 := (unhide HS).op.cell (i := 6) rfl
  go_wp2_with fail
  refine (unhide QB _ (unhide HS).below).mono ?_
  rintro e V3 ⟨rfl, hb⟩
  replace HS := hide ((unhide HS).step hb)
  clear hb QB a0 a1 a2 o0 o1 o2 o3 o4 o5 o6
  have HH0 : Hid (HOk (L, T, tk)) := (houseB_iff _).1 (by have := hgood; rw [Bool.and_eq_true] at this; exact this.1)
  have HA := hide (unhide HH0).asc
  dsimp only at HA
  rw [hgood]
  have QF := hide fun V i (hV : Below w.heap.size w V) => l16Find_any _ _ L T tk i V ((unhide HV).below hV) (unhide HA)
  unfold vHouse at QF
  have a0 := (unhide HS).arg.cell (i := 0) rfl
  have a1 := (unhide HS).arg.cell (i := 1) rfl
  have a2 := (unhide HS).arg.cell (i := 2) rfl
  have o0 := (unhide HS).op.cell (i := 0) rfl
  have o1 := (unhide HS).op.cell (i := 1) rfl
  have o2 := (unhide HS).op.cell (i := 2) rfl
  have o3 := (unhide HS).op.cell (i := 3) rfl
  have o4 := (unhide HS).op.cell (i := 4) rfl
  have o5 := (unhide HS).op.cell (i := 5) rfl
  have o6 := (unhide HS).op.cell (i := 6) rfl
  go_wp2_with fail
  refine (unhide QF _ id (unhide HS).below).mono ?_
  rintro e V4 ⟨rfl, hb⟩
  replace HS := hide ((unhide HS).step hb)
  clear hb a0 a1 a2 o0 o1 o2 o3 o4 o5 o6
  have a0 := (unhide HS).arg.cell (i := 0) rfl
  have a1 := (unhide HS).arg.cell (i := 1) rfl
  have a2 := (unhide HS).arg.cell (i := 2) rfl
  have o0 := (unhide HS).op.cell (i := 0) rfl
  have o1 := (unhide HS).op.cell (i := 1) rfl
  have o2 := (unhide HS).op.cell (i := 2) rfl
  have o3 := (unhide HS).op.cell (i := 3) rfl
  have o4 := (unhide HS).op.cell (i := 4) rfl
  have o5 := (unhide HS).op.cell (i := 5) rfl
  have o6 := (unhide HS).op.cell (i := 6) rfl
  have EF : Hid (R = ((L, T, tk), 3)) := by show _ = _; rw [unhide ER, doH, if_neg (by rw [hgood]; simp)]; unfold actH; rw [if_neg e1, if_pos hl]
  have d1 : (kd == 1) = false := by simpa using e1
  have elf : lfnd L id = -1 := by rw [lfnd, if_neg (by rw [hl]; simp)]
  rw [elf]
  have b0 := (unhide HS).box.cell (i := 0) rfl
  have b1 := (unhide HS).box.cell (i := 1) rfl
  have b2 := (unhide HS).box.cell (i := 2) rfl
  have r0 := (unhide HS).res.cell (i := 0) rfl
  have r1 := (unhide HS).res.cell (i := 1) rfl
  have r2 := (unhide HS).res.cell (i := 2) rfl
  have rf := (unhide HS).res.frozen
  have HF := hide (res_fin (c1 := c1) (c2 := c2) (tk := tk) (unhide HS).below (unhide HS).res (unhide HS).lots (unhide HS).trs hap.2.1 hap.2.2.1 rfl rfl hc1 hc2)
  dsimp only at HF
  have hnG : ¬ G = w.heap.size + 1 + 1 := by omega
  go_wp2
  have k0 := (unhide HF).1.cell (i := 0) rfl
  have k1 := (unhide HF).1.cell (i := 1) rfl
  have k2 := (unhide HF).1.cell (i := 2) rfl
  refine bodyPost_ret (v := .tuple #[vHouse (.slice (some ⟨g1, 0, none⟩) L.length c1) (.slice (some ⟨g2, 0, none⟩) T.length c2) (tk), .int .i64 3]) (by simp [results, Try.results23, go_sem, vHouse, k0, k1, k2]) rfl ?_
  exact spA_mk (unhide EF) (unhide HF).2.1 (unhide HF).2.2

end Go.Proofs.Ytojlkdmlelgcbaa

/- Customs: the specification's DoDeed: another state. Written by wip/mkcsv.py. -/
namespace Go.Proofs.Ytojlkdmlelgcbaa
open Go.RowKit

set_option maxRecDepth 1000000 in
set_option maxHeartbeats 25600000 in
theorem specState_any (lv tv : Value) (L : List LotT) (T : List TraderT) (tk kd id ow ma va ra nw : Int) (w : World) (h : HsIn w lv tv (L, T, tk)) (hs : L.length ≤ 1048576) (hT : T.length ≤ 1048576) (hgood : (houseB (L, T, tk) && deedB T.length (kd, id, ow, ma, va, ra, nw)) = true) (e1 : kd ≠ 1) (hl : lhas L id = true) (hst : (L.getD (lplc L id) default).2.2.2.2.2.1 ≠ wantS kd) :
    Calls Try.prog 23 #[vHouse lv tv tk, vDeed kd id ow ma va ra nw] w fun e w' => SpA w (doH (L, T, tk) (kd, id, ow, ma, va, ra, nw)) e w' := by
  have HV := hide h
  obtain ⟨h1, h2⟩ := h
  obtain ⟨ao, lcap, rfl, -⟩ := h1
  obtain ⟨fo, fcap, rfl, -⟩ := h2
  dsimp only at HV
  have QC := hide fun V (hV : Below w.heap.size w V) => l16Copy_any _ _ L T tk V ((unhide HV).below hV) hs hT
  have QB := hide fun V (hV : Below w.heap.size w V) => l16Bad_any _ _ L T tk kd id ow ma va ra nw V ((unhide HV).below hV) hT
  obtain ⟨R, eR⟩ : ∃ r, r = doH (L, T, tk) (kd, id, ow, ma, va, ra, nw) := ⟨_, rfl⟩
  rw [← eR]
  have ER := hide eR
  clear eR
  have H3 := hide (s3_new w #[.slice ao L.length lcap, .slice fo T.length fcap, .int .i64 tk] #[.int .i64 kd, .int .i64 id, .int .i64 ow, .int .i64 ma, .int .i64 va, .int .i64 ra, .int .i64 nw] #[.slice none 0 0, .slice none 0 0, .int .i64 0] 27 34 27)
  obtain ⟨V0, eV0⟩ : ∃ V, V = ((w.alloc (.cells #[.slice ao L.length lcap, .slice fo T.length fcap, .int .i64 tk] 27)).alloc (.cells #[.int .i64 kd, .int .i64 id, .int .i64 ow, .int .i64 ma, .int .i64 va, .int .i64 ra, .int .i64 nw] 34)).alloc (.cells #[.slice none 0 0, .slice none 0 0, .int .i64 0] 27) := ⟨_, rfl⟩
  rw [← eV0] at H3
  have hV0 := (unhide H3).o3.lt
  unfold vHouse at QB ⊢
  unfold CpA vHouse at QC
  unfold vDeed at QB ⊢
  go_enter Try.func23, Try.ntmps23
  go_upto_region 1 with (fail)
  rw [← eV0]
  clear eV0
  have a0 := (unhide H3).o1.cell (i := 0) rfl
  have a1 := (unhide H3).o1.cell (i := 1) rfl
  have a2 := (unhide H3).o1.cell (i := 2) rfl
  go_wp2_with fail
  refine (unhide QC _ (unhide H3).below).mono ?_
  rintro e V1 ⟨g1, c1, g2, c2, rfl, hl1, ht1, hc1, hc2, hg1, hg2, hg12, hb⟩
  have A1 := Below.alloc1 V1 (.cells #[.slice (some ⟨g1, 0, none⟩) L.length c1, .slice (some ⟨g2, 0, none⟩) T.length c2, .int .i64 tk] 27)
  have h3 := (unhide H3).step hb
  have hsz := hb.size
  have hl1l := hl1.lt
  have ht1l := ht1.lt
  have HS : Hid (Sp w (V1.alloc (.cells #[.slice (some ⟨g1, 0, none⟩) L.length c1, .slice (some ⟨g2, 0, none⟩) T.length c2, .int .i64 tk] 27)) [.slice ao L.length lcap, .slice fo T.length fcap, .int .i64 tk] [.int .i64 kd, .int .i64 id, .int .i64 ow, .int .i64 ma, .int .i64 va, .int .i64 ra, .int .i64 nw] V1.heap.size g1 g2 [.slice (some ⟨g1, 0, none⟩) L.length c1, .slice (some ⟨g2, 0, none⟩) T.length c2, .int .i64 tk] L T) := ⟨Below.step h3.below A1, h3.o1.step A1, h3.o2.step A1, h3.o3.step A1, ownV_alloc V1 #[.slice (some ⟨g1, 0, none⟩) L.length c1, .slice (some ⟨g2, 0, none⟩) T.length c2, .int .i64 tk] 27, hl1.step A1, ht1.step A1, by omega, by omega, by omega, by omega, by omega, by omega⟩
  clear hb h3 hl1 ht1 H3 QC a0 a1 a2 A1
  go_upto_region 2 with (fail)
  obtain ⟨V2, eV2⟩ : ∃ V, V = V1.alloc (.cells #[.slice (some ⟨g1, 0, none⟩) L.length c1, .slice (some ⟨g2, 0, none⟩) T.length c2, .int .i64 tk] 27) := ⟨_, rfl⟩
  rw [← eV2] at HS ⊢
  clear eV2
  obtain ⟨G, eG⟩ : ∃ g, g = V1.heap.size := ⟨_, rfl⟩
  rw [← eG] at HS ⊢
  clear eG hl1l ht1l hsz
  have hap := (unhide HS).ap
  have a0 := (unhide HS).arg.cell (i := 0) rfl
  have a1 := (unhide HS).arg.cell (i := 1) rfl
  have a2 := (unhide HS).arg.cell (i := 2) rfl
  have o0 := (unhide HS).op.cell (i := 0) rfl
  have o1 := (unhide HS).op.cell (i := 1) rfl
  have o2 := (unhide HS).op.cell (i := 2) rfl
  have o3 := (unhide HS).op.cell (i := 3) rfl
  have o4 := (unhide HS).op.cell (i := 4) rfl
  have o5 := (unhide HS).op.cell (i := 5) rfl
  have o6 := (unhide HS).op.cell (i := 6) rfl
  go_wp2_with fail
  refine (unhide QB _ (unhide HS).below).mono ?_
  rintro e V3 ⟨rfl, hb⟩
  replace HS := hide ((unhide HS).step hb)
  clear hb QB a0 a1 a2 o0 o1 o2 o3 o4 o5 o6
  have HH0 : Hid (HOk (L, T, tk)) := (houseB_iff _).1 (by have := hgood; rw [Bool.and_eq_true] at this; exact this.1)
  have HA := hide (unhide HH0).asc
  dsimp only at HA
  rw [hgood]
  have QF := hide fun V i (hV : Below w.heap.size w V) => l16Find_any _ _ L T tk i V ((unhide HV).below hV) (unhide HA)
  unfold vHouse at QF
  have a0 := (unhide HS).arg.cell (i := 0) rfl
  have a1 := (unhide HS).arg.cell (i := 1) rfl
  have a2 := (unhide HS).arg.cell (i := 2) rfl
  have o0 := (unhide HS).op.cell (i := 0) rfl
  have o1 := (unhide HS).op.cell (i := 1) rfl
  have o2 := (unhide HS).op.cell (i := 2) rfl
  have o3 := (unhide HS).op.cell (i := 3) rfl
  have o4 := (unhide HS).op.cell (i := 4) rfl
  have o5 := (unhide HS).op.cell (i := 5) rfl
  have o6 := (unhide HS).op.cell (i := 6) rfl
  go_wp2_with fail
  refine (unhide QF _ id (unhide HS).below).mono ?_
  rintro e V4 ⟨rfl, hb⟩
  replace HS := hide ((unhide HS).step hb)
  clear hb a0 a1 a2 o0 o1 o2 o3 o4 o5 o6
  have a0 := (unhide HS).arg.cell (i := 0) rfl
  have a1 := (unhide HS).arg.cell (i := 1) rfl
  have a2 := (unhide HS).arg.cell (i := 2) rfl
  have o0 := (unhide HS).op.cell (i := 0) rfl
  have o1 := (unhide HS).op.cell (i := 1) rfl
  have o2 := (unhide HS).op.cell (i := 2) rfl
  have o3 := (unhide HS).op.cell (i := 3) rfl
  have o4 := (unhide HS).op.cell (i := 4) rfl
  have o5 := (unhide HS).op.cell (i := 5) rfl
  have o6 := (unhide HS).op.cell (i := 6) rfl
  have d1 : (kd == 1) = false := by simpa using e1
  obtain ⟨hk, hid⟩ := lhas_yes hl
  have elf : lfnd L id = (lplc L id : Nat) := by rw [lfnd, if_pos hl]
  have ER2 : Hid (R = lotH (L, T, tk) (lplc L id) (L.getD (lplc L id) default) (kd, id, ow, ma, va, ra, nw)) := by show _ = _; rw [unhide ER, doH, if_neg (by rw [hgood]; simp)]; unfold actH; rw [if_neg e1, if_neg (by rw [hl]; simp)]
  rw [elf]
  have hLk := (unhide HH0).lots (lplc L id) hk
  dsimp only at hLk
  generalize lplc L id = k at *
  obtain ⟨ao', cap', eao, -, -, hcl⟩ := (unhide HV).1
  dsimp only at eao hcl
  simp only [Value.slice.injEq] at eao
  obtain ⟨rfl, -, rfl⟩ := eao
  obtain ⟨bb, o, xi, xo, xm, xv, xr, xs, xb, rfl, hq0, hq1, hq2, hq3, hq4, hq5, hq6, HX⟩ := recLotAt hcl hk
  rw [unhide HX] at ER2 hLk hst
  obtain ⟨ho, hoe⟩ := own_lt hLk
  dsimp only at ho hoe
  have htr := (unhide HH0).trs xo.toNat ho
  dsimp only at htr
  rw [hoe] at htr
  obtain ⟨j, ej⟩ : ∃ j : Nat, j = xo.toNat := ⟨_, rfl⟩
  have hxo : xo = (j : Int) := by omega
  rw [← ej] at ho htr
  subst hxo
  obtain ⟨fo', fcap', efo, -, -, hct⟩ := (unhide HV).2
  dsimp only at efo hct
  simp only [Value.slice.injEq] at efo
  obtain ⟨rfl, -, rfl⟩ := efo
  obtain ⟨bb2, o2', mo, bn, bd, rfl, ht0, ht1, ht2, HT⟩ := recTrAt hct ho
  rw [unhide HT] at htr
  obtain ⟨hTO, hbd⟩ := htr
  have hdu := dut_bd xm xv xr
  have hdb := hLk.1
  have hxb := hLk.2.2.2.2
  have hbo := lot_bond hLk
  have htk := (unhide HH0).tk
  have hst0 := hLk.2.2.2.1
  have hmx := dut_parts hLk.1
  dsimp only at hdb hxb hbo htk hst0 hmx
  have HXQ := hide hxb
  have HBD := hide hbd
  clear hxb hbd
  obtain ⟨tt1, tt2, tt3⟩ := hTO
  dsimp only at tt1 tt2 tt3
  have hki : (k : Int) < L.length := by omega
  have hji : (j : Int) < T.length := by omega
  have g0 := wcell3 hq0 (unhide HS).below
  have g1' := wcell3 hq1 (unhide HS).below
  have g2' := wcell3 hq2 (unhide HS).below
  have g3' := wcell3 hq3 (unhide HS).below
  have g4' := wcell3 hq4 (unhide HS).below
  have g5' := wcell3 hq5 (unhide HS).below
  have g6' := wcell3 hq6 (unhide HS).below
  have AX := Below.alloc1 V4 (.cells #[.int .i64 xi, .int .i64 (j : Int), .int .i64 xm, .int .i64 xv, .int .i64 xr, .int .i64 xs, .int .i64 xb] 39)
  have HXB := hide (ownV_alloc V4 #[.int .i64 xi, .int .i64 (j : Int), .int .i64 xm, .int .i64 xv, .int .i64 xr, .int .i64 xs, .int .i64 xb] 39)
  have hltB := (unhide HS).box.lt
  have hlt1 := (unhide HS).lots.lt
  have hlt2 := (unhide HS).trs.lt
  have hltr := (unhide HS).res.lt
  replace HS := hide ((unhide HS).step AX)
  clear hq0 hq1 hq2 hq3 hq4 hq5 hq6 hcl hct elf hid hl ej hoe hLk AX
  go_upto_region 12 with (fail)
  obtain ⟨V5, eV⟩ : ∃ V, V = V4.alloc (.cells #[.int .i64 xi, .int .i64 (j : Int), .int .i64 xm, .int .i64 xv, .int .i64 xr, .int .i64 xs, .int .i64 xb] 39) := ⟨_, rfl⟩
  rw [← eV] at HS HXB ⊢
  clear eV g0 g1' g2' g3' g4' g5' g6'
  obtain ⟨gx, egx⟩ : ∃ g, g = V4.heap.size := ⟨_, rfl⟩
  rw [← egx] at HXB ⊢
  have hgx : w.heap.size + 1 + 1 < gx ∧ gx ≠ G ∧ gx ≠ g1 ∧ gx ≠ g2 := ⟨by omega, by omega, by omega, by omega⟩
  clear egx hltB hlt1 hlt2 hltr
  clear a0 a1 a2 o0 o1 o2 o3 o4 o5 o6
  have a0 := (unhide HS).arg.cell (i := 0) rfl
  have a1 := (unhide HS).arg.cell (i := 1) rfl
  have a2 := (unhide HS).arg.cell (i := 2) rfl
  have o0 := (unhide HS).op.cell (i := 0) rfl
  have o1 := (unhide HS).op.cell (i := 1) rfl
  have o2 := (unhide HS).op.cell (i := 2) rfl
  have o3 := (unhide HS).op.cell (i := 3) rfl
  have o4 := (unhide HS).op.cell (i := 4) rfl
  have o5 := (unhide HS).op.cell (i := 5) rfl
  have o6 := (unhide HS).op.cell (i := 6) rfl
  have x0 := (unhide HXB).cell (i := 0) rfl
  have x1 := (unhide HXB).cell (i := 1) rfl
  have x2 := (unhide HXB).cell (i := 2) rfl
  have x3 := (unhide HXB).cell (i := 3) rfl
  have x4 := (unhide HXB).cell (i := 4) rfl
  have x5 := (unhide HXB).cell (i := 5) rfl
  have x6 := (unhide HXB).cell (i := 6) rfl
  have QS := hide fun V => l16From_any kd V
  try dsimp only at hst
  have EF : Hid (R = ((L, T, tk), 4)) := by show _ = _; rw [unhide ER2]; unfold lotH; dsimp only; rw [if_pos hst]
  have dst : (xs != wantS kd) = true := by simpa using hst
  clear hst
  generalize wantS kd = wk at *
  refine wp_region_quiet_lit (by kernel_rfl) (by kernel_rfl) ?_
  repeat (go_big_quiet_step (fail))
  go_big_quiet_want
  go_big_quiet_op
  go_big_quiet_call (exact Calls.quiet_of_same (unhide QS _))
  repeat (go_big_quiet_step (fail))
  refine wpQuiet_nil ?_
  intro _ hw'
  obtain ⟨nq, hw''⟩ := hw'
  subst hw''
  replace HS := hide ((unhide HS).step (below_drewN (Below.refl _ _) nq))
  replace HXB := hide ((unhide HXB).step (below_drewN (Below.refl _ _) nq))
  clear a0 a1 a2 o0 o1 o2 o3 o4 o5 o6
  clear x0 x1 x2 x3 x4 x5 x6
  generalize V5.drewN nq = V6 at *
  have b0 := (unhide HS).box.cell (i := 0) rfl
  have b1 := (unhide HS).box.cell (i := 1) rfl
  have b2 := (unhide HS).box.cell (i := 2) rfl
  have r0 := (unhide HS).res.cell (i := 0) rfl
  have r1 := (unhide HS).res.cell (i := 1) rfl
  have r2 := (unhide HS).res.cell (i := 2) rfl
  have rf := (unhide HS).res.frozen
  have HF := hide (res_fin (c1 := c1) (c2 := c2) (tk := tk) (unhide HS).below (unhide HS).res (unhide HS).lots (unhide HS).trs hap.2.1 hap.2.2.1 rfl rfl hc1 hc2)
  dsimp only at HF
  have hnG : ¬ G = w.heap.size + 1 + 1 := by omega
  go_wp2
  have k0 := (unhide HF).1.cell (i := 0) rfl
  have k1 := (unhide HF).1.cell (i := 1) rfl
  have k2 := (unhide HF).1.cell (i := 2) rfl
  refine bodyPost_ret (v := .tuple #[vHouse (.slice (some ⟨g1, 0, none⟩) L.length c1) (.slice (some ⟨g2, 0, none⟩) T.length c2) (tk), .int .i64 4]) (by simp [results, Try.results23, go_sem, vHouse, k0, k1, k2]) rfl ?_
  exact spA_mk (unhide EF) (unhide HF).2.1 (unhide HF).2.2

end Go.Proofs.Ytojlkdmlelgcbaa

/- Customs: the specification's DoDeed: a lot that is split. Written by wip/mkcsv.py. -/
namespace Go.Proofs.Ytojlkdmlelgcbaa
open Go.RowKit

set_option maxRecDepth 1000000 in
set_option maxHeartbeats 25600000 in
theorem specSplit_any (lv tv : Value) (L : List LotT) (T : List TraderT) (tk id ow ma va ra nw : Int) (w : World) (h : HsIn w lv tv (L, T, tk)) (hs : L.length ≤ 1048576) (hT : T.length ≤ 1048576) (hgood : (houseB (L, T, tk) && deedB T.length (8, id, ow, ma, va, ra, nw)) = true) (hl : lhas L id = true) (hst : (L.getD (lplc L id) default).2.2.2.2.2.1 = wantS 8) :
    Calls Try.prog 23 #[vHouse lv tv tk, vDeed 8 id ow ma va ra nw] w fun e w' => SpA w (doH (L, T, tk) (8, id, ow, ma, va, ra, nw)) e w' := by
  have e1 : (8 : Int) ≠ 1 := by omega
  have HV := hide h
  obtain ⟨h1, h2⟩ := h
  obtain ⟨ao, lcap, rfl, -⟩ := h1
  obtain ⟨fo, fcap, rfl, -⟩ := h2
  dsimp only at HV
  have QC := hide fun V (hV : Below w.heap.size w V) => l16Copy_any _ _ L T tk V ((unhide HV).below hV) hs hT
  have QB := hide fun V (hV : Below w.heap.size w V) => l16Bad_any _ _ L T tk 8 id ow ma va ra nw V ((unhide HV).below hV) hT
  obtain ⟨R, eR⟩ : ∃ r, r = doH (L, T, tk) (8, id, ow, ma, va, ra, nw) := ⟨_, rfl⟩
  rw [← eR]
  have ER := hide eR
  clear eR
  have H3 := hide (s3_new w #[.slice ao L.length lcap, .slice fo T.length fcap, .int .i64 tk] #[.int .i64 8, .int .i64 id, .int .i64 ow, .int .i64 ma, .int .i64 va, .int .i64 ra, .int .i64 nw] #[.slice none 0 0, .slice none 0 0, .int .i64 0] 27 34 27)
  obtain ⟨V0, eV0⟩ : ∃ V, V = ((w.alloc (.cells #[.slice ao L.length lcap, .slice fo T.length fcap, .int .i64 tk] 27)).alloc (.cells #[.int .i64 8, .int .i64 id, .int .i64 ow, .int .i64 ma, .int .i64 va, .int .i64 ra, .int .i64 nw] 34)).alloc (.cells #[.slice none 0 0, .slice none 0 0, .int .i64 0] 27) := ⟨_, rfl⟩
  rw [← eV0] at H3
  have hV0 := (unhide H3).o3.lt
  unfold vHouse at QB ⊢
  unfold CpA vHouse at QC
  unfold vDeed at QB ⊢
  go_enter Try.func23, Try.ntmps23
  go_upto_region 1 with (fail)
  rw [← eV0]
  clear eV0
  have a0 := (unhide H3).o1.cell (i := 0) rfl
  have a1 := (unhide H3).o1.cell (i := 1) rfl
  have a2 := (unhide H3).o1.cell (i := 2) rfl
  go_wp2_with fail
  refine (unhide QC _ (unhide H3).below).mono ?_
  rintro e V1 ⟨g1, c1, g2, c2, rfl, hl1, ht1, hc1, hc2, hg1, hg2, hg12, hb⟩
  have A1 := Below.alloc1 V1 (.cells #[.slice (some ⟨g1, 0, none⟩) L.length c1, .slice (some ⟨g2, 0, none⟩) T.length c2, .int .i64 tk] 27)
  have h3 := (unhide H3).step hb
  have hsz := hb.size
  have hl1l := hl1.lt
  have ht1l := ht1.lt
  have HS : Hid (Sp w (V1.alloc (.cells #[.slice (some ⟨g1, 0, none⟩) L.length c1, .slice (some ⟨g2, 0, none⟩) T.length c2, .int .i64 tk] 27)) [.slice ao L.length lcap, .slice fo T.length fcap, .int .i64 tk] [.int .i64 8, .int .i64 id, .int .i64 ow, .int .i64 ma, .int .i64 va, .int .i64 ra, .int .i64 nw] V1.heap.size g1 g2 [.slice (some ⟨g1, 0, none⟩) L.length c1, .slice (some ⟨g2, 0, none⟩) T.length c2, .int .i64 tk] L T) := ⟨Below.step h3.below A1, h3.o1.step A1, h3.o2.step A1, h3.o3.step A1, ownV_alloc V1 #[.slice (some ⟨g1, 0, none⟩) L.length c1, .slice (some ⟨g2, 0, none⟩) T.length c2, .int .i64 tk] 27, hl1.step A1, ht1.step A1, by omega, by omega, by omega, by omega, by omega, by omega⟩
  clear hb h3 hl1 ht1 H3 QC a0 a1 a2 A1
  go_upto_region 2 with (fail)
  obtain ⟨V2, eV2⟩ : ∃ V, V = V1.alloc (.cells #[.slice (some ⟨g1, 0, none⟩) L.length c1, .slice (some ⟨g2, 0, none⟩) T.length c2, .int .i64 tk] 27) := ⟨_, rfl⟩
  rw [← eV2] at HS ⊢
  clear eV2
  obtain ⟨G, eG⟩ : ∃ g, g = V1.heap.size := ⟨_, rfl⟩
  rw [← eG] at HS ⊢
  clear eG hl1l ht1l hsz
  have hap := (unhide HS).ap
  have a0 := (unhide HS).arg.cell (i := 0) rfl
  have a1 := (unhide HS).arg.cell (i := 1) rfl
  have a2 := (unhide HS).arg.cell (i := 2) rfl
  have o0 := (unhide HS).op.cell (i := 0) rfl
  have o1 := (unhide HS).op.cell (i := 1) rfl
  have o2 := (unhide HS).op.cell (i := 2) rfl
  have o3 := (unhide HS).op.cell (i := 3) rfl
  have o4 := (unhide HS).op.cell (i := 4) rfl
  have o5 := (unhide HS).op.cell (i := 5) rfl
  have o6 := (unhide HS).op.cell (i := 6) rfl
  go_wp2_with fail
  refine (unhide QB _ (unhide HS).below).mono ?_
  rintro e V3 ⟨rfl, hb⟩
  replace HS := hide ((unhide HS).step hb)
  clear hb QB a0 a1 a2 o0 o1 o2 o3 o4 o5 o6
  have HH0 : Hid (HOk (L, T, tk)) := (houseB_iff _).1 (by have := hgood; rw [Bool.and_eq_true] at this; exact this.1)
  have HA := hide (unhide HH0).asc
  dsimp only at HA
  rw [hgood]
  have QF := hide fun V i (hV : Below w.heap.size w V) => l16Find_any _ _ L T tk i V ((unhide HV).below hV) (unhide HA)
  unfold vHouse at QF
  have a0 := (unhide HS).arg.cell (i := 0) rfl
  have a1 := (unhide HS).arg.cell (i := 1) rfl
  have a2 := (unhide HS).arg.cell (i := 2) rfl
  have o0 := (unhide HS).op.cell (i := 0) rfl
  have o1 := (unhide HS).op.cell (i := 1) rfl
  have o2 := (unhide HS).op.cell (i := 2) rfl
  have o3 := (unhide HS).op.cell (i := 3) rfl
  have o4 := (unhide HS).op.cell (i := 4) rfl
  have o5 := (unhide HS).op.cell (i := 5) rfl
  have o6 := (unhide HS).op.cell (i := 6) rfl
  go_wp2_with fail
  refine (unhide QF _ id (unhide HS).below).mono ?_
  rintro e V4 ⟨rfl, hb⟩
  replace HS := hide ((unhide HS).step hb)
  clear hb a0 a1 a2 o0 o1 o2 o3 o4 o5 o6
  have a0 := (unhide HS).arg.cell (i := 0) rfl
  have a1 := (unhide HS).arg.cell (i := 1) rfl
  have a2 := (unhide HS).arg.cell (i := 2) rfl
  have o0 := (unhide HS).op.cell (i := 0) rfl
  have o1 := (unhide HS).op.cell (i := 1) rfl
  have o2 := (unhide HS).op.cell (i := 2) rfl
  have o3 := (unhide HS).op.cell (i := 3) rfl
  have o4 := (unhide HS).op.cell (i := 4) rfl
  have o5 := (unhide HS).op.cell (i := 5) rfl
  have o6 := (unhide HS).op.cell (i := 6) rfl
  obtain ⟨hk, hid⟩ := lhas_yes hl
  have elf : lfnd L id = (lplc L id : Nat) := by rw [lfnd, if_pos hl]
  have ER2 : Hid (R = lotH (L, T, tk) (lplc L id) (L.getD (lplc L id) default) (8, id, ow, ma, va, ra, nw)) := by show _ = _; rw [unhide ER, doH, if_neg (by rw [hgood]; simp)]; unfold actH; rw [if_neg e1, if_neg (by rw [hl]; simp)]
  rw [elf]
  have hLk := (unhide HH0).lots (lplc L id) hk
  dsimp only at hLk
  generalize lplc L id = k at *
  obtain ⟨ao', cap', eao, -, -, hcl⟩ := (unhide HV).1
  dsimp only at eao hcl
  simp only [Value.slice.injEq] at eao
  obtain ⟨rfl, -, rfl⟩ := eao
  obtain ⟨bb, o, xi, xo, xm, xv, xr, xs, xb, rfl, hq0, hq1, hq2, hq3, hq4, hq5, hq6, HX⟩ := recLotAt hcl hk
  rw [unhide HX] at ER2 hLk hst
  have HST := hide hst
  clear hst
  obtain ⟨ho, hoe⟩ := own_lt hLk
  dsimp only at ho hoe
  have htr := (unhide HH0).trs xo.toNat ho
  dsimp only at htr
  rw [hoe] at htr
  obtain ⟨j, ej⟩ : ∃ j : Nat, j = xo.toNat := ⟨_, rfl⟩
  have hxo : xo = (j : Int) := by omega
  rw [← ej] at ho htr
  subst hxo
  obtain ⟨fo', fcap', efo, -, -, hct⟩ := (unhide HV).2
  dsimp only at efo hct
  simp only [Value.slice.injEq] at efo
  obtain ⟨rfl, -, rfl⟩ := efo
  obtain ⟨bb2, o2', mo, bn, bd, rfl, ht0, ht1, ht2, HT⟩ := recTrAt hct ho
  rw [unhide HT] at htr
  obtain ⟨hTO, hbd⟩ := htr
  have hdu := dut_bd xm xv xr
  have hdb := hLk.1
  have hxb := hLk.2.2.2.2
  have hbo := lot_bond hLk
  have htk := (unhide HH0).tk
  have hst0 := hLk.2.2.2.1
  have hmx := dut_parts hLk.1
  dsimp only at hdb hxb hbo htk hst0 hmx
  have HXQ := hide hxb
  have HBD := hide hbd
  clear hxb hbd
  obtain ⟨tt1, tt2, tt3⟩ := hTO
  dsimp only at tt1 tt2 tt3
  have hki : (k : Int) < L.length := by omega
  have hji : (j : Int) < T.length := by omega
  have g0 := wcell3 hq0 (unhide HS).below
  have g1' := wcell3 hq1 (unhide HS).below
  have g2' := wcell3 hq2 (unhide HS).below
  have g3' := wcell3 hq3 (unhide HS).below
  have g4' := wcell3 hq4 (unhide HS).below
  have g5' := wcell3 hq5 (unhide HS).below
  have g6' := wcell3 hq6 (unhide HS).below
  have AX := Below.alloc1 V4 (.cells #[.int .i64 xi, .int .i64 (j : Int), .int .i64 xm, .int .i64 xv, .int .i64 xr, .int .i64 xs, .int .i64 xb] 39)
  have HXB := hide (ownV_alloc V4 #[.int .i64 xi, .int .i64 (j : Int), .int .i64 xm, .int .i64 xv, .int .i64 xr, .int .i64 xs, .int .i64 xb] 39)
  have hltB := (unhide HS).box.lt
  have hlt1 := (unhide HS).lots.lt
  have hlt2 := (unhide HS).trs.lt
  have hltr := (unhide HS).res.lt
  replace HS := hide ((unhide HS).step AX)
  clear hq0 hq1 hq2 hq3 hq4 hq5 hq6 hcl hct elf hid hl ej hoe hLk AX
  go_upto_region 12 with (fail)
  obtain ⟨V5, eV⟩ : ∃ V, V = V4.alloc (.cells #[.int .i64 xi, .int .i64 (j : Int), .int .i64 xm, .int .i64 xv, .int .i64 xr, .int .i64 xs, .int .i64 xb] 39) := ⟨_, rfl⟩
  rw [← eV] at HS HXB ⊢
  clear eV g0 g1' g2' g3' g4' g5' g6'
  obtain ⟨gx, egx⟩ : ∃ g, g = V4.heap.size := ⟨_, rfl⟩
  rw [← egx] at HXB ⊢
  have hgx : w.heap.size + 1 + 1 < gx ∧ gx ≠ G ∧ gx ≠ g1 ∧ gx ≠ g2 := ⟨by omega, by omega, by omega, by omega⟩
  clear egx hltB hlt1 hlt2 hltr
  clear a0 a1 a2 o0 o1 o2 o3 o4 o5 o6
  have a0 := (unhide HS).arg.cell (i := 0) rfl
  have a1 := (unhide HS).arg.cell (i := 1) rfl
  have a2 := (unhide HS).arg.cell (i := 2) rfl
  have o0 := (unhide HS).op.cell (i := 0) rfl
  have o1 := (unhide HS).op.cell (i := 1) rfl
  have o2 := (unhide HS).op.cell (i := 2) rfl
  have o3 := (unhide HS).op.cell (i := 3) rfl
  have o4 := (unhide HS).op.cell (i := 4) rfl
  have o5 := (unhide HS).op.cell (i := 5) rfl
  have o6 := (unhide HS).op.cell (i := 6) rfl
  have x0 := (unhide HXB).cell (i := 0) rfl
  have x1 := (unhide HXB).cell (i := 1) rfl
  have x2 := (unhide HXB).cell (i := 2) rfl
  have x3 := (unhide HXB).cell (i := 3) rfl
  have x4 := (unhide HXB).cell (i := 4) rfl
  have x5 := (unhide HXB).cell (i := 5) rfl
  have x6 := (unhide HXB).cell (i := 6) rfl
  have QS := hide fun V => l16From_any 8 V
  have hxs : xs = 1 := unhide HST
  subst hxs
  clear HST e1
  have hxb0 : xb = 0 := by have h9 := unhide HXQ; rwa [if_neg (by omega)] at h9
  subst hxb0
  have hma : 1 ≤ ma := by
    have h9 := hgood
    rw [Bool.and_eq_true] at h9
    have h9 := h9.2
    simp only [deedB, show ¬ (8 : Int) = 1 by omega, show ¬ ((2 : Int) ≤ 8 ∧ (8 : Int) ≤ 7) by omega, if_false, if_true, Bool.and_eq_true, decide_eq_true_eq] at h9
    exact h9.2.1
  have ER3 : Hid (R = if xm ≤ ma then ((L, T, tk), 4) else if roomL L nw = false then ((L, T, tk), 2) else ((insL (L.set k (xi, (j : Int), xm - ma, xv, xr, 1, 0)) (lplc L nw) (nw, (j : Int), ma, xv, xr, 1, 0), T, tk), 0)) := unhide ER2
  have dst : ((1 : Int) != wantS 8) = false := rfl
  have h40 := (unhide HH0).nl
  dsimp only at h40
  clear ER2
  by_cases hm : xm ≤ ma
  · have EF : Hid (R = ((L, T, tk), 4)) := by show _ = _; rw [unhide ER3, if_pos hm]
    have dm : decide (xm ≤ ma) = true := by simpa using hm
    clear hm
    refine wp_region_quiet_lit (by kernel_rfl) (by kernel_rfl) ?_
    repeat (go_big_quiet_step (fail))
    go_big_quiet_want
    go_big_quiet_op
    go_big_quiet_call (exact Calls.quiet_of_same (unhide QS _))
    repeat (go_big_quiet_step (fail))
    refine wpQuiet_nil ?_
    intro _ hw'
    obtain ⟨nq, hw''⟩ := hw'
    subst hw''
    replace HS := hide ((unhide HS).step (below_drewN (Below.refl _ _) nq))
    replace HXB := hide ((unhide HXB).step (below_drewN (Below.refl _ _) nq))
    clear a0 a1 a2 o0 o1 o2 o3 o4 o5 o6
    clear x0 x1 x2 x3 x4 x5 x6
    generalize V5.drewN nq = V6 at *
    have b0 := (unhide HS).box.cell (i := 0) rfl
    have b1 := (unhide HS).box.cell (i := 1) rfl
    have b2 := (unhide HS).box.cell (i := 2) rfl
    have r0 := (unhide HS).res.cell (i := 0) rfl
    have r1 := (unhide HS).res.cell (i := 1) rfl
    have r2 := (unhide HS).res.cell (i := 2) rfl
    have rf := (unhide HS).res.frozen
    have HF := hide (res_fin (c1 := c1) (c2 := c2) (tk := tk) (unhide HS).below (unhide HS).res (unhide HS).lots (unhide HS).trs hap.2.1 hap.2.2.1 rfl rfl hc1 hc2)
    dsimp only at HF
    have hnG : ¬ G = w.heap.size + 1 + 1 := by omega
    go_wp2
    have k0 := (unhide HF).1.cell (i := 0) rfl
    have k1 := (unhide HF).1.cell (i := 1) rfl
    have k2 := (unhide HF).1.cell (i := 2) rfl
    refine bodyPost_ret (v := .tuple #[vHouse (.slice (some ⟨g1, 0, none⟩) L.length c1) (.slice (some ⟨g2, 0, none⟩) T.length c2) (tk), .int .i64 4]) (by simp [results, Try.results23, go_sem, vHouse, k0, k1, k2]) rfl ?_
    exact spA_mk (unhide EF) (unhide HF).2.1 (unhide HF).2.2
  have dm : decide (xm ≤ ma) = false := by simpa using hm
  rw [if_neg hm] at ER3
  refine wp_region_quiet_lit (by kernel_rfl) (by kernel_rfl) ?_
  repeat (go_big_quiet_step (fail))
  go_big_quiet_want
  go_big_quiet_op
  go_big_quiet_call (exact Calls.quiet_of_same (unhide QS _))
  repeat (go_big_quiet_step (fail))
  refine wpQuiet_nil ?_
  intro _ hw'
  obtain ⟨nq, hw''⟩ := hw'
  subst hw''
  replace HS := hide ((unhide HS).step (below_drewN (Below.refl _ _) nq))
  replace HXB := hide ((unhide HXB).step (below_drewN (Below.refl _ _) nq))
  clear a0 a1 a2 o0 o1 o2 o3 o4 o5 o6
  clear x0 x1 x2 x3 x4 x5 x6
  generalize V5.drewN nq = V6 at *
  clear dm
  have QD := hide fun V => specDuty6_any xm xv xr V
  rw [hdb] at QD
  have QF2 := hide fun V (hV : Below w.heap.size w V) => unhide QF V nw hV
  clear QF
  have x0 := (unhide HXB).cell (i := 0) rfl
  have x1 := (unhide HXB).cell (i := 1) rfl
  have x2 := (unhide HXB).cell (i := 2) rfl
  have x3 := (unhide HXB).cell (i := 3) rfl
  have x4 := (unhide HXB).cell (i := 4) rfl
  have x5 := (unhide HXB).cell (i := 5) rfl
  have x6 := (unhide HXB).cell (i := 6) rfl
  have a0 := (unhide HS).arg.cell (i := 0) rfl
  have a1 := (unhide HS).arg.cell (i := 1) rfl
  have a2 := (unhide HS).arg.cell (i := 2) rfl
  have o0 := (unhide HS).op.cell (i := 0) rfl
  have o1 := (unhide HS).op.cell (i := 1) rfl
  have o2 := (unhide HS).op.cell (i := 2) rfl
  have o3 := (unhide HS).op.cell (i := 3) rfl
  have o4 := (unhide HS).op.cell (i := 4) rfl
  have o5 := (unhide HS).op.cell (i := 5) rfl
  have o6 := (unhide HS).op.cell (i := 6) rfl
  have t0 := wcell3 ht0 (unhide HS).below
  have t1 := wcell3 ht1 (unhide HS).below
  have t2 := wcell3 ht2 (unhide HS).below
  have AT := Below.alloc1 V6 (.cells #[.int .i64 mo, .int .i64 bn, .int .i64 bd] 37)
  have HTB := hide (ownV_alloc V6 #[.int .i64 mo, .int .i64 bn, .int .i64 bd] 37)
  have hltx := (unhide HXB).lt
  have hltB := (unhide HS).box.lt
  have hlt1 := (unhide HS).lots.lt
  have hlt2 := (unhide HS).trs.lt
  go_upto_region 16 with (go_at_call 18; refine (unhide QD _).mono ?_; rintro e w9 ⟨rfl, h9⟩; have h8 := h9.symm; subst h8; clear h9)
  replace HS := hide ((unhide HS).step AT)
  replace HXB := hide ((unhide HXB).step AT)
  obtain ⟨V7, eV⟩ : ∃ V, V = V6.alloc (.cells #[.int .i64 mo, .int .i64 bn, .int .i64 bd] 37) := ⟨_, rfl⟩
  rw [← eV] at HS HXB HTB ⊢
  clear eV t0 t1 t2 AT QD x0 x1 x2 x3 x4 x5 x6 HTB hltx hltB hlt1 hlt2
  clear a0 a1 a2 o0 o1 o2 o3 o4 o5 o6
  have x0 := (unhide HXB).cell (i := 0) rfl
  have x1 := (unhide HXB).cell (i := 1) rfl
  have x2 := (unhide HXB).cell (i := 2) rfl
  have x3 := (unhide HXB).cell (i := 3) rfl
  have x4 := (unhide HXB).cell (i := 4) rfl
  have x5 := (unhide HXB).cell (i := 5) rfl
  have x6 := (unhide HXB).cell (i := 6) rfl
  have a0 := (unhide HS).arg.cell (i := 0) rfl
  have a1 := (unhide HS).arg.cell (i := 1) rfl
  have a2 := (unhide HS).arg.cell (i := 2) rfl
  have o0 := (unhide HS).op.cell (i := 0) rfl
  have o1 := (unhide HS).op.cell (i := 1) rfl
  have o2 := (unhide HS).op.cell (i := 2) rfl
  have o3 := (unhide HS).op.cell (i := 3) rfl
  have o4 := (unhide HS).op.cell (i := 4) rfl
  have o5 := (unhide HS).op.cell (i := 5) rfl
  have o6 := (unhide HS).op.cell (i := 6) rfl
  go_wp2_with fail
  refine (unhide QF2 _ (unhide HS).below).mono ?_
  rintro e V8 ⟨rfl, hb⟩
  replace HS := hide ((unhide HS).step hb)
  replace HXB := hide ((unhide HXB).step hb)
  clear hb QF2 x0 x1 x2 x3 x4 x5 x6
  clear a0 a1 a2 o0 o1 o2 o3 o4 o5 o6
  have x0 := (unhide HXB).cell (i := 0) rfl
  have x1 := (unhide HXB).cell (i := 1) rfl
  have x2 := (unhide HXB).cell (i := 2) rfl
  have x3 := (unhide HXB).cell (i := 3) rfl
  have x4 := (unhide HXB).cell (i := 4) rfl
  have x5 := (unhide HXB).cell (i := 5) rfl
  have x6 := (unhide HXB).cell (i := 6) rfl
  have a0 := (unhide HS).arg.cell (i := 0) rfl
  have a1 := (unhide HS).arg.cell (i := 1) rfl
  have a2 := (unhide HS).arg.cell (i := 2) rfl
  have o0 := (unhide HS).op.cell (i := 0) rfl
  have o1 := (unhide HS).op.cell (i := 1) rfl
  have o2 := (unhide HS).op.cell (i := 2) rfl
  have o3 := (unhide HS).op.cell (i := 3) rfl
  have o4 := (unhide HS).op.cell (i := 4) rfl
  have o5 := (unhide HS).op.cell (i := 5) rfl
  have o6 := (unhide HS).op.cell (i := 6) rfl
  cases hl2 : lhas L nw with
  | true =>
    have EF : Hid (R = ((L, T, tk), 2)) := by show _ = _; rw [unhide ER3, if_pos (by simp [roomL, hl2])]
    have elf : lfnd L nw = (lplc L nw : Nat) := by rw [lfnd, if_pos hl2]
    generalize lfnd L nw = fi at *
    have d1 : decide (0 ≤ fi) = true := by rw [decide_eq_true_eq]; omega
    clear elf
    have b0 := (unhide HS).box.cell (i := 0) rfl
    have b1 := (unhide HS).box.cell (i := 1) rfl
    have b2 := (unhide HS).box.cell (i := 2) rfl
    have r0 := (unhide HS).res.cell (i := 0) rfl
    have r1 := (unhide HS).res.cell (i := 1) rfl
    have r2 := (unhide HS).res.cell (i := 2) rfl
    have rf := (unhide HS).res.frozen
    have HF := hide (res_fin (c1 := c1) (c2 := c2) (tk := tk) (unhide HS).below (unhide HS).res (unhide HS).lots (unhide HS).trs hap.2.1 hap.2.2.1 rfl rfl hc1 hc2)
    dsimp only at HF
    have hnG : ¬ G = w.heap.size + 1 + 1 := by omega
    go_wp2
    have k0 := (unhide HF).1.cell (i := 0) rfl
    have k1 := (unhide HF).1.cell (i := 1) rfl
    have k2 := (unhide HF).1.cell (i := 2) rfl
    refine bodyPost_ret (v := .tuple #[vHouse (.slice (some ⟨g1, 0, none⟩) L.length c1) (.slice (some ⟨g2, 0, none⟩) T.length c2) (tk), .int .i64 2]) (by simp [results, Try.results23, go_sem, vHouse, k0, k1, k2]) rfl ?_
    exact spA_mk (unhide EF) (unhide HF).2.1 (unhide HF).2.2
  | false =>
    have elf : lfnd L nw = -1 := by rw [lfnd, if_neg (by rw [hl2]; simp)]
    rw [elf]
    by_cases h4 : L.length = 40
    · have EF : Hid (R = ((L, T, tk), 2)) := by show _ = _; rw [unhide ER3, if_pos (by simp [roomL, h4])]
      have d2 : ((L.length : Int) == 40) = true := by rw [beq_iff_eq]; omega
      clear h4
      have b0 := (unhide HS).box.cell (i := 0) rfl
      have b1 := (unhide HS).box.cell (i := 1) rfl
      have b2 := (unhide HS).box.cell (i := 2) rfl
      have r0 := (unhide HS).res.cell (i := 0) rfl
      have r1 := (unhide HS).res.cell (i := 1) rfl
      have r2 := (unhide HS).res.cell (i := 2) rfl
      have rf := (unhide HS).res.frozen
      have HF := hide (res_fin (c1 := c1) (c2 := c2) (tk := tk) (unhide HS).below (unhide HS).res (unhide HS).lots (unhide HS).trs hap.2.1 hap.2.2.1 rfl rfl hc1 hc2)
      dsimp only at HF
      have hnG : ¬ G = w.heap.size + 1 + 1 := by omega
      go_wp2
      have k0 := (unhide HF).1.cell (i := 0) rfl
      have k1 := (unhide HF).1.cell (i := 1) rfl
      have k2 := (unhide HF).1.cell (i := 2) rfl
      refine bodyPost_ret (v := .tuple #[vHouse (.slice (some ⟨g1, 0, none⟩) L.length c1) (.slice (some ⟨g2, 0, none⟩) T.length c2) (tk), .int .i64 2]) (by simp [results, Try.results23, go_sem, vHouse, k0, k1, k2]) rfl ?_
      exact spA_mk (unhide EF) (unhide HF).2.1 (unhide HF).2.2
    · have EF0 : Hid (R = ((insL (L.set k (xi, (j : Int), xm - ma, xv, xr, 1, 0)) (lplc L nw) (nw, (j : Int), ma, xv, xr, 1, 0), T, tk), 0)) := by show _ = _; rw [unhide ER3, if_neg (by simp [roomL, hl2]; omega)]
      have d2 : ((L.length : Int) == 40) = false := by rw [beq_eq_false_iff_ne]; omega
      have hL39 : L.length ≤ 1048575 := by omega
      have e9 : IntKind.i64.wrap (xm - ma) = xm - ma := by rw [IntKind.wrap_i64]; omega
      have xf := (unhide HXB).frozen
      have HS9 := hide ((unhide HS).far hgx 2 (.int .i64 (xm - ma)))
      have HX9 := hide ((unhide HXB).set 2 (.int .i64 (xm - ma)) (by simp))
      clear h4 ER3
      go_upto_region 43 with (fail)
      obtain ⟨V9, eV⟩ : ∃ V, V = V8.setCell ⟨gx, 2, none⟩ (.int .i64 (xm - ma)) := ⟨_, rfl⟩
      rw [← eV] at HS9 HX9 ⊢
      dsimp only [List.set] at HX9
      clear eV HS HXB x0 x1 x2 x3 x4 x5 x6 xf
      clear a0 a1 a2 o0 o1 o2 o3 o4 o5 o6
      have HS := HS9
      clear HS9
      have b0 := (unhide HS).box.cell (i := 0) rfl
      have x0 := (unhide HX9).cell (i := 0) rfl
      have x1 := (unhide HX9).cell (i := 1) rfl
      have x2 := (unhide HX9).cell (i := 2) rfl
      have x3 := (unhide HX9).cell (i := 3) rfl
      have x4 := (unhide HX9).cell (i := 4) rfl
      have x5 := (unhide HX9).cell (i := 5) rfl
      have x6 := (unhide HX9).cell (i := 6) rfl
      have q0 := (unhide HS).lots.cell (recCells_get (n := 7) (enc := eLot) (L := L) (i := k) (j := 0) hk (by omega))
      have q1 := (unhide HS).lots.cell (recCells_get (n := 7) (enc := eLot) (L := L) (i := k) (j := 1) hk (by omega))
      have q2 := (unhide HS).lots.cell (recCells_get (n := 7) (enc := eLot) (L := L) (i := k) (j := 2) hk (by omega))
      have q3 := (unhide HS).lots.cell (recCells_get (n := 7) (enc := eLot) (L := L) (i := k) (j := 3) hk (by omega))
      have q4 := (unhide HS).lots.cell (recCells_get (n := 7) (enc := eLot) (L := L) (i := k) (j := 4) hk (by omega))
      have q5 := (unhide HS).lots.cell (recCells_get (n := 7) (enc := eLot) (L := L) (i := k) (j := 5) hk (by omega))
      have q6 := (unhide HS).lots.cell (recCells_get (n := 7) (enc := eLot) (L := L) (i := k) (j := 6) hk (by omega))
      rw [Nat.add_zero] at q0
      rw [unhide HX] at q0 q1 q2 q3 q4 q5 q6
      dsimp only [eLot] at q0 q1 q2 q3 q4 q5 q6
      have cf := (unhide HS).lots.frozen
      have q7 := keptS7 V9 g1 (k * 7) (.int .i64 xi) (.int .i64 (j : Int)) (.int .i64 (xm - ma)) (.int .i64 xv) (.int .i64 xr) (.int .i64 1) (.int .i64 0)
      have HSA := hide ((unhide HS).setLot hk xi (j : Int) (xm - ma) xv xr 1 0)
      have HXA := hide ((unhide HX9).kept q7 hgx.2.2.1)
      clear q7
      go_upto_region 44 with (fail)
      obtain ⟨VA, eV⟩ : ∃ V, V = ((((((V9.setCell ⟨g1, k * 7, none⟩ (.int .i64 xi)).setCell ⟨g1, k * 7 + 1, none⟩ (.int .i64 (j : Int))).setCell ⟨g1, k * 7 + 2, none⟩ (.int .i64 (xm - ma))).setCell ⟨g1, k * 7 + 3, none⟩ (.int .i64 xv)).setCell ⟨g1, k * 7 + 4, none⟩ (.int .i64 xr)).setCell ⟨g1, k * 7 + 5, none⟩ (.int .i64 1)).setCell ⟨g1, k * 7 + 6, none⟩ (.int .i64 0) := ⟨_, rfl⟩
      rw [← eV] at HSA HXA ⊢
      clear eV HS HX9 b0 x0 x1 x2 x3 x4 x5 x6 q0 q1 q2 q3 q4 q5 q6 cf
      have HS := HSA
      clear HSA
      have hlp : lplc (L.set k (xi, (j : Int), xm - ma, xv, xr, 1, 0)) nw = lplc L nw := lplc_set hk (by rw [unhide HX]) nw
      have EF : Hid (R = ((insL (L.set k (xi, (j : Int), xm - ma, xv, xr, 1, 0)) (lplc (L.set k (xi, (j : Int), xm - ma, xv, xr, 1, 0)) nw) (nw, (j : Int), ma, xv, xr, 1, 0), T, tk), 0)) := by show _ = _; rw [hlp]; exact unhide EF0
      clear hlp EF0
      obtain ⟨L2, eL2⟩ : ∃ M, M = L.set k (xi, (j : Int), xm - ma, xv, xr, 1, 0) := ⟨_, rfl⟩
      have hL2 : L2.length = L.length := by rw [eL2, List.length_set]
      rw [← eL2] at HS EF
      have HL2 := hide hL2
      have QW := hide (l16With_any g1 c1 (some ⟨g2, 0, none⟩) T.length c2 L2 nw (j : Int) ma xv xr 1 0 tk VA (unhide HS).lots (by rw [hL2]; exact hc1) (by omega))
      unfold WiA vHouse vLot at QW
      dsimp only at QW
      rw [hL2] at QW
      clear eL2 hL2
      have b0 := (unhide HS).box.cell (i := 0) rfl
      have b1 := (unhide HS).box.cell (i := 1) rfl
      have b2 := (unhide HS).box.cell (i := 2) rfl
      have x1 := (unhide HXA).cell (i := 1) rfl
      have x3 := (unhide HXA).cell (i := 3) rfl
      have x4 := (unhide HXA).cell (i := 4) rfl
      have o3 := (unhide HS).op.cell (i := 3) rfl
      have o6 := (unhide HS).op.cell (i := 6) rfl
      go_wp2_with fail
      refine (unhide QW).mono ?_
      rintro e V5' ⟨g9, c9, rfl, hl9, hc9, hg9, hb⟩
      have hS5 := (unhide HS).step hb
      have hV4 := (unhide HS).box.lt
      have HF := hide (res_fin (n1 := L.length + 1) (n2 := T.length) (c1 := c9) (c2 := c2) (tk := tk) hS5.below hS5.res hl9 hS5.trs (by omega) hap.2.2.1 (by rw [insL_len, unhide HL2]) rfl hc9 hc2)
      have r0 := hS5.res.cell (i := 0) rfl
      have r1 := hS5.res.cell (i := 1) rfl
      have r2 := hS5.res.cell (i := 2) rfl
      have rf := hS5.res.frozen
      dsimp only at HF
      clear hb hl9 hS5 QW b0 b1 b2 HS x1 x3 x4 o3 o6
      go_wp2
      have k0 := (unhide HF).1.cell (i := 0) rfl
      have k1 := (unhide HF).1.cell (i := 1) rfl
      have k2 := (unhide HF).1.cell (i := 2) rfl
      refine bodyPost_ret (v := .tuple #[vHouse (.slice (some ⟨g9, 0, none⟩) (L.length + 1) c9) (.slice (some ⟨g2, 0, none⟩) T.length c2) tk, .int .i64 0]) (by simp [results, Try.results23, go_sem, vHouse, k0, k1, k2]) rfl ?_
      exact spA_mk (unhide EF) (unhide HF).2.1 (unhide HF).2.2

end Go.Proofs.Ytojlkdmlelgcbaa

/- Radios: contracts of the program's Clashes, Choose. -/
import Derived.Test.YtkjikjeecjendaaRdH
namespace Go.Proofs.Ytkjikjeecjendaa
open Go.RowKit

/-- The places below i that have the slot of one that they hear. -/
noncomputable def clashU (L : List Rad) : Nat → List Int
  | 0 => []
  | i + 1 => clashU L i ++ if pB (Heard L i (rSl L i)) then [(i : Int)] else []
noncomputable def clashL (L : List Rad) : List Int := if radsB L then clashU L L.length else []
theorem clashU_len (L : List Rad) (i : Nat) : (clashU L i).length ≤ i := by
  induction i with
  | zero => simp [clashU]
  | succ i ih => simp only [clashU, List.length_append]; split <;> simp <;> omega
theorem clashL_len (L : List Rad) : (clashL L).length ≤ 24 := by
  unfold clashL
  split
  · rename_i h
    have := clashU_len L L.length
    have := (of_pB (p := RadsOk L) h).2.1
    omega
  · simp
theorem clashL_no {L : List Rad} (h : radsB L = false) : clashL L = [] := by unfold clashL; rw [h]; rfl
theorem clashL_yes {L : List Rad} (h : radsB L = true) : clashL L = clashU L L.length := by unfold clashL; rw [h]; rfl
theorem clashU_yes {L : List Rad} {i : Nat} (h : pB (Heard L i (rSl L i)) = true) : clashU L (i + 1) = clashU L i ++ [(i : Int)] := by simp [clashU, h]
theorem clashU_no {L : List Rad} {i : Nat} (h : pB (Heard L i (rSl L i)) = false) : clashU L (i + 1) = clashU L i := by simp [clashU, h]

theorem Below.drewL {w w' : World} (h : Below w.drew.heap.size w.drew w') : Below w.heap.size w w' := ⟨h.os, h.tape, h.output, h.size, h.block⟩

set_option maxRecDepth 10000 in
set_option maxHeartbeats 3200000 in
theorem implClashes_any (v : Value) (L : List Rad) (w : World) (h : RadsIn w v L) :
    Calls Try.prog 21 #[v] w fun e w' => ∃ a n cp, e = .returned (.slice a n cp) ∧ OwnSl w.heap.size w' (.slice a n cp) (clashL L) ∧ Below w.heap.size w w' := by
  obtain ⟨i0, hinf, hzz⟩ := Option.map_eq_some_iff.1 Try.infoIntCp
  simp only [Prod.mk.injEq] at hzz
  obtain ⟨hz0, hz1, hz2⟩ := hzz
  have HV := hide h
  have HOKC := hide (implRadiosOk_any v L w h)
  obtain ⟨ao, cap, rfl, hl, hm, hc⟩ := h
  unfold maxLen at hm
  have HC := hide hc
  clear hc
  cases hrb : radsB L with
  | false =>
    have EC := hide (clashL_no hrb)
    rw [hrb] at HOKC
    clear hrb
    go_enter Try.func21, Try.ntmps21
    go_wp2_with fail
    refine (unhide HOKC).mono ?_
    rintro e w1 ⟨rfl, hb⟩
    have HB := hide hb
    clear hb
    go_wp2
    go_ret
    exact ⟨none, 0, 0, rfl, by rw [unhide EC]; exact ⟨none, 0, rfl, Nat.le_refl _, Nat.zero_le _, fun h => absurd rfl h⟩, unhide HB⟩
  | true =>
  have EC := hide (clashL_yes hrb)
  have HOK := hide (of_pB (p := RadsOk L) hrb)
  have hn24 := (unhide HOK).2.1
  rw [hrb] at HOKC
  clear hrb
  go_enter Try.func21, Try.ntmps21
  go_wp2_with fail
  refine (unhide HOKC).mono ?_
  rintro e w1 ⟨rfl, hb⟩
  have HB := hide hb
  clear hb HOKC
  go_wp2
  go_loopg [3, 11] L.length (fun gg ov iv wr => ∃ i : Nat, i ≤ L.length ∧ gg = L.length - i ∧ iv = .int .i64 i ∧ Below w.heap.size w wr ∧ (∃ a n cp, ov = .slice a n cp) ∧ Hid (wr.ownsRow w.heap.size 3 1 ov (clashU L i).length (ints (clashU L i))))
  case atStart => exact ⟨0, Nat.zero_le _, rfl, rfl, unhide HB, ⟨_, _, _, rfl⟩, World.ownsRow_nil _ _ _ _⟩
  case round =>
    obtain ⟨i, hi, rfl, rfl, hW, ⟨a, n, cp, rfl⟩, HR⟩ := hrel
    clear HB
    by_cases hin : i < L.length
    · obtain ⟨b, o, na, nc, id, sl, H, m, rfl, hc0, hc1, hc2, hr, EX, EM, hm0⟩ := radAt (unhide HC) hin
      have g0 := wcell3 hc0 hW
      have g1 := wcell3 hc1 hW
      have g2 := wcell3 hc2 hW
      have hii : (i : Int) < L.length := by omega
      have esl : rSl L i = sl := by show (L.getD i default).2.1 = sl; rw [unhide EX]
      have hsl := ((unhide HOK).2.2.1 i hin).2.1
      unfold SlOk at hsl
      rw [esl] at hsl
      obtain ⟨s, hs⟩ : ∃ s : Nat, sl = (s : Int) := ⟨sl.toNat, by omega⟩
      rw [hs] at g1 esl
      have hs20 : s < 20 := by omega
      have hA := Below.alloc1 wr (.cells #[.int .i64 id, .int .i64 (s : Int), .slice na m nc] 45)
      have HOX := hide (ownV_alloc wr #[.int .i64 id, .int .i64 (s : Int), .slice na m nc] 45)
      have HW := hide (Below.step hW hA)
      have hWs := hW.size
      have HR1 := hide (ownsRow_below (unhide HR) hA)
      have HSH := hide fun W (hW : Below w.heap.size w W) => slotsHeard_any _ L i W ((unhide HV).below hW) (unhide HOK) hin
      have HHS := hide fun g W (hW : OwnV W g ((cnts L i (rHe L i).length).map e32)) => has_any g s _ W hW (cnts_len _ _ _) hs20
      rw [cnts_get _ _ _ hs20, heard_cnt, show pB (Heard L i (s : Int)) = pB (Heard L i (rSl L i)) from by rw [esl]] at HHS
      have EY := hide fun h => clashU_yes (L := L) (i := i) h
      have EN := hide fun h => clashU_no (L := L) (i := i) h
      have hfl := clashU_len L i
      generalize pB (Heard L i (rSl L i)) = B at HHS EY EN
      obtain ⟨V, hV⟩ : ∃ V, V = wr.alloc (.cells #[.int .i64 id, .int .i64 (s : Int), .slice na m nc] 45) := ⟨_, rfl⟩
      rw [← hV] at HOX HW HR1
      have cs := (unhide HOX).cell (i := 1) rfl
      have hV' := hV.symm
      clear hc0 hc1 hc2 hr hW hA hs hsl esl hV HR
      go_wp2
      clear hV' g0 g1 g2
      go_region_held3 (fun z => z.cell? ⟨wr.heap.size, 1, none⟩ = some (.int .i64 (s : Int))) (go_keep) (first
        | (go_at_call 61; refine (unhide HSH _ (Below.drew (unhide HW))).mono ?_; rintro e w3 ⟨gc, rfl, hgc, ho3, hb3⟩; replace hb3 := Below.drewL hb3; have f1 := wcell3 cs hb3; have HO3 := hide ho3; have HB3 := hide (Below.step (unhide HW) hb3); have HR3 := hide (ownsRow_below (unhide HR1) hb3); clear ho3 hb3)
        | (go_at_call 62; refine (unhide HHS _ _ (unhide HO3)).mono ?_; rintro e w4 ⟨rfl, h9⟩; have h8 := h9.symm; subst h8; clear h9))
      have hsz := (unhide HB3).size
      clear HHS HSH HW HR1 HOX
      cases B with
      | false =>
        have EF := hide (unhide EN rfl)
        clear EN EY
        go_wp2
        go_roundg (L.length - (i + 1))
        case measure => omega
        case rel => exact ⟨i + 1, by omega, rfl, by go_num, unhide HB3, ⟨_, _, _, rfl⟩, by rw [unhide EF]; exact HR3⟩
      | true =>
        have EF := hide (unhide EY rfl)
        clear EN EY
        have HR2 := hide (ownsRow_below (unhide HR3) (Below.alloc1 w3 (.cells #[.int .i64 i] 3)))
        go_wp2_with (at_builtin; refine wpList_append_lies _ rfl _ _ 34 rfl w.heap.size 3 i0 _ 1 8 Try.underlying34 hinf hz0 hz1 hz2 rfl (by decide) _ (clashU L i).length _ rfl (unhide HR2) ⟨w3.heap.size, 0, none⟩ 1 1 [.int .i64 i] rfl rfl (cell_one_new _ _ _) (by simp [Value.oneCell']) (by omega) (by unfold maxLen; omega) (by omega) (by simp; omega) _ rfl ?_; intro g4 cap4 wa hown hgrow hat hlt4; have HWa := hide ((Below.step (unhide HB3) (Below.alloc1 w3 (.cells #[.int .i64 i] 3))).grown hgrow (by simp; omega) (fun g hg => ((unhide HR3).lt g hg).1)); have HOW := hide hown; clear hown hgrow hat)
        go_roundg (L.length - (i + 1))
        case measure => omega
        case rel => exact ⟨i + 1, by omega, rfl, by go_num, unhide HWa, ⟨_, _, _, rfl⟩, by rw [unhide EF, List.length_append]; exact hide (by have := unhide HOW; simpa [ints] using this)⟩
    · have hss : i = L.length := by omega
      subst hss
      have HW := hide hW
      clear hW
      go_wp2
      go_ret
      obtain ⟨a', n', cp', e', hsl⟩ := own_told1 (unhide HR) rfl
      simp only [Value.slice.injEq] at e'
      obtain ⟨rfl, rfl, rfl⟩ := e'
      exact ⟨_, _, _, rfl, by rw [unhide EC]; exact hsl, unhide HW⟩

/-- What Choose tells, in numbers. -/
noncomputable def chooseV (L : List Rad) (at_ coin : Int) : Int × Bool :=
  if radsB L = false ∨ inB at_ 0 ((L.length : Int) - 1) = false ∨ coin < 0 then (-1, false)
  else if (freeL L at_.toNat).length = 0 then (rSl L at_.toNat, false) else ((freeL L at_.toNat).getD (coin % ((freeL L at_.toNat).length : Int)).toNat 0, true)
theorem chooseV_no {L : List Rad} {at_ coin : Int} (h : radsB L = false ∨ inB at_ 0 ((L.length : Int) - 1) = false ∨ coin < 0) : chooseV L at_ coin = (-1, false) := by unfold chooseV; rw [if_pos h]
theorem chooseV_none {L : List Rad} {i : Nat} {coin : Int} (h1 : radsB L = true) (h2 : inB (i : Int) 0 ((L.length : Int) - 1) = true) (h3 : ¬ coin < 0) (h : (freeL L i).length = 0) : chooseV L i coin = (rSl L i, false) := by
  unfold chooseV; rw [if_neg (by rw [h1, h2]; simp; omega), Int.toNat_natCast, if_pos h]
theorem chooseV_some {L : List Rad} {i : Nat} {coin : Int} (h1 : radsB L = true) (h2 : inB (i : Int) 0 ((L.length : Int) - 1) = true) (h3 : ¬ coin < 0) (h : ¬ (freeL L i).length = 0) : chooseV L i coin = ((freeL L i).getD (coin % ((freeL L i).length : Int)).toNat 0, true) := by
  unfold chooseV; rw [if_neg (by rw [h1, h2]; simp; omega), Int.toNat_natCast, if_neg h]

set_option maxRecDepth 10000 in
set_option maxHeartbeats 3200000 in
theorem implChoose_any (v : Value) (L : List Rad) (at_ coin : Int) (w : World) (h : RadsIn w v L) :
    Calls Try.prog 27 #[v, .int .i64 at_, .int .i64 coin] w fun e w' => e = .returned (.tuple #[.int .i64 (chooseV L at_ coin).1, .bool (chooseV L at_ coin).2]) ∧ Below w.heap.size w w' := by
  have HV := hide h
  have HOKC := hide (implRadiosOk_any v L w h)
  obtain ⟨ao, cap, rfl, hl, hm, hc⟩ := h
  unfold maxLen at hm
  have HC := hide hc
  clear hc
  cases hrb : radsB L with
  | false =>
    have EC := hide (chooseV_no (L := L) (at_ := at_) (coin := coin) (Or.inl hrb))
    rw [hrb] at HOKC
    clear hrb
    go_enter Try.func27, Try.ntmps27
    go_wp2_with fail
    refine (unhide HOKC).mono ?_
    rintro e w1 ⟨rfl, hb⟩
    have HB := hide hb
    clear hb
    go_wp2
    refine bodyPost_ret (v := .tuple #[.int .i64 (-1), .bool false]) (by simp [results, Try.results27, go_sem]) rfl ⟨by rw [unhide EC], unhide HB⟩
  | true =>
  have HOK := hide (of_pB (p := RadsOk L) hrb)
  have hn24 := (unhide HOK).2.1
  have HRB := hide hrb
  rw [hrb] at HOKC
  clear hrb
  cases hat : inB at_ 0 ((L.length : Int) - 1) with
  | false =>
    have EC := hide (chooseV_no (L := L) (at_ := at_) (coin := coin) (Or.inr (Or.inl hat)))
    go_enter Try.func27, Try.ntmps27
    go_wp2_with fail
    refine (unhide HOKC).mono ?_
    rintro e w1 ⟨rfl, hb⟩
    have HB := hide hb
    clear hb
    go_wp2_with (go_at_call 55; refine (within_any _ _ _ _).mono ?_; rintro e w' ⟨rfl, h9⟩; have h8 := h9.symm; subst h8; clear h9)
    refine bodyPost_ret (v := .tuple #[.int .i64 (-1), .bool false]) (by simp [results, Try.results27, go_sem]) rfl ⟨by rw [unhide EC], unhide HB⟩
  | true =>
  obtain ⟨ha0, ha1⟩ := inB_true hat
  obtain ⟨i, hi⟩ : ∃ i : Nat, at_ = (i : Int) := ⟨at_.toNat, by omega⟩
  subst hi
  by_cases hcn : coin < 0
  · have EC := hide (chooseV_no (L := L) (at_ := (i : Int)) (coin := coin) (Or.inr (Or.inr hcn)))
    go_enter Try.func27, Try.ntmps27
    go_wp2_with fail
    refine (unhide HOKC).mono ?_
    rintro e w1 ⟨rfl, hb⟩
    have HB := hide hb
    clear hb
    go_wp2_with (go_at_call 55; refine (within_any _ _ _ _).mono ?_; rintro e w' ⟨rfl, h9⟩; have h8 := h9.symm; subst h8; clear h9)
    refine bodyPost_ret (v := .tuple #[.int .i64 (-1), .bool false]) (by simp [results, Try.results27, go_sem]) rfl ⟨by rw [unhide EC], unhide HB⟩
  have hin : i < L.length := by omega
  have hii : (i : Int) < L.length := by omega
  have HSH := hide fun W (hW : Below w.heap.size w W) => slotsHeard_any _ L i W ((unhide HV).below hW) (unhide HOK) hin
  have HFR := hide fun g W (hW : OwnV W g ((cnts L i (rHe L i).length).map e32)) => free_any g L i W hW
  have hfl := freeU_len L i 20
  have HE0 := hide fun h => chooseV_none (unhide HRB) hat hcn (i := i) h
  have HE1 := hide fun h => chooseV_some (unhide HRB) hat hcn (i := i) h
  have hfl' : (freeL L i).length ≤ 20 := hfl
  generalize freeL L i = F at *
  generalize chooseV L (i : Int) coin = CV at *
  obtain ⟨b, o, na, nc, id, sl, H, m, rfl, hc0, hc1, hc2, hr, EX, EM, hm0⟩ := radAt (unhide HC) hin
  have esl : rSl L i = sl := by show (L.getD i default).2.1 = sl; rw [unhide EX]
  rw [esl] at HE0
  clear hc0 hc2 hr esl hfl
  go_enter Try.func27, Try.ntmps27
  go_wp2_with fail
  refine (unhide HOKC).mono ?_
  rintro e w1 ⟨rfl, hb⟩
  have HB := hide hb
  clear hb HOKC
  go_wp2_with fail
  refine (within_any _ _ _ _).mono ?_
  rintro e w' ⟨rfl, h9⟩
  have h8 := h9.symm
  subst h8
  clear h9
  go_wp2_with fail
  refine (unhide HSH _ (unhide HB)).mono ?_
  rintro e w3 ⟨gc, rfl, hgc, ho3, hb3⟩
  replace HB := hide (Below.step (unhide HB) hb3)
  have HO3 := hide ho3
  clear ho3 hb3 HSH
  go_wp2_with fail
  refine (unhide HFR _ _ (unhide HO3)).mono ?_
  rintro e w4 ⟨fa, fn, fc, rfl, ho4, hb4⟩
  replace HB := hide (Below.step (unhide HB) hb4)
  have HO4 := hide ho4.intsIn
  obtain ⟨hfn, hfc, hfm⟩ := ho4.intsIn.len
  unfold maxLen at hfm
  rw [hfn] at HE0 HE1 hfl'
  have HFN := hide hfn
  clear ho4 hb4 hfn HFR HO3
  have q1 := wcell3 hc1 (unhide HB)
  by_cases hf0 : fn = 0
  · have EC := hide (unhide HE0 hf0)
    have hfz : ((fn : Int) == 0) = true := by simpa using hf0
    clear HE0 HE1 hf0
    go_wp2
    refine bodyPost_ret (v := .tuple #[.int .i64 sl, .bool false]) (by simp [results, Try.results27, go_sem]) rfl ⟨by rw [unhide EC], unhide HB⟩
  · have EC := hide (unhide HE1 hf0)
    have hfz : ((fn : Int) == 0) = false := by simpa using hf0
    have hpos : (0 : Int) < fn := by omega
    obtain ⟨q, hq⟩ : ∃ q : Nat, coin % (fn : Int) = (q : Int) := ⟨(coin % (fn : Int)).toNat, by have := Int.emod_nonneg coin (show (fn : Int) ≠ 0 by omega); omega⟩
    have hqf : q < fn := by have := Int.emod_lt_of_pos coin hpos; omega
    have htm : Int.tmod coin (fn : Int) = (q : Int) := by rw [Int.tmod_eq_emod_of_nonneg (by omega)]; exact hq
    have hqf' : (q : Int) < fn := by omega
    obtain ⟨b2, o2, rfl, hcell⟩ := intAt (unhide HO4) hqf
    rw [hq, Int.toNat_natCast] at EC
    generalize F.getD q 0 = y at *
    have hne : ¬ (fn : Int) = 0 := by omega
    clear HE0 HE1 hf0
    go_wp2
    refine bodyPost_ret (v := .tuple #[.int .i64 y, .bool true]) (by simp [results, Try.results27, go_sem]) rfl ⟨by rw [unhide EC], unhide HB⟩

end Go.Proofs.Ytkjikjeecjendaa

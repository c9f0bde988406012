/- Radios: a contract of the specification's Choose. -/
import Derived.Test.YtkjikjeecjendaaRdJ
import Derived.Deep.Cut
namespace Go.Proofs.Ytkjikjeecjendaa
open Go.RowKit

/-- Whether one of the first k has the slot s. -/
noncomputable def tkB (L : List Rad) (i k : Nat) (s : Nat) : Bool := pB (∃ q, q < k ∧ slK L i q = (s : Int))
noncomputable def tks (L : List Rad) (i k : Nat) : List Bool := (List.range 20).map (tkB L i k)
theorem tks_len (L : List Rad) (i k : Nat) : (tks L i k).length = 20 := by simp [tks]
theorem tks_get (L : List Rad) (i k : Nat) {s : Nat} (h : s < 20) : (tks L i k)[s]? = some (tkB L i k s) := by simp [tks, h]
theorem tks_step (L : List Rad) (i k s : Nat) (hs : slK L i k = (s : Int)) : (tks L i k).set s true = tks L i (k + 1) := by
  apply List.ext_getElem
  · simp [tks]
  · intro j h1 h2
    rw [List.getElem_set]
    by_cases e : s = j
    · subst e
      rw [if_pos rfl]
      simp only [tks, List.getElem_map, List.getElem_range]
      exact (pB_true ⟨k, by omega, hs⟩).symm
    · rw [if_neg e]
      simp only [tks, List.getElem_map, List.getElem_range]
      cases hq : tkB L i k j with
      | true =>
        obtain ⟨q, h1, h2⟩ := of_pB hq
        exact (pB_true ⟨q, by omega, h2⟩).symm
      | false =>
        refine (pB_false fun ⟨q, h1, h2⟩ => ?_).symm
        by_cases eq : q = k
        · subst eq; omega
        · exact not_pB hq ⟨q, by omega, h2⟩
theorem tks_zero (L : List Rad) (i : Nat) : tks L i 0 = List.replicate 20 false := by
  apply List.ext_getElem
  · simp [tks]
  · intro j h1 h2
    simp only [tks, List.getElem_map, List.getElem_range, List.getElem_replicate]
    exact pB_false fun ⟨q, h, _⟩ => by omega
theorem Try.infoBool9 : (Try.prog.info? 4).map (fun i => (i.zero, i.size, i.bytes)) = some (some (.bool false), 1, 1) := by kernel_rfl
theorem made20 (L : List Rad) (i : Nat) : (madeCells (Value.bool false).cells (20 * 1)).toList = (tks L i 0).map Value.bool := by
  rw [tks_zero]
  simp [madeCells, Value.cells, List.replicate]
  rfl
theorem Below.keptB {T : Nat → Prop} {w w1 w2 : World} {B : Nat} (h : Below B w w1) (hk : Kept T w1 w2) (hB : B ≤ w1.heap.size) (hT : ∀ b, T b → B ≤ b) : Below B w w2 := h.trans (hk.below hB hT)

set_option maxRecDepth 10000 in
set_option maxHeartbeats 3200000 in
theorem specChoose_any (v : Value) (L : List Rad) (at_ coin : Int) (w : World) (h : RadsIn w v L) :
    Calls Try.prog 45 #[v, .int .i64 at_, .int .i64 coin] w fun e w' => e = .returned (.tuple #[.int .i64 (chooseV L at_ coin).1, .bool (chooseV L at_ coin).2]) ∧ Below w.heap.size w w' := by
  obtain ⟨i0, hinf, hzz⟩ := Option.map_eq_some_iff.1 Try.infoIntCp
  simp only [Prod.mk.injEq] at hzz
  obtain ⟨hz0, hz1, hz2⟩ := hzz
  have HV := hide h
  have HOKC := hide (specRadiosOk_any v L w h)
  obtain ⟨ao, cap, rfl, hl, hm, hc⟩ := h
  unfold maxLen at hm
  have HC := hide hc
  clear hc
  cases hrb : radsB L with
  | false =>
    have EC := hide (chooseV_no (L := L) (at_ := at_) (coin := coin) (Or.inl hrb))
    rw [hrb] at HOKC
    clear hrb
    go_enter Try.func45, Try.ntmps45
    go_wp2_with fail
    refine (unhide HOKC).mono ?_
    rintro e w1 ⟨rfl, hb⟩
    have HB := hide hb
    clear hb
    go_wp2
    refine bodyPost_ret (v := .tuple #[.int .i64 (-1), .bool false]) (by simp [results, Try.results45, go_sem]) rfl ⟨by rw [unhide EC], unhide HB⟩
  | true =>
  have HOK := hide (of_pB (p := RadsOk L) hrb)
  have hn24 := (unhide HOK).2.1
  have HRB := hide hrb
  rw [hrb] at HOKC
  clear hrb
  cases hat : inB at_ 0 ((L.length : Int) - 1) with
  | false =>
    have EC := hide (chooseV_no (L := L) (at_ := at_) (coin := coin) (Or.inr (Or.inl hat)))
    go_enter Try.func45, Try.ntmps45
    go_wp2_with fail
    refine (unhide HOKC).mono ?_
    rintro e w1 ⟨rfl, hb⟩
    have HB := hide hb
    clear hb
    go_wp2_with (go_at_call 54; refine (l1In_any _ _ _ _).mono ?_; rintro e w' ⟨rfl, h9⟩; have h8 := h9.symm; subst h8; clear h9)
    refine bodyPost_ret (v := .tuple #[.int .i64 (-1), .bool false]) (by simp [results, Try.results45, go_sem]) rfl ⟨by rw [unhide EC], unhide HB⟩
  | true =>
  obtain ⟨ha0, ha1⟩ := inB_true hat
  obtain ⟨i, hi⟩ : ∃ i : Nat, at_ = (i : Int) := ⟨at_.toNat, by omega⟩
  subst hi
  by_cases hcn : coin < 0
  · have EC := hide (chooseV_no (L := L) (at_ := (i : Int)) (coin := coin) (Or.inr (Or.inr hcn)))
    go_enter Try.func45, Try.ntmps45
    go_wp2_with fail
    refine (unhide HOKC).mono ?_
    rintro e w1 ⟨rfl, hb⟩
    have HB := hide hb
    clear hb
    go_wp2_with (go_at_call 54; refine (l1In_any _ _ _ _).mono ?_; rintro e w' ⟨rfl, h9⟩; have h8 := h9.symm; subst h8; clear h9)
    refine bodyPost_ret (v := .tuple #[.int .i64 (-1), .bool false]) (by simp [results, Try.results45, go_sem]) rfl ⟨by rw [unhide EC], unhide HB⟩
  have hin : i < L.length := by omega
  have hii : (i : Int) < L.length := by omega
  have hF20 : ∀ k, k = 20 → freeU L i k = freeL L i := fun k e => by subst e; rfl
  have HE0 := hide fun h => chooseV_none (unhide HRB) hat hcn (i := i) h
  have HE1 := hide fun h => chooseV_some (unhide HRB) hat hcn (i := i) h
  generalize chooseV L (i : Int) coin = CV at *
  generalize freeL L i = F at *
  have HF20 := hide hF20
  clear hF20
  obtain ⟨b, o, na, nc, id, sl, H, m, rfl, hc0, hc1, hc2, hr, EX, EM, hm0⟩ := radAt (unhide HC) hin
  have esl : rSl L i = sl := by show (L.getD i default).2.1 = sl; rw [unhide EX]
  have E3 : Hid (rHe L i = H) := by show (L.getD i default).2.2 = H; rw [unhide EX]
  have HR := hide hr
  rw [esl] at HE0
  have hbl := lt_of_cell hc1
  simp only at hbl
  clear hc0 hr esl
  go_enter Try.func45, Try.ntmps45
  go_wp2_with fail
  refine (unhide HOKC).mono ?_
  rintro e w1 ⟨rfl, hb⟩
  have HB := hide hb
  have hsz1 := hb.size
  clear hb HOKC
  have hmk := run_make_recs (P := Try.prog) 93 4 _ 1 1 Try.underlying93 Try.infoBool9 .i64 .i64 20 (by omega) (by omega) w1
  have hO := ownV_alloc w1 (madeCells (Value.bool false).cells (20 * 1)) 4
  rw [made20 L i] at hO
  have HO := hide hO
  have HB1 := hide (Below.step (unhide HB) (Below.alloc1 w1 (.cells (madeCells (Value.bool false).cells (20 * 1)) 4)))
  obtain ⟨gt, egt⟩ : ∃ g, g = w1.heap.size := ⟨_, rfl⟩
  rw [← egt] at HO hmk
  have hgt : w.heap.size ≤ gt := by omega
  generalize hV : w1.alloc (.cells (madeCells (Value.bool false).cells (20 * 1)) 4) = V at HO HB1 hmk
  have hmk' : (Instr.makeSlice 93 (.int .i64 20) (.int .i64 20)).run Try.prog w1 = .ok (.slice (some ⟨gt, 0, none⟩) 20 20) V := hmk
  have EGT := hide egt
  clear hmk hO hV egt HB
  have HLI := hide (l1In_any (i : Int) 0 ((L.length : Int) - 1) w1)
  rw [hat] at HLI
  go_wp2_with fail
  refine (unhide HLI).mono ?_
  rintro e w' ⟨rfl, h9⟩
  have h8 := h9.symm
  subst h8
  clear h9 HLI
  go_wp2
  clear hmk'
  go_loopg [9] m (fun g kv wr => ∃ k : Nat, k ≤ m ∧ g = m - k ∧ kv = .int .i64 k ∧ Below w.heap.size w wr ∧ OwnV wr gt ((tks L i k).map Value.bool))
  case atStart => exact ⟨0, Nat.zero_le _, rfl, rfl, unhide HB1, unhide HO⟩
  case round =>
    obtain ⟨k, hk, rfl, rfl, hW, hO⟩ := hrel
    clear HB1 HO
    have g1 := wcell3 hc1 hW
    have g2 := wcell3 hc2 hW
    by_cases hkm : k < m
    · obtain ⟨b', o', rfl, hcell⟩ := intAt (unhide HR) hkm
      have c0 := wcell3 hcell hW
      have hkm' : (k : Int) < m := by omega
      have hHe : HeAt H i L.length k := by
        have := ((unhide HOK).2.2.1 i hin).2.2
        rw [unhide E3] at this
        exact this k (by rw [unhide EM]; exact hkm)
      obtain ⟨hx0, hx1, -, -⟩ := hHe
      have ES : slK L i k = rSl L (H.getD k 0).toNat := by unfold slK; rw [unhide E3]
      obtain ⟨x, hx⟩ : ∃ x : Nat, H.getD k 0 = (x : Int) := ⟨(H.getD k 0).toNat, by omega⟩
      rw [hx] at c0 hx0 hx1 ES
      rw [Int.toNat_natCast] at ES
      have hxl : x < L.length := by omega
      obtain ⟨b2, o2, na2, nc2, id2, sl2, H2, m2, e2, hd0, hd1, hd2, hr2, EX2, EM2, hm2⟩ := radAt (unhide HC) hxl
      simp only [Option.some.injEq, Addr.mk.injEq, and_true] at e2
      obtain ⟨rfl, rfl⟩ := e2
      have q1 := wcell3 hd1 hW
      have hsl := ((unhide HOK).2.2.1 x hxl).2.1
      have esl : rSl L x = sl2 := by show (L.getD x default).2.1 = sl2; rw [unhide EX2]
      unfold SlOk at hsl
      rw [esl] at hsl ES
      obtain ⟨s, hs⟩ : ∃ s : Nat, sl2 = (s : Int) := ⟨sl2.toNat, by omega⟩
      subst hs
      have hs20 : s < 20 := by omega
      have hs20' : (s : Int) < 20 := by omega
      have hu : wr.cell? ⟨gt, s, none⟩ = some (.bool (tkB L i k s)) := hO.cell (by rw [List.getElem?_map, tks_get L i k hs20]; rfl)
      have hfz := hO.frozen s
      have hN := hO.set s (.bool true) (by rw [List.length_map, tks_len]; exact hs20)
      rw [← List.map_set, tks_step L i k s ES] at hN
      have HN := hide hN
      have HW := hide (hW.setCell (p := ⟨gt, s, none⟩) hgt (.bool true))
      generalize tkB L i k s = tb at *
      clear hcell hd0 hd1 hd2 hr2 hW hO hx ES esl hN hsl
      go_wp2
      go_roundg (m - (k + 1))
      case measure => omega
      case rel => exact ⟨k + 1, by omega, rfl, by go_num, unhide HW, unhide HN⟩
    · have hkk : k = m := by omega
      rw [hkk] at hO
      have HT : Hid (∀ s, s < 20 → wr.cell? ⟨gt, s, none⟩ = some (.bool (pB (Heard L i (s : Int))))) := fun s hs => hO.cell (by
        rw [List.getElem?_map, tks_get L i m hs]
        show some (Value.bool (tkB L i m s)) = _
        unfold tkB Heard
        rw [unhide E3, unhide EM])
      have HB3 := hide (Below.step hW (Below.alloc1 wr (.cells #[] 3)))
      have hBA := Below.alloc1 wr (.cells #[] 3)
      have HT' : Hid (∀ s, s < 20 → (wr.alloc (.cells #[] 3)).cell? ⟨gt, s, none⟩ = some (.bool (pB (Heard L i (s : Int))))) := fun s hs => wcell3 (unhide HT s hs) hBA
      have hgw := hO.lt
      have hws := hW.size
      clear hkk hW hO HT hBA g1
      obtain ⟨B0, hB0⟩ : ∃ B, B = wr.heap.size := ⟨_, rfl⟩
      have HM0 := hide (World.ownsRow_made (base := B0) (e := 3) (size := 1) wr #[] 0 (by omega) (Nat.zero_le _) (by simp))
      rw [← hB0] at hws hgw
      have hB0' : B0 ≤ (wr.alloc (.cells #[] 3)).heap.size := by rw [hB0]; simp
      clear hB0
      go_wp2
      go_loopg [10, 11] 20 (fun gg ov sv wq => ∃ s : Nat, s ≤ 20 ∧ gg = 20 - s ∧ sv = .int .i64 s ∧ Below w.heap.size w wq ∧ (∃ a n cp, ov = .slice a n cp) ∧ Hid (wq.ownsRow B0 3 1 ov (freeU L i s).length (ints (freeU L i s))) ∧ Hid (∀ s, s < 20 → wq.cell? ⟨gt, s, none⟩ = some (.bool (pB (Heard L i (s : Int))))) ∧ B0 ≤ wq.heap.size)
      case atStart => exact ⟨0, Nat.zero_le _, rfl, rfl, unhide HB3, ⟨_, _, _, rfl⟩, HM0, HT', hB0'⟩
      case round =>
        obtain ⟨s, hs, rfl, rfl, hW, ⟨a, n, cp, rfl⟩, HRW, HTT, hwq⟩ := hrel
        clear HB3 HM0 HT' hB0'
        have hb0 := hW.size
        by_cases hs20 : s < 20
        · have ct := unhide HTT s hs20
          have hs20' : (s : Int) < 20 := by omega
          have hfs := freeU_len L i s
          have HW := hide hW
          cases hq : pB (Heard L i (s : Int)) with
          | true =>
            have EF : Hid (freeU L i (s + 1) = freeU L i s) := by show _ = _; simp [freeU, hq]
            rw [hq] at ct
            clear hq hW
            go_wp2
            go_roundg (20 - (s + 1))
            case measure => omega
            case rel => exact ⟨s + 1, by omega, rfl, by go_num, unhide HW, ⟨_, _, _, rfl⟩, by rw [unhide EF]; exact HRW, HTT, hwq⟩
          | false =>
            have EF : Hid (freeU L i (s + 1) = freeU L i s ++ [(s : Int)]) := by show _ = _; simp [freeU, hq]
            rw [hq] at ct
            clear hq hW
            have HR2 := hide (ownsRow_below (unhide HRW) (Below.alloc1 wr (.cells #[.int .i64 s] 3)))
            have HTN : Hid (∀ wa, (wr.alloc (.cells #[.int .i64 s] 3)).grownBy wa (Value.slice a n cp).ownBlock → ∀ s, s < 20 → wa.cell? ⟨gt, s, none⟩ = some (.bool (pB (Heard L i (s : Int))))) := fun wa hg q hq => by
              refine hg.cell (wcell3 (unhide HTT q hq) (Below.alloc1 wr _)) (fun e => ?_)
              have := ((unhide HRW).lt gt e.symm).1
              omega
            go_wp2_with (at_builtin; refine wpList_append_lies _ rfl _ _ 34 rfl B0 3 i0 _ 1 8 Try.underlying34 hinf hz0 hz1 hz2 rfl (by decide) _ (freeU L i s).length _ rfl (unhide HR2) ⟨wr.heap.size, 0, none⟩ 1 1 [.int .i64 s] rfl rfl (cell_one_new _ _ _) (by simp [Value.oneCell']) (by omega) (by unfold maxLen; omega) (by omega) (by simp; omega) _ rfl ?_; intro g4 cap4 wa hown hgrow hat hlt4; have HWa := hide ((Below.step (unhide HW) (Below.alloc1 wr (.cells #[.int .i64 s] 3))).grown hgrow (by simp; omega) (fun g hg => by have := ((unhide HRW).lt g hg).1; omega)); have HOW := hide hown; have HTA := hide (unhide HTN wa hgrow); have hsza := hgrow.size; clear hown hgrow hat)
            simp only [World.size_alloc] at hsza
            go_roundg (20 - (s + 1))
            case measure => omega
            case rel => exact ⟨s + 1, by omega, rfl, by go_num, unhide HWa, ⟨_, _, _, rfl⟩, by rw [unhide EF, List.length_append]; exact hide (by have := unhide HOW; simpa [ints] using this), HTA, by omega⟩
        · have hss : s = 20 := by omega
          have eF := unhide HF20 s hss
          rw [eF] at HRW
          obtain ⟨a', n', cp', e', hsl⟩ := own_told1 (unhide HRW) rfl
          simp only [Value.slice.injEq] at e'
          obtain ⟨rfl, rfl, rfl⟩ := e'
          have HO4 := hide hsl.intsIn
          obtain ⟨hfn, hfc, hfm⟩ := hsl.intsIn.len
          unfold maxLen at hfm
          rw [hfn] at HE0 HE1
          have HB := hide hW
          have q1 := wcell3 hc1 hW
          have hs20' : decide ((s : Int) < 20) = false := by rw [decide_eq_false_iff_not]; omega
          have hs20n : decide (s < 20) = false := by rw [decide_eq_false_iff_not]; omega
          clear hss eF hsl hfn hW HTT HRW hs20
          by_cases hf0 : n = 0
          · have EC := hide (unhide HE0 hf0)
            have hfz : ((n : Int) == 0) = true := by simpa using hf0
            clear HE0 HE1 hf0
            go_wp2
            refine bodyPost_ret (v := .tuple #[.int .i64 sl, .bool false]) (by simp [results, Try.results45, go_sem]) rfl ⟨by rw [unhide EC], unhide HB⟩
          · have EC := hide (unhide HE1 hf0)
            have hfz : ((n : Int) == 0) = false := by simpa using hf0
            have hpos : (0 : Int) < n := by omega
            obtain ⟨q, hq⟩ : ∃ q : Nat, coin % (n : Int) = (q : Int) := ⟨(coin % (n : Int)).toNat, by have := Int.emod_nonneg coin (show (n : Int) ≠ 0 by omega); omega⟩
            have hqf : q < n := by have := Int.emod_lt_of_pos coin hpos; omega
            have htm : Int.tmod coin (n : Int) = (q : Int) := by rw [Int.tmod_eq_emod_of_nonneg (by omega)]; exact hq
            have hqf' : (q : Int) < n := by omega
            obtain ⟨b2, o2, rfl, hcell⟩ := intAt (unhide HO4) hqf
            rw [hq, Int.toNat_natCast] at EC
            generalize F.getD q 0 = y at *
            have hne : ¬ (n : Int) = 0 := by omega
            clear HE0 HE1 hf0
            go_wp2
            refine bodyPost_ret (v := .tuple #[.int .i64 y, .bool true]) (by simp [results, Try.results45, go_sem]) rfl ⟨by rw [unhide EC], unhide HB⟩

end Go.Proofs.Ytkjikjeecjendaa

/- The program's Average. Written by wip/mkly.py. -/
import Derived.Test.YticminoejikdfaaAvF
import Derived.Test.YticminoejikdfaaWalkJ
namespace Go.Proofs.Yticminoejikdfaa
open Go.RowKit

/-- A row, the first k of it written. -/
def flA (f : Nat → Int) (n k : Nat) : List Int := (List.range n).map fun i => if i < k then f i else 0
theorem flA_len (f : Nat → Int) (n k : Nat) : (flA f n k).length = n := by simp [flA]
theorem flA_zero (f : Nat → Int) (n : Nat) : flA f n 0 = List.replicate n 0 := by unfold flA; simp [List.map_const']
theorem flA_all (f : Nat → Int) (n : Nat) : flA f n n = (List.range n).map f := by
  unfold flA
  apply List.map_congr_left
  intro i hi
  rw [if_pos (List.mem_range.1 hi)]
theorem flA_next (f : Nat → Int) (n k : Nat) : flA f n (k + 1) = (flA f n k).set k (f k) := by
  apply List.ext_getElem?
  intro j
  unfold flA
  rw [List.getElem?_set]
  simp only [List.getElem?_map, List.length_map, List.length_range]
  by_cases hj : j < n
  · rw [List.getElem?_range hj]
    by_cases e : k = j
    · subst e; simp [hj]
    · rw [if_neg e]
      simp only [Option.map_some]
      congr 1
      by_cases c : j < k
      · rw [if_pos (by omega), if_pos c]
      · rw [if_neg (by omega), if_neg c]
  · rw [List.getElem?_eq_none (by simpa using hj)]
    by_cases e : k = j
    · subst e; simp [hj]
    · simp [e]
theorem avS_zero (L : List Int) (x : Int) : avS L x 0 = (List.range L.length).map (avq L x) := by
  unfold avS
  apply List.map_congr_left
  intro i _
  rw [if_neg (by omega)]; omega
/-- What Average tells. -/
def AvAns (w : World) (V : List Int × Bool) (e : Ending) (w' : World) : Prop := ∃ a n cp, e = .returned (.tuple #[.slice a n cp, .bool V.2]) ∧ OwnSl w.heap.size w' (.slice a n cp) V.1 ∧ Below w.heap.size w w'
theorem own_nil (B : Nat) (w : World) (a : Option Addr) : OwnSl B w (.slice a 0 0) [] := ⟨a, 0, rfl, Nat.le_refl _, Nat.zero_le _, fun h => absurd rfl h⟩

set_option maxRecDepth 10000 in
set_option maxHeartbeats 8000000 in
theorem implAverage_ans (v : Value) (L : List Int) (x : Int) (w : World) (h : IntsIn w v L) :
    Calls Try.prog 20 #[v, .int .i64 x] w (AvAns w (avV L x)) := by
  have HQW := hide fun V (hV : Below w.heap.size w V) => worthOf_any v L V (h.below hV)
  obtain ⟨ao, cap, rfl, hl, hm, hc⟩ := h
  unfold maxLen at hm
  have HC := hide hc
  clear hc
  by_cases hG : avG L ∧ 0 < smA L L.length
  case neg =>
    have hw2 : (worthV L).2 = false := by
      unfold worthV
      by_cases h1 : avG L
      · rw [if_pos h1]; simp; have : ¬ 0 < smA L L.length := fun h2 => hG ⟨h1, h2⟩; omega
      · rw [if_neg h1]
    rw [hw2] at HQW
    have HF := hide (avV_not (L := L) (x := x) fun h => hG ⟨h.1, h.2.1⟩)
    generalize (worthV L).1 = wv at *
    go_enter Try.func20, Try.ntmps20
    go_wp2_with fail
    refine (unhide HQW _ (Below.refl _ _)).mono ?_
    rintro e w9 ⟨rfl, h9⟩
    have h8 := h9.symm
    subst h8
    clear h9
    go_wp2
    refine bodyPost_ret (v := .tuple #[.slice none 0 0, .bool false]) (by simp [results, Try.results20, go_sem]) rfl (show AvAns _ _ _ _ by rw [unhide HF]; exact ⟨_, _, _, rfl, own_nil _ _ _, Below.refl _ _⟩)
  obtain ⟨hG1, hG2⟩ := hG
  have hwv : worthV L = (smA L L.length, true) := by unfold worthV; rw [if_pos hG1, decide_eq_true hG2]
  rw [hwv] at HQW
  have hsb := smA_bd hG1 (Nat.le_refl _)
  obtain ⟨M, eM⟩ : ∃ M, M = (if smA L L.length < 1000000000 then smA L L.length else 1000000000) := ⟨_, rfl⟩
  have HQ := hide fun V => within_any x 0 M V
  have hn0 := hG1.1.1
  have hn1 := hG1.1.2
  have HG1 := hide hG1
  have HOK : Hid (avOk L x ↔ (0 ≤ x ∧ x ≤ M)) := by
    show _ ↔ _
    rw [eM]
    constructor
    · rintro ⟨_, _, h3, h4⟩; split <;> omega
    · intro h; refine ⟨hG1, hG2, ?_, ?_⟩ <;> split at h <;> omega
  have hMc : (smA L L.length < 1000000000 ∧ M = smA L L.length) ∨ (¬ smA L L.length < 1000000000 ∧ M = 1000000000) := by
    by_cases c : smA L L.length < 1000000000
    · left; exact ⟨c, by rw [eM, if_pos c]⟩
    · right; exact ⟨c, by rw [eM, if_neg c]⟩
  clear eM hwv hG1
  obtain ⟨S, eS⟩ : ∃ S, S = smA L L.length := ⟨_, rfl⟩
  rw [← eS] at HQW hG2 hsb hMc
  dsimp only at HQW
  have ESS := hide eS
  clear eS
  cases hb : inB x 0 M with
  | false =>
    rw [hb] at HQ
    have HF := hide (avV_not (L := L) (x := x) fun h => by have h2 := (unhide HOK).1 h; rw [inB_mk h2.1 h2.2] at hb; cases hb)
    go_enter Try.func20, Try.ntmps20
    go_wp2_with fail
    refine (unhide HQW _ (Below.refl _ _)).mono ?_
    rintro e w9 ⟨rfl, h9⟩
    have h8 := h9.symm
    subst h8
    clear h9
    rcases hMc with ⟨hS1, rfl⟩ | ⟨hS1, rfl⟩
    · go_wp2_with fail
      refine (unhide HQ _).mono ?_
      rintro e w9 ⟨rfl, h9⟩
      have h8 := h9.symm
      subst h8
      clear h9
      go_wp2
      refine bodyPost_ret (v := .tuple #[.slice none 0 0, .bool false]) (by simp [results, Try.results20, go_sem]) rfl (show AvAns _ _ _ _ by rw [unhide HF]; exact ⟨_, _, _, rfl, own_nil _ _ _, Below.refl _ _⟩)
    · go_wp2_with fail
      refine (unhide HQ _).mono ?_
      rintro e w9 ⟨rfl, h9⟩
      have h8 := h9.symm
      subst h8
      clear h9
      go_wp2
      refine bodyPost_ret (v := .tuple #[.slice none 0 0, .bool false]) (by simp [results, Try.results20, go_sem]) rfl (show AvAns _ _ _ _ by rw [unhide HF]; exact ⟨_, _, _, rfl, own_nil _ _ _, Below.refl _ _⟩)
  | true =>
  rw [hb] at HQ
  have HK := hide ((unhide HOK).2 (inB_true hb))
  have HF := hide (avV_yes (unhide HK))
  have HLB := hide (avl_bd (unhide HK))
  obtain ⟨x0, x1⟩ := (unhide HK).2.2.1
  have hmk := run_make_row' (P := Try.prog) 42 3 (.int .i64 0) 8 Try.underlying42 Try.info3 rfl .i64 .i64 L.length (by omega) (by omega)
  have HO1 := hide ((own_made w L.length 3).step (Below.alloc1 _ (.cells (madeCells #[Value.int .i64 0] L.length) 3)))
  have HO2 := hide (own_made (w.alloc (.cells (madeCells #[Value.int .i64 0] L.length) 3)) L.length 3)
  rw [World.size_alloc] at HO2
  have HW := hide (below_alloc (Below.alloc1 w (.cells (madeCells #[Value.int .i64 0] L.length) 3)) (.cells (madeCells #[Value.int .i64 0] L.length) 3))
  rw [← flA_zero (avq L x)] at HO1
  rw [← flA_zero (avr L x)] at HO2
  have hS0 : ¬ S = 0 := by omega
  have hSz : (S == 0) = false := by simp; omega
  have HMC := hide hMc
  have hS1 : (1 : Int) ≤ S := by omega
  clear hMc hb HOK
  go_enter Try.func20, Try.ntmps20
  go_wp2_with fail
  refine (unhide HQW _ (Below.refl _ _)).mono ?_
  rintro e w9 ⟨rfl, h9⟩
  have h8 := h9.symm
  subst h8
  clear h9
  clear HQW
  rcases unhide HMC with ⟨hS2, eM⟩ | ⟨hS2, eM⟩
  · rw [eM] at HQ
    clear eM HMC
    go_wp2_with fail
    refine (unhide HQ _).mono ?_
    rintro e w9 ⟨rfl, h9⟩
    have h8 := h9.symm
    subst h8
    clear h9
    clear HQ
    go_wp2
    clear hmk
    go_loopg [10, 38] L.length (fun gg lv iv wr => ∃ k : Nat, k ≤ L.length ∧ gg = L.length - k ∧ iv = .int .i64 (k : Int) ∧ lv = .int .i64 (avl L x k) ∧ Hid (OwnV wr w.heap.size (ints (flA (avq L x) L.length k))) ∧ Hid (OwnV wr (w.heap.size + 1) (ints (flA (avr L x) L.length k))) ∧ Hid (Below w.heap.size w wr))
    case atStart => exact ⟨0, Nat.zero_le _, rfl, rfl, by simp [avl, sumTo], HO1, HO2, HW⟩
    case round =>
      clear HO1 HO2 HW
      obtain ⟨k, hk, rfl, rfl, rfl, HO1, HO2, HW⟩ := hrel
      have hlb := avl_bds (unhide HK) hk
      by_cases hkn : k < L.length
      · have hkI : (k : Int) < L.length := by omega
        obtain ⟨b, o, rfl, g0'⟩ := unhide HC k hkn
        have g0 := ((unhide HW).cell (lt_of_cell g0')).trans g0'
        have hbw : b < w.heap.size := lt_of_cell g0'
        have n1 : ¬ b = w.heap.size := by omega
        have n2 : ¬ w.heap.size = b := by omega
        have n3 : ¬ b = w.heap.size + 1 := by omega
        have n4 : ¬ w.heap.size + 1 = b := by omega
        have hpd := av_mul_bd (unhide HK) hkn
        have hq := avq_bd (unhide HK) hkn
        have hr := avr_bd (unhide HK) k
        have EQ : Hid (avq L x k = x * ix L k / S) := by show _ = _; rw [unhide ESS]; rfl
        have ER : Hid (avr L x k = x * ix L k % S) := by show _ = _; rw [unhide ESS]; rfl
        have EL : Hid (avl L x (k + 1) = avl L x k - avq L x k) := by show x - (sumTo (avq L x) k + avq L x k) = x - sumTo (avq L x) k - avq L x k; omega
        have c1 := (unhide HO1).cell (ints_atA (M := flA (avq L x) L.length k) (p := k) (by rw [flA_len]; exact hkn))
        have c2 := (unhide HO2).cell (ints_atA (M := flA (avr L x) L.length k) (p := k) (by rw [flA_len]; exact hkn))
        have f1 := (unhide HO1).frozen
        have f2 := (unhide HO2).frozen
        rw [← unhide ESS] at hr
        unfold ix at hpd EQ ER
        have HO1b : Hid (OwnV ((wr.setCell ⟨w.heap.size, k, none⟩ (.int .i64 (avq L x k))).setCell ⟨w.heap.size + 1, k, none⟩ (.int .i64 (avr L x k))) w.heap.size (ints (flA (avq L x) L.length (k + 1)))) := by
          show OwnV _ _ _
          rw [flA_next, ← ints_setA]
          exact ((unhide HO1).set k _ (by rw [ints_length, flA_len]; exact hkn)).other (a := ⟨w.heap.size + 1, k, none⟩) (by show w.heap.size ≠ w.heap.size + 1; omega) _
        have HO2b : Hid (OwnV ((wr.setCell ⟨w.heap.size, k, none⟩ (.int .i64 (avq L x k))).setCell ⟨w.heap.size + 1, k, none⟩ (.int .i64 (avr L x k))) (w.heap.size + 1) (ints (flA (avr L x) L.length (k + 1)))) := by
          show OwnV _ _ _
          rw [flA_next, ← ints_setA]
          exact ((unhide HO2).other (a := ⟨w.heap.size, k, none⟩) (by show w.heap.size + 1 ≠ w.heap.size; omega) _).set k _ (by rw [ints_length, flA_len]; exact hkn)
        have HWb := hide (((unhide HW).setCell (p := ⟨w.heap.size, k, none⟩) (Nat.le_refl _) (.int .i64 (avq L x k))).setCell (p := ⟨w.heap.size + 1, k, none⟩) (by show w.heap.size ≤ w.heap.size + 1; omega) (.int .i64 (avr L x k)))
        generalize ix (flA (avq L x) L.length k) k = oq at *
        generalize ix (flA (avr L x) L.length k) k = orr at *
        generalize avl L x k = lf at *
        generalize L.getD k 0 = vv at *
        obtain ⟨pd, epd⟩ : ∃ p, p = x * vv := ⟨_, rfl⟩
        rw [← epd] at hpd EQ ER
        obtain ⟨p0, p1⟩ := hpd
        have wm : IntKind.i64.wrap (x * vv) = pd := by rw [← epd, IntKind.wrap_i64]; omega
        clear epd
        obtain ⟨qq, eqq⟩ : ∃ q, q = avq L x k := ⟨_, rfl⟩
        obtain ⟨rr, err⟩ : ∃ q, q = avr L x k := ⟨_, rfl⟩
        rw [← eqq] at hq EQ EL HO1b HO2b HWb
        rw [← err] at hr ER HO1b HO2b HWb
        clear eqq err g0'
        obtain ⟨q0, q1⟩ := hq
        obtain ⟨r0, r1⟩ := hr
        obtain ⟨l0, l1⟩ := hlb
        have t1 : pd / S = qq := (unhide EQ).symm
        have t2 : pd % S = rr := (unhide ER).symm
        have t3 : pd.tdiv S = qq := by rw [Int.tdiv_eq_ediv_of_nonneg p0]; exact t1
        have t4 : pd.tmod S = rr := by rw [Int.tmod_eq_emod_of_nonneg p0]; exact t2
        have w1 : IntKind.i64.wrap qq = qq := by rw [IntKind.wrap_i64]; omega
        have w2 : IntKind.i64.wrap (lf - qq) = lf - qq := by rw [IntKind.wrap_i64]; omega
        clear EQ ER HO1 HO2 HW
        go_wp2
        go_roundg (L.length - (k + 1))
        case measure => omega
        case rel => exact ⟨k + 1, by omega, rfl, by go_num, by rw [unhide EL], HO1b, HO2b, HWb⟩
      · obtain rfl : k = L.length := by omega
        obtain ⟨t, et⟩ : ∃ t : Nat, avl L x L.length = (t : Int) := ⟨(avl L x L.length).toNat, by have := (unhide HLB).1; omega⟩
        have ht : t < L.length := by have := (unhide HLB).2; omega
        rw [et] at HF ⊢
        rw [Int.toNat_natCast] at HF
        have hR : flA (avr L x) L.length L.length = avR L x := flA_all _ _
        have hQ : flA (avq L x) L.length L.length = avS L x 0 := by rw [flA_all, avS_zero]
        rw [hR] at HO2
        rw [hQ] at HO1
        have HGF := hide (greatestFirst_any (w.heap.size + 1) L.length (avR L x) wr (unhide HO2) (avR_len _ _) hn0 hn1)
        have hwr := (unhide HO2).lt
        clear hR hQ et hlb
        generalize wr = wo at *
        go_wp2_with fail
        refine (unhide HGF).mono ?_
        rintro e2 w2 ⟨g, Pl, rfl, hg, hop, hsp, hb⟩
        replace HO1 := hide ((unhide HO1).step hb)
        replace HW := hide (Below.step (unhide HW) hb)
        have HP := hide hop
        have HSP := hide hsp
        have hgw : w.heap.size + 1 < g := by omega
        clear hop hsp hb HGF HO2
        have htI : (t : Int) ≤ L.length := by omega
        go_wp2
        go_loopg [71] t (fun gg iv wr => ∃ k : Nat, k ≤ t ∧ gg = t - k ∧ iv = .int .i64 (k : Int) ∧ Hid (OwnV wr w.heap.size (ints (avS L x k))) ∧ Hid (OwnV wr g (ints Pl)) ∧ Hid (Below w.heap.size w wr))
        case atStart => exact ⟨0, Nat.zero_le _, rfl, rfl, HO1, HP, HW⟩
        case round =>
          clear HO1 HP HW
          obtain ⟨k, hk, rfl, rfl, HO1, HP, HW⟩ := hrel
          by_cases hkt : k < t
          · have hkI : (k : Int) < t := by omega
            obtain ⟨i, hi, ei⟩ := (unhide HSP).val (k := k) (by omega)
            have hrk : rk (avR L x) L.length (i : Int) = k := by rw [← ei]; exact (unhide HSP).rk (by omega)
            have hiI : (i : Int) < L.length := by omega
            have cp := (unhide HP).cell (ints_atA (M := Pl) (p := k) (by rw [(unhide HSP).len]; omega))
            rw [ei] at cp
            have cs := (unhide HO1).cell (ints_atA (M := avS L x k) (p := i) (by rw [avS_len]; exact hi))
            have fz := (unhide HO1).frozen
            have hsv : 0 ≤ ix (avS L x k) i ∧ ix (avS L x k) i ≤ 1000000001 := by
              rw [avS_at hi]
              have h1 := avq_bd (unhide HK) hi
              split <;> omega
            have HO1b : Hid (OwnV (wr.setCell ⟨w.heap.size, i, none⟩ (.int .i64 (ix (avS L x k) i + 1))) w.heap.size (ints (avS L x (k + 1)))) := by
              show OwnV _ _ _
              rw [avS_next hi hrk, ← ints_setA]
              exact (unhide HO1).set i _ (by rw [ints_length, avS_len]; exact hi)
            generalize ix (avS L x k) i = sv at *
            obtain ⟨sv0, sv1⟩ := hsv
            have HPb := hide ((unhide HP).other (a := ⟨w.heap.size, i, none⟩) (by show g ≠ w.heap.size; omega) (.int .i64 (sv + 1)))
            have HWb := hide ((unhide HW).setCell (p := ⟨w.heap.size, i, none⟩) (Nat.le_refl _) (.int .i64 (sv + 1)))
            have w3 : IntKind.i64.wrap (sv + 1) = sv + 1 := by rw [IntKind.wrap_i64]; omega
            clear hrk ei HO1 HP HW
            go_wp2
            go_roundg (t - (k + 1))
            case measure => omega
            case rel => exact ⟨k + 1, by omega, rfl, by go_num, HO1b, HPb, HWb⟩
          · obtain rfl : k = t := by omega
            have HLN : Hid ((avS L x k).length = L.length) := avS_len _ _ _
            go_wp2
            refine bodyPost_ret (v := .tuple #[.slice (some ⟨w.heap.size, 0, none⟩) L.length L.length, .bool true]) (by simp [results, Try.results20, go_sem]) rfl (show AvAns _ _ _ _ by rw [unhide HF]; exact ⟨_, _, _, rfl, ⟨_, L.length, by rw [unhide HLN], by rw [unhide HLN]; exact Nat.le_refl _, by unfold maxLen; omega, fun _ => ⟨_, rfl, Nat.le_refl _, unhide HO1⟩⟩, unhide HW⟩)
  · rw [eM] at HQ
    clear eM HMC
    go_wp2_with fail
    refine (unhide HQ _).mono ?_
    rintro e w9 ⟨rfl, h9⟩
    have h8 := h9.symm
    subst h8
    clear h9
    clear HQ
    go_wp2
    clear hmk
    go_loopg [10, 38] L.length (fun gg lv iv wr => ∃ k : Nat, k ≤ L.length ∧ gg = L.length - k ∧ iv = .int .i64 (k : Int) ∧ lv = .int .i64 (avl L x k) ∧ Hid (OwnV wr w.heap.size (ints (flA (avq L x) L.length k))) ∧ Hid (OwnV wr (w.heap.size + 1) (ints (flA (avr L x) L.length k))) ∧ Hid (Below w.heap.size w wr))
    case atStart => exact ⟨0, Nat.zero_le _, rfl, rfl, by simp [avl, sumTo], HO1, HO2, HW⟩
    case round =>
      clear HO1 HO2 HW
      obtain ⟨k, hk, rfl, rfl, rfl, HO1, HO2, HW⟩ := hrel
      have hlb := avl_bds (unhide HK) hk
      by_cases hkn : k < L.length
      · have hkI : (k : Int) < L.length := by omega
        obtain ⟨b, o, rfl, g0'⟩ := unhide HC k hkn
        have g0 := ((unhide HW).cell (lt_of_cell g0')).trans g0'
        have hbw : b < w.heap.size := lt_of_cell g0'
        have n1 : ¬ b = w.heap.size := by omega
        have n2 : ¬ w.heap.size = b := by omega
        have n3 : ¬ b = w.heap.size + 1 := by omega
        have n4 : ¬ w.heap.size + 1 = b := by omega
        have hpd := av_mul_bd (unhide HK) hkn
        have hq := avq_bd (unhide HK) hkn
        have hr := avr_bd (unhide HK) k
        have EQ : Hid (avq L x k = x * ix L k / S) := by show _ = _; rw [unhide ESS]; rfl
        have ER : Hid (avr L x k = x * ix L k % S) := by show _ = _; rw [unhide ESS]; rfl
        have EL : Hid (avl L x (k + 1) = avl L x k - avq L x k) := by show x - (sumTo (avq L x) k + avq L x k) = x - sumTo (avq L x) k - avq L x k; omega
        have c1 := (unhide HO1).cell (ints_atA (M := flA (avq L x) L.length k) (p := k) (by rw [flA_len]; exact hkn))
        have c2 := (unhide HO2).cell (ints_atA (M := flA (avr L x) L.length k) (p := k) (by rw [flA_len]; exact hkn))
        have f1 := (unhide HO1).frozen
        have f2 := (unhide HO2).frozen
        rw [← unhide ESS] at hr
        unfold ix at hpd EQ ER
        have HO1b : Hid (OwnV ((wr.setCell ⟨w.heap.size, k, none⟩ (.int .i64 (avq L x k))).setCell ⟨w.heap.size + 1, k, none⟩ (.int .i64 (avr L x k))) w.heap.size (ints (flA (avq L x) L.length (k + 1)))) := by
          show OwnV _ _ _
          rw [flA_next, ← ints_setA]
          exact ((unhide HO1).set k _ (by rw [ints_length, flA_len]; exact hkn)).other (a := ⟨w.heap.size + 1, k, none⟩) (by show w.heap.size ≠ w.heap.size + 1; omega) _
        have HO2b : Hid (OwnV ((wr.setCell ⟨w.heap.size, k, none⟩ (.int .i64 (avq L x k))).setCell ⟨w.heap.size + 1, k, none⟩ (.int .i64 (avr L x k))) (w.heap.size + 1) (ints (flA (avr L x) L.length (k + 1)))) := by
          show OwnV _ _ _
          rw [flA_next, ← ints_setA]
          exact ((unhide HO2).other (a := ⟨w.heap.size, k, none⟩) (by show w.heap.size + 1 ≠ w.heap.size; omega) _).set k _ (by rw [ints_length, flA_len]; exact hkn)
        have HWb := hide (((unhide HW).setCell (p := ⟨w.heap.size, k, none⟩) (Nat.le_refl _) (.int .i64 (avq L x k))).setCell (p := ⟨w.heap.size + 1, k, none⟩) (by show w.heap.size ≤ w.heap.size + 1; omega) (.int .i64 (avr L x k)))
        generalize ix (flA (avq L x) L.length k) k = oq at *
        generalize ix (flA (avr L x) L.length k) k = orr at *
        generalize avl L x k = lf at *
        generalize L.getD k 0 = vv at *
        obtain ⟨pd, epd⟩ : ∃ p, p = x * vv := ⟨_, rfl⟩
        rw [← epd] at hpd EQ ER
        obtain ⟨p0, p1⟩ := hpd
        have wm : IntKind.i64.wrap (x * vv) = pd := by rw [← epd, IntKind.wrap_i64]; omega
        clear epd
        obtain ⟨qq, eqq⟩ : ∃ q, q = avq L x k := ⟨_, rfl⟩
        obtain ⟨rr, err⟩ : ∃ q, q = avr L x k := ⟨_, rfl⟩
        rw [← eqq] at hq EQ EL HO1b HO2b HWb
        rw [← err] at hr ER HO1b HO2b HWb
        clear eqq err g0'
        obtain ⟨q0, q1⟩ := hq
        obtain ⟨r0, r1⟩ := hr
        obtain ⟨l0, l1⟩ := hlb
        have t1 : pd / S = qq := (unhide EQ).symm
        have t2 : pd % S = rr := (unhide ER).symm
        have t3 : pd.tdiv S = qq := by rw [Int.tdiv_eq_ediv_of_nonneg p0]; exact t1
        have t4 : pd.tmod S = rr := by rw [Int.tmod_eq_emod_of_nonneg p0]; exact t2
        have w1 : IntKind.i64.wrap qq = qq := by rw [IntKind.wrap_i64]; omega
        have w2 : IntKind.i64.wrap (lf - qq) = lf - qq := by rw [IntKind.wrap_i64]; omega
        clear EQ ER HO1 HO2 HW
        go_wp2
        go_roundg (L.length - (k + 1))
        case measure => omega
        case rel => exact ⟨k + 1, by omega, rfl, by go_num, by rw [unhide EL], HO1b, HO2b, HWb⟩
      · obtain rfl : k = L.length := by omega
        obtain ⟨t, et⟩ : ∃ t : Nat, avl L x L.length = (t : Int) := ⟨(avl L x L.length).toNat, by have := (unhide HLB).1; omega⟩
        have ht : t < L.length := by have := (unhide HLB).2; omega
        rw [et] at HF ⊢
        rw [Int.toNat_natCast] at HF
        have hR : flA (avr L x) L.length L.length = avR L x := flA_all _ _
        have hQ : flA (avq L x) L.length L.length = avS L x 0 := by rw [flA_all, avS_zero]
        rw [hR] at HO2
        rw [hQ] at HO1
        have HGF := hide (greatestFirst_any (w.heap.size + 1) L.length (avR L x) wr (unhide HO2) (avR_len _ _) hn0 hn1)
        have hwr := (unhide HO2).lt
        clear hR hQ et hlb
        generalize wr = wo at *
        go_wp2_with fail
        refine (unhide HGF).mono ?_
        rintro e2 w2 ⟨g, Pl, rfl, hg, hop, hsp, hb⟩
        replace HO1 := hide ((unhide HO1).step hb)
        replace HW := hide (Below.step (unhide HW) hb)
        have HP := hide hop
        have HSP := hide hsp
        have hgw : w.heap.size + 1 < g := by omega
        clear hop hsp hb HGF HO2
        have htI : (t : Int) ≤ L.length := by omega
        go_wp2
        go_loopg [71] t (fun gg iv wr => ∃ k : Nat, k ≤ t ∧ gg = t - k ∧ iv = .int .i64 (k : Int) ∧ Hid (OwnV wr w.heap.size (ints (avS L x k))) ∧ Hid (OwnV wr g (ints Pl)) ∧ Hid (Below w.heap.size w wr))
        case atStart => exact ⟨0, Nat.zero_le _, rfl, rfl, HO1, HP, HW⟩
        case round =>
          clear HO1 HP HW
          obtain ⟨k, hk, rfl, rfl, HO1, HP, HW⟩ := hrel
          by_cases hkt : k < t
          · have hkI : (k : Int) < t := by omega
            obtain ⟨i, hi, ei⟩ := (unhide HSP).val (k := k) (by omega)
            have hrk : rk (avR L x) L.length (i : Int) = k := by rw [← ei]; exact (unhide HSP).rk (by omega)
            have hiI : (i : Int) < L.length := by omega
            have cp := (unhide HP).cell (ints_atA (M := Pl) (p := k) (by rw [(unhide HSP).len]; omega))
            rw [ei] at cp
            have cs := (unhide HO1).cell (ints_atA (M := avS L x k) (p := i) (by rw [avS_len]; exact hi))
            have fz := (unhide HO1).frozen
            have hsv : 0 ≤ ix (avS L x k) i ∧ ix (avS L x k) i ≤ 1000000001 := by
              rw [avS_at hi]
              have h1 := avq_bd (unhide HK) hi
              split <;> omega
            have HO1b : Hid (OwnV (wr.setCell ⟨w.heap.size, i, none⟩ (.int .i64 (ix (avS L x k) i + 1))) w.heap.size (ints (avS L x (k + 1)))) := by
              show OwnV _ _ _
              rw [avS_next hi hrk, ← ints_setA]
              exact (unhide HO1).set i _ (by rw [ints_length, avS_len]; exact hi)
            generalize ix (avS L x k) i = sv at *
            obtain ⟨sv0, sv1⟩ := hsv
            have HPb := hide ((unhide HP).other (a := ⟨w.heap.size, i, none⟩) (by show g ≠ w.heap.size; omega) (.int .i64 (sv + 1)))
            have HWb := hide ((unhide HW).setCell (p := ⟨w.heap.size, i, none⟩) (Nat.le_refl _) (.int .i64 (sv + 1)))
            have w3 : IntKind.i64.wrap (sv + 1) = sv + 1 := by rw [IntKind.wrap_i64]; omega
            clear hrk ei HO1 HP HW
            go_wp2
            go_roundg (t - (k + 1))
            case measure => omega
            case rel => exact ⟨k + 1, by omega, rfl, by go_num, HO1b, HPb, HWb⟩
          · obtain rfl : k = t := by omega
            have HLN : Hid ((avS L x k).length = L.length) := avS_len _ _ _
            go_wp2
            refine bodyPost_ret (v := .tuple #[.slice (some ⟨w.heap.size, 0, none⟩) L.length L.length, .bool true]) (by simp [results, Try.results20, go_sem]) rfl (show AvAns _ _ _ _ by rw [unhide HF]; exact ⟨_, _, _, rfl, ⟨_, L.length, by rw [unhide HLN], by rw [unhide HLN]; exact Nat.le_refl _, by unfold maxLen; omega, fun _ => ⟨_, rfl, Nat.le_refl _, unhide HO1⟩⟩, unhide HW⟩)


theorem implAverage_any (v : Value) (L : List Int) (x : Int) (w : World) (h : IntsIn w v L) :
    Calls Try.prog 20 #[v, .int .i64 x] w fun e w' => ∃ a n cp, e = .returned (.tuple #[.slice a n cp, .bool (avV L x).2]) ∧ OwnSl w.heap.size w' (.slice a n cp) (avV L x).1 ∧ Below w.heap.size w w' := implAverage_ans v L x w h

end Go.Proofs.Yticminoejikdfaa

/- The specification's Average. Written by wip/mkly.py. -/
import Derived.Test.YticminoejikdfaaAvG
import Derived.Test.YticminoejikdfaaRowK
import Derived.Deep.Cut
import Derived.Deep.DeepMust
namespace Go.Proofs.Yticminoejikdfaa
open Go.RowKit

theorem l1Least_any (a b : Int) (w : World) :
    Calls Try.prog 56 #[.int .i64 a, .int .i64 b] w fun e w' => e = .returned (.int .i64 (min a b)) ∧ w' = w := by
  by_cases h : a < b
  · have E : Hid (min a b = a) := by show _ = _; omega
    go_enter Try.func56, Try.ntmps56
    go_wp2
    go_ret
    exact ⟨by rw [unhide E]; rfl, rfl⟩
  · have E : Hid (min a b = b) := by show _ = _; omega
    go_enter Try.func56, Try.ntmps56
    go_wp2
    go_ret
    exact ⟨by rw [unhide E]; rfl, rfl⟩
set_option maxHeartbeats 400000 in
theorem l3All_any (v : Value) (xs : List Int) (a b : Int) (w : World) (h : IntsIn w v xs) :
    Calls Try.prog 54 #[v, .int .i64 a, .int .i64 b] w fun e w' => e = .returned (.bool (xs.all fun x => inB x a b)) ∧ w = w' := by
  obtain ⟨ao, cap, rfl, hl, hm, hc⟩ := h
  unfold maxLen at hm
  have HC := hide hc
  clear hc
  go_enter Try.func54, Try.ntmps54
  go_wp2
  go_loopg [7] xs.length (fun g i wr => w = wr ∧ ∃ k : Nat, k ≤ xs.length ∧ g = xs.length - k ∧ i = .int .i64 k ∧ Hid (∀ r, r < k → inB (xs.getD r 0) a b = true))
  case atStart => exact ⟨rfl, 0, Nat.zero_le _, rfl, rfl, fun r hr => by omega⟩
  case round =>
    obtain ⟨rfl, k, hk, rfl, rfl, HD⟩ := hrel
    by_cases hkn : k < xs.length
    · obtain ⟨p, o, rfl, hcell⟩ := unhide HC k hkn
      cases hin : inB (xs.getD k 0) a b with
      | true =>
        have HD' : Hid (∀ r, r < k + 1 → inB (xs.getD r 0) a b = true) := fun r hr => by
          by_cases e : r = k
          · subst e; exact hin
          · exact HD.out r (by omega)
        clear HD
        generalize xs.getD k 0 = x at *
        go_wp2_with (go_at_call 51; refine (l1In_any _ _ _ _).mono ?_; rintro e w' ⟨rfl, rfl⟩)
        go_roundg (xs.length - (k + 1))
        case measure => omega
        case rel => exact ⟨rfl, k + 1, by omega, rfl, by go_num, HD'⟩
      | false =>
        have HF : Hid ((xs.all fun x => inB x a b) = false) := all_false hkn (d := 0) hin
        clear HD
        generalize xs.getD k 0 = x at *
        go_wp2_with (go_at_call 51; refine (l1In_any _ _ _ _).mono ?_; rintro e w' ⟨rfl, rfl⟩)
        go_ret
        exact ⟨ret_bool (unhide HF).symm, rfl⟩
    · have HF : Hid ((xs.all fun x => inB x a b) = true) := all_true (d := 0) (fun r hr => HD.out r (by omega))
      clear HD
      go_wp2
      go_ret
      exact ⟨ret_bool (unhide HF).symm, rfl⟩
def eI (x : Int) (_ : Nat) : Value := .int .i64 x
theorem recI (H : List Int) : recCells 1 eI H = ints H := by
  apply List.ext_getElem?
  intro i
  by_cases h : i < H.length
  · simp [recCells, eI, ints, h, List.getD]
  · simp [recCells, ints, h]
theorem Try.infoI : (Try.prog.info? 3).map (fun i => (i.zero, i.size, i.bytes)) = some (some (Value.int .i64 0), 1, 8) := by kernel_rfl
theorem tyI : RecTy 42 3 1 eI := recTy_mk Try.underlying42 Try.infoI (by rfl) (by omega) (by omega) (fun _ _ _ => rfl)
theorem RowB.ownI {B g m cap : Nat} {w : World} {L : List Int} (h : RowB 3 1 eI B w (some ⟨g, 0, none⟩) m cap L) : OwnV w g (ints L) ∧ m ≤ cap ∧ cap ≤ maxLen ∧ g < w.heap.size ∧ L.length = m ∧ B ≤ g := by
  have hl := h.len (by omega)
  rcases h.parts (by omega) with ⟨e, _⟩ | ⟨g', e, hB, hlt, h1, h2, ho⟩
  · cases e
  · simp only [Option.some.injEq, Addr.mk.injEq, and_true] at e
    subst e
    rw [recI] at ho
    exact ⟨ho, h1, h2, hlt, hl, hB⟩

set_option maxHeartbeats 800000 in
theorem l1SumA_any (v : Value) (L : List Int) (w : World) (h : IntsIn w v L) (hG : avG L) :
    Calls Try.prog 55 #[v] w fun e w' => e = .returned (.int .i64 (smA L L.length)) ∧ w' = w := by
  obtain ⟨ao, cap, rfl, hl, hm, hc⟩ := h
  unfold maxLen at hm
  have HC := hide hc
  have HG := hide hG
  clear hc hG
  go_enter Try.func55, Try.ntmps55
  go_wp2
  go_loopg [3, 4] L.length (fun g sv i wr => Hid (wr = w) ∧ ∃ k : Nat, k ≤ L.length ∧ g = L.length - k ∧ i = .int .i64 k ∧ sv = .int .i64 (smA L k))
  case atStart => exact ⟨rfl, 0, Nat.zero_le _, rfl, rfl, rfl⟩
  case round =>
    obtain ⟨HW, k, hk, rfl, rfl, rfl⟩ := hrel
    have hw := unhide HW
    subst hw
    clear HW
    have hsb := smA_bd (unhide HG) hk
    by_cases hkn : k < L.length
    · obtain ⟨b, o, rfl, g0⟩ := unhide HC k hkn
      have hki : (k : Int) < L.length := by omega
      have hx := (unhide HG).2 k hkn
      have ES : Hid (smA L (k + 1) = smA L k + ix L k) := rfl
      unfold ix at ES hx
      generalize L.getD k 0 = x at *
      generalize smA L k = sm at *
      obtain ⟨s0, s1⟩ := hsb
      obtain ⟨x0, x1⟩ := hx
      have w1 : IntKind.i64.wrap (sm + x) = sm + x := by rw [IntKind.wrap_i64]; omega
      go_wp2
      go_roundg (L.length - (k + 1))
      case measure => omega
      case rel => exact ⟨rfl, k + 1, by omega, rfl, by go_num, by rw [unhide ES]⟩
    · obtain rfl : k = L.length := by omega
      go_wp2
      go_ret
      exact ⟨rfl, rfl⟩

/-- The rests, those of the first t struck. -/
def avT (L : List Int) (x : Int) (t : Nat) : List Int := (List.range L.length).map fun i : Nat => if rk (avR L x) L.length (i : Int) < t then (-1 : Int) else avr L x i
theorem avT_len (L : List Int) (x : Int) (t : Nat) : (avT L x t).length = L.length := by simp [avT]
theorem avT_at {L : List Int} {x : Int} {t i : Nat} (h : i < L.length) : ix (avT L x t) i = if rk (avR L x) L.length (i : Int) < t then (-1 : Int) else ix (avR L x) i := by rw [avR_at h]; unfold ix avT; rw [getD_lt (by simpa using h)]; simp
theorem avT_zero (L : List Int) (x : Int) : avT L x 0 = (List.range L.length).map (avr L x) := by
  unfold avT
  apply List.map_congr_left
  intro i _
  rw [if_neg (by omega)]
theorem avT_next {L : List Int} {x : Int} {t i : Nat} (hi : i < L.length) (hr : rk (avR L x) L.length (i : Int) = t) : avT L x (t + 1) = (avT L x t).set i (-1) := by
  apply List.ext_getElem?
  intro j
  by_cases hj : j < L.length
  · rw [List.getElem?_eq_getElem (by rw [avT_len]; exact hj), List.getElem?_eq_getElem (by rw [List.length_set, avT_len]; exact hj)]
    have e1 : (avT L x (t + 1))[j]'(by rw [avT_len]; exact hj) = ix (avT L x (t + 1)) j := by unfold ix; rw [getD_lt (by rw [avT_len]; exact hj)]
    rw [e1, List.getElem_set]
    by_cases c : i = j
    · subst c
      rw [if_pos rfl, avT_at hi, hr, if_pos (by omega)]
    · rw [if_neg c]
      have e2 : (avT L x t)[j]'(by rw [avT_len]; exact hj) = ix (avT L x t) j := by unfold ix; rw [getD_lt (by rw [avT_len]; exact hj)]
      rw [e2, avT_at hj, avT_at hj]
      have hne : rk (avR L x) L.length (j : Int) ≠ t := fun e => c (rk_inj hi hj (by rw [hr, e]))
      by_cases c2 : rk (avR L x) L.length (j : Int) < t
      · rw [if_pos c2, if_pos (by omega)]
      · rw [if_neg c2, if_neg (by omega)]
  · rw [List.getElem?_eq_none (by rw [avT_len]; omega), List.getElem?_eq_none (by rw [List.length_set, avT_len]; omega)]
/-- The first greatest up to i. -/
structure Fst1 (T : List Int) (i a : Nat) : Prop where
  lt : a < i
  le : ∀ j, j < i → ix T j ≤ ix T a
  fst : ∀ j, j < a → ix T j < ix T a
theorem Fst1.up {T : List Int} {i a : Nat} (h : Fst1 T i a) (hc : ix T a < ix T i) : Fst1 T (i + 1) i := ⟨by omega, fun j hj => by
    by_cases e : j = i
    · rw [e]; exact Int.le_refl _
    · have := h.le j (by omega); omega, fun j hj => by have := h.le j hj; omega⟩
theorem Fst1.stay {T : List Int} {i a : Nat} (h : Fst1 T i a) (hc : ¬ ix T a < ix T i) : Fst1 T (i + 1) a := ⟨by have := h.lt; omega, fun j hj => by
    by_cases e : j = i
    · rw [e]; omega
    · exact h.le j (by omega), h.fst⟩
theorem fst_rk {L : List Int} {x : Int} {t a : Nat} (h : avOk L x) (ht : t < L.length) (hf : Fst1 (avT L x t) L.length a) : rk (avR L x) L.length (a : Int) = t := by
  have ha := hf.lt
  refine rk_next (fun i hi => by rw [avR_at hi]; exact (avr_bd h i).1) ht ha (fun j hj => ?_) (fun j hj => ?_)
  · have := hf.le j hj; rwa [avT_at hj, avT_at ha] at this
  · have := hf.fst j hj; rwa [avT_at (by omega), avT_at ha] at this
theorem range_take (f : Nat → Int) (k : Nat) : (List.range (k + 1)).map f = (List.range k).map f ++ [f k] := by rw [List.range_succ, List.map_append]; rfl

set_option maxRecDepth 10000 in
set_option maxHeartbeats 16000000 in
theorem specAverage_ans (v : Value) (L : List Int) (x : Int) (w : World) (h : IntsIn w v L) :
    Calls Try.prog 32 #[v, .int .i64 x] w (AvAns w (avV L x)) := by
  have HQA := hide fun V (hV : Below w.heap.size w V) => l3All_any v L 0 1000000000 V (h.below hV)
  have HQL := hide fun V => l1In_any (L.length : Int) 1 40 V
  have HQSM := hide fun V (hV : Below w.heap.size w V) hG => l1SumA_any v L V (h.below hV) hG
  obtain ⟨ao, cap, rfl, hl, hm, hc⟩ := h
  unfold maxLen at hm
  have HC := hide hc
  clear hc
  cases h0 : inB (L.length : Int) 1 40 with
  | false =>
    rw [h0] at HQL
    have HF := hide (avV_not (L := L) (x := x) fun h => by rw [inB_mk (by have := h.1.1.1; omega) (by have := h.1.1.2; omega)] at h0; cases h0)
    go_enter Try.func32, Try.ntmps32
    go_wp2_with fail
    refine (unhide HQL _).mono ?_
    rintro e w9 ⟨rfl, h9⟩
    have h8 := h9.symm
    subst h8
    clear h9
    go_wp2
    refine bodyPost_ret (v := .tuple #[.slice (some ⟨w.heap.size, 0, none⟩) 0 0, .bool false]) (by simp [results, Try.results32, go_sem]) rfl (show AvAns _ _ _ _ by rw [unhide HF]; exact ⟨_, _, _, rfl, own_nil _ _ _, Below.alloc1 _ _⟩)
  | true =>
  rw [h0] at HQL
  cases h1 : L.all (fun x => inB x 0 1000000000) with
  | false =>
    rw [h1] at HQA
    have HF := hide (avV_not (L := L) (x := x) fun h => by
      have h2 : L.all (fun x => inB x 0 1000000000) = true := all_true (d := 0) (fun i hi => inB_mk (h.1.2 i hi).1 (h.1.2 i hi).2)
      rw [h2] at h1; cases h1)
    go_enter Try.func32, Try.ntmps32
    go_wp2_with fail
    refine (unhide HQL _).mono ?_
    rintro e w9 ⟨rfl, h9⟩
    have h8 := h9.symm
    subst h8
    clear h9
    go_wp2_with fail
    refine (unhide HQA _ (Below.refl _ _)).mono ?_
    rintro e w9 ⟨rfl, h9⟩
    subst h9
    go_wp2
    refine bodyPost_ret (v := .tuple #[.slice (some ⟨w.heap.size, 0, none⟩) 0 0, .bool false]) (by simp [results, Try.results32, go_sem]) rfl (show AvAns _ _ _ _ by rw [unhide HF]; exact ⟨_, _, _, rfl, own_nil _ _ _, Below.alloc1 _ _⟩)
  | true =>
  rw [h1] at HQA
  have hG1 : avG L := ⟨by have := inB_true h0; omega, fun i hi => inB_true (all_at h1 hi)⟩
  have hsb := smA_bd hG1 (Nat.le_refl _)
  have hn0 := hG1.1.1
  have hn1 := hG1.1.2
  have HG1 := hide hG1
  replace HQSM := hide fun V hV => unhide HQSM V hV hG1
  obtain ⟨S, eS⟩ : ∃ S, S = smA L L.length := ⟨_, rfl⟩
  rw [← eS] at HQSM hsb
  have ESS := hide eS
  have HOK : Hid (avOk L x ↔ (0 < S ∧ 0 ≤ x ∧ x ≤ min S 1000000000)) := by
    show _ ↔ _
    rw [eS]
    constructor
    · rintro ⟨_, h2, h3, h4⟩; exact ⟨h2, h3.1, by omega⟩
    · rintro ⟨h2, h3, h4⟩; exact ⟨hG1, h2, ⟨h3, by omega⟩, by omega⟩
  clear hG1 h0 h1 eS
  obtain ⟨hsb0, hsb1⟩ := hsb
  by_cases hS0 : S = 0
  · have hz : (S == 0) = true := by simp [hS0]
    have HF := hide (avV_not (L := L) (x := x) fun h => by have := ((unhide HOK).1 h).1; omega)
    have HS0 := hide hS0
    clear hS0
    go_enter Try.func32, Try.ntmps32
    go_wp2_with fail
    refine (unhide HQL _).mono ?_
    rintro e w9 ⟨rfl, h9⟩
    have h8 := h9.symm
    subst h8
    clear h9
    go_wp2_with fail
    refine (unhide HQA _ (Below.refl _ _)).mono ?_
    rintro e w9 ⟨rfl, h9⟩
    subst h9
    go_wp2_with fail
    refine (unhide HQSM _ (Below.refl _ _)).mono ?_
    rintro e w9 ⟨rfl, h9⟩
    have h8 := h9.symm
    subst h8
    clear h9
    go_wp2
    refine bodyPost_ret (v := .tuple #[.slice (some ⟨w.heap.size, 0, none⟩) 0 0, .bool false]) (by simp [results, Try.results32, go_sem]) rfl (show AvAns _ _ _ _ by rw [unhide HF]; exact ⟨_, _, _, rfl, own_nil _ _ _, Below.alloc1 _ _⟩)
  have hz : (S == 0) = false := by simp [hS0]
  have hS1 : (1 : Int) ≤ S := by omega
  have HQM := hide fun V => l1Least_any S 1000000000 V
  obtain ⟨M, eM⟩ : ∃ M, M = min S 1000000000 := ⟨_, rfl⟩
  rw [← eM] at HQM HOK
  have HQ := hide fun V => l1In_any x 0 M V
  clear eM
  cases hb : inB x 0 M with
  | false =>
    rw [hb] at HQ
    have HF := hide (avV_not (L := L) (x := x) fun h => by have h2 := (unhide HOK).1 h; rw [inB_mk h2.2.1 h2.2.2] at hb; cases hb)
    go_enter Try.func32, Try.ntmps32
    go_wp2_with fail
    refine (unhide HQL _).mono ?_
    rintro e w9 ⟨rfl, h9⟩
    have h8 := h9.symm
    subst h8
    clear h9
    go_wp2_with fail
    refine (unhide HQA _ (Below.refl _ _)).mono ?_
    rintro e w9 ⟨rfl, h9⟩
    subst h9
    go_wp2_with fail
    refine (unhide HQSM _ (Below.refl _ _)).mono ?_
    rintro e w9 ⟨rfl, h9⟩
    have h8 := h9.symm
    subst h8
    clear h9
    go_wp2_with fail
    refine (unhide HQM _).mono ?_
    rintro e w9 ⟨rfl, h9⟩
    have h8 := h9.symm
    subst h8
    clear h9
    go_wp2_with fail
    refine (unhide HQ _).mono ?_
    rintro e w9 ⟨rfl, h9⟩
    have h8 := h9.symm
    subst h8
    clear h9
    go_wp2
    refine bodyPost_ret (v := .tuple #[.slice (some ⟨w.heap.size, 0, none⟩) 0 0, .bool false]) (by simp [results, Try.results32, go_sem]) rfl (show AvAns _ _ _ _ by rw [unhide HF]; exact ⟨_, _, _, rfl, own_nil _ _ _, Below.alloc1 _ _⟩)
  | true =>
  rw [hb] at HQ
  have HK := hide ((unhide HOK).2 ⟨by omega, inB_true hb⟩)
  have HF := hide (avV_yes (unhide HK))
  have HLB := hide (avl_bd (unhide HK))
  obtain ⟨x0, x1⟩ := (unhide HK).2.2.1
  have HR1 := hide ((rowB_new 3 1 eI w w.heap.size (Nat.le_refl _)).below (Below.alloc1 _ (.cells #[] 3)))
  have HR2 := hide (rowB_new 3 1 eI (w.alloc (.cells #[] 3)) w.heap.size (Below.alloc1 _ _).size)
  rw [World.size_alloc] at HR2
  have HW := hide (below_alloc (Below.alloc1 w (.cells #[] 3)) (.cells #[] 3))
  clear hb HOK
  go_enter Try.func32, Try.ntmps32
  go_wp2_with fail
  refine (unhide HQL _).mono ?_
  rintro e w9 ⟨rfl, h9⟩
  have h8 := h9.symm
  subst h8
  clear h9
  go_wp2_with fail
  refine (unhide HQA _ (Below.refl _ _)).mono ?_
  rintro e w9 ⟨rfl, h9⟩
  subst h9
  go_wp2_with fail
  refine (unhide HQSM _ (Below.refl _ _)).mono ?_
  rintro e w9 ⟨rfl, h9⟩
  have h8 := h9.symm
  subst h8
  clear h9
  go_wp2_with fail
  refine (unhide HQM _).mono ?_
  rintro e w9 ⟨rfl, h9⟩
  have h8 := h9.symm
  subst h8
  clear h9
  go_wp2_with fail
  refine (unhide HQ _).mono ?_
  rintro e w9 ⟨rfl, h9⟩
  have h8 := h9.symm
  subst h8
  clear h9
  clear HQL HQA HQSM HQM HQ
  go_wp2
  go_loopg [7, 8, 9, 10] L.length (fun gg ov rv lv iv wr => ∃ k go co gr cr : Nat, k ≤ L.length ∧ gg = L.length - k ∧ iv = .int .i64 (k : Int) ∧ lv = .int .i64 (avl L x k) ∧ ov = .slice (some ⟨go, 0, none⟩) k co ∧ rv = .slice (some ⟨gr, 0, none⟩) k cr ∧ go ≠ gr ∧ Hid (RowB 3 1 eI w.heap.size wr (some ⟨go, 0, none⟩) k co ((List.range k).map (avq L x))) ∧ Hid (RowB 3 1 eI w.heap.size wr (some ⟨gr, 0, none⟩) k cr ((List.range k).map (avr L x))) ∧ Hid (Below w.heap.size w wr))
  case atStart => exact ⟨0, w.heap.size, 0, w.heap.size + 1, 0, Nat.zero_le _, rfl, rfl, by simp [avl, sumTo], rfl, rfl, by omega, HR1, HR2, HW⟩
  case round =>
    clear HR1 HR2 HW
    obtain ⟨k, go, co, gr, cr, hk, rfl, rfl, rfl, rfl, rfl, hne, HR1, HR2, HW⟩ := hrel
    have hlb := avl_bds (unhide HK) hk
    by_cases hkn : k < L.length
    · have hkI : (k : Int) < L.length := by omega
      obtain ⟨b, o, rfl, g0'⟩ := unhide HC k hkn
      have g0 := ((unhide HW).cell (lt_of_cell g0')).trans g0'
      have hbw : b < w.heap.size := lt_of_cell g0'
      have hpd := av_mul_bd (unhide HK) hkn
      have hq := avq_bd (unhide HK) hkn
      have hr := avr_bd (unhide HK) k
      have EQ : Hid (avq L x k = x * ix L k / S) := by show _ = _; rw [unhide ESS]; rfl
      have ER : Hid (avr L x k = x * ix L k % S) := by show _ = _; rw [unhide ESS]; rfl
      have EL : Hid (avl L x (k + 1) = avl L x k - avq L x k) := by show x - (sumTo (avq L x) k + avq L x k) = x - sumTo (avq L x) k - avq L x k; omega
      rw [← unhide ESS] at hr
      unfold ix at hpd EQ ER
      have ET1 := hide (range_take (avq L x) k)
      have ET2 := hide (range_take (avr L x) k)
      have o1 := (unhide HR1).ownI
      have o2 := (unhide HR2).ownI
      obtain ⟨-, o1a, o1b, o1c, -, o1d⟩ := o1
      obtain ⟨-, o2a, o2b, o2c, -, o2d⟩ := o2
      unfold maxLen at o1b o2b
      generalize avl L x k = lf at *
      generalize L.getD k 0 = vv at *
      obtain ⟨pd, epd⟩ : ∃ p, p = x * vv := ⟨_, rfl⟩
      rw [← epd] at hpd EQ ER
      obtain ⟨p0, p1⟩ := hpd
      have wm : IntKind.i64.wrap (x * vv) = pd := by rw [← epd, IntKind.wrap_i64]; omega
      clear epd
      obtain ⟨qq, eqq⟩ : ∃ q, q = avq L x k := ⟨_, rfl⟩
      obtain ⟨rr, err⟩ : ∃ q, q = avr L x k := ⟨_, rfl⟩
      rw [← eqq] at hq EQ EL ET1
      rw [← err] at hr ER ET2
      clear eqq err g0'
      obtain ⟨q0, q1⟩ := hq
      obtain ⟨r0, r1⟩ := hr
      obtain ⟨l0, l1⟩ := hlb
      have t1 : pd / S = qq := (unhide EQ).symm
      have t2 : pd % S = rr := (unhide ER).symm
      have t3 : pd.tdiv S = qq := by rw [Int.tdiv_eq_ediv_of_nonneg p0]; exact t1
      have t4 : pd.tmod S = rr := by rw [Int.tmod_eq_emod_of_nonneg p0]; exact t2
      have w1 : IntKind.i64.wrap qq = qq := by rw [IntKind.wrap_i64]; omega
      have w2 : IntKind.i64.wrap (lf - qq) = lf - qq := by rw [IntKind.wrap_i64]; omega
      clear EQ ER
      have A1 := Below.alloc1 wr (.cells #[.int .i64 qq] 3)
      have HG := hide (ownV_alloc wr #[.int .i64 qq] 3)
      have HRa := hide ((unhide HR1).below A1)
      have HRb := hide ((unhide HR2).below A1)
      have HWa := hide (Below.step (unhide HW) A1)
      have hsa : wr.heap.size + 1 = (wr.alloc (.cells #[.int .i64 qq] 3)).heap.size := (World.size_alloc _ _).symm
      have HSA := hide hsa
      clear A1 hsa HR1 HR2 HW
      go_upto_region 12 with (at_builtin; go_must (refine wpList_appRow tyI _ rfl (.tmp 44) (.tmp 53) rfl w.heap.size (some ⟨go, 0, none⟩) k co ((List.range k).map (avq L x)) rfl (unhide HRa) (unhide HWa).size (by omega) wr.heap.size qq 1 rfl (unhide HG) ?_); intro go2 co2 wb hL hKp hBg hat; have HL1 := hide hL; have HKP := hide hKp; have HAT := hide hat; clear hL hKp hat)
      have HW2 : Hid (Below w.heap.size w wb) := (unhide HWa).trans ((unhide HKP).below (unhide HWa).size (fun b e => by simp only [Option.some.injEq, Addr.mk.injEq, and_true] at e; omega))
      have HR2 := hide ((unhide HRb).kept (unhide HKP) (fun g e h1 h2 h3 => by simp only [Option.some.injEq, Addr.mk.injEq, and_true] at e h3; omega))
      have hne2 : go2 ≠ gr := by
        rcases unhide HAT with e | e
        · simp only [Option.some.injEq, Addr.mk.injEq, and_true] at e; omega
        · have := unhide HSA; omega
      rw [← unhide ET1] at HL1
      have g2 := ((unhide HW2).cell (p := ⟨b, o + k, none⟩) hbw).trans ((((unhide HWa).cell (p := ⟨b, o + k, none⟩) hbw).symm.trans (((Below.alloc1 wr (.cells #[.int .i64 qq] 3)).cell (lt_of_cell g0)).trans g0)))
      clear HKP HAT HSA HRa HRb HWa HG g0
      have A2 := Below.alloc1 wb (.cells #[.int .i64 rr] 3)
      have HG := hide (ownV_alloc wb #[.int .i64 rr] 3)
      have HRa := hide ((unhide HL1).below A2)
      have HRb := hide ((unhide HR2).below A2)
      have HWa := hide (Below.step (unhide HW2) A2)
      have hg2l := ((unhide HL1).ownI).2.2.2.1
      clear A2 HL1 HR2 HW2
      go_upto_region 13 with (at_builtin; go_must (refine wpList_appRow tyI _ rfl (.tmp 55) (.tmp 64) rfl w.heap.size (some ⟨gr, 0, none⟩) k cr ((List.range k).map (avr L x)) rfl (unhide HRb) (unhide HWa).size (by omega) wb.heap.size rr 1 rfl (unhide HG) ?_); intro gr2 cr2 wd hL hKp hBg hat; have HL2 := hide hL; have HKP := hide hKp; have HAT := hide hat; clear hL hKp hat)
      have HW3 : Hid (Below w.heap.size w wd) := (unhide HWa).trans ((unhide HKP).below (unhide HWa).size (fun b e => by simp only [Option.some.injEq, Addr.mk.injEq, and_true] at e; omega))
      have HR3 := hide ((unhide HRa).kept (unhide HKP) (fun g e h1 h2 h3 => by simp only [Option.some.injEq, Addr.mk.injEq, and_true] at e h3; omega))
      have hne3 : go2 ≠ gr2 := by
        rcases unhide HAT with e | e
        · simp only [Option.some.injEq, Addr.mk.injEq, and_true] at e; omega
        · rw [World.size_alloc] at e; omega
      rw [← unhide ET2] at HL2
      clear HKP HAT HRa HRb HWa HG g2
      have ho := (unhide HR3).ownI
      have cq := ho.1.cell (ints_atA (M := (List.range (k + 1)).map (avq L x)) (p := k) (by simp))
      have eix : ix ((List.range (k + 1)).map (avq L x)) k = qq := by rw [unhide ET1]; unfold ix; rw [getD_lt (by simp)]; simp
      rw [eix] at cq
      have hco := ho.2.1
      clear ho eix
      have hk1 : (k : Int) < ((k + 1 : Nat) : Int) := by omega
      go_wp2
      go_roundg (L.length - (k + 1))
      case measure => omega
      case rel => exact ⟨k + 1, go2, co2, gr2, cr2, by omega, rfl, by go_num, by rw [unhide EL], rfl, rfl, hne3, HR3, HL2, HW3⟩
    · obtain rfl : k = L.length := by omega
      obtain ⟨t, et⟩ : ∃ t : Nat, avl L x L.length = (t : Int) := ⟨(avl L x L.length).toNat, by have := (unhide HLB).1; omega⟩
      have ht : t < L.length := by have := (unhide HLB).2; omega
      rw [et] at HF ⊢
      rw [Int.toNat_natCast] at HF
      have o1 := (unhide HR1).ownI
      have o2 := (unhide HR2).ownI
      obtain ⟨o1o, o1a, o1b, o1c, -, o1d⟩ := o1
      obtain ⟨o2o, o2a, o2b, o2c, -, o2d⟩ := o2
      rw [← avS_zero] at o1o
      rw [← avT_zero] at o2o
      have HO1 := hide o1o
      have HO2 := hide o2o
      have HCM := hide o1b
      unfold maxLen at o1b o2b
      clear o1o o2o HR1 HR2 et hlb
      generalize wr = wo at *
      go_wp2
      go_loopg [9] t (fun gg lv wr => ∃ k l : Nat, k ≤ t ∧ gg = t - k ∧ lv = .int .i64 (l : Int) ∧ Hid (l + k = t) ∧ Hid (OwnV wr go (ints (avS L x k))) ∧ Hid (OwnV wr gr (ints (avT L x k))) ∧ Hid (Below w.heap.size w wr))
      case atStart => exact ⟨0, t, Nat.zero_le _, rfl, rfl, by show t + 0 = t; omega, HO1, HO2, HW⟩
      case round =>
        clear HO1 HO2 HW
        obtain ⟨k, l, hkt, rfl, rfl, HLK, HO1, HO2, HW⟩ := hrel
        by_cases hl0 : 0 < l
        · have hlI : (0 : Int) < (l : Int) := by omega
          have hkl : k < L.length := by have := unhide HLK; omega
          have hl1 : l ≤ 40 := by have := unhide HLK; omega
          generalize wr = wp at *
          have HF0 : Hid (Fst1 (avT L x k) 1 0) := ⟨by omega, fun j hj => by rw [show j = 0 by omega]; exact Int.le_refl _, fun j hj => by omega⟩
          go_wp2
          go_loopg [11, 12] (L.length - 1) (fun gg av iv wr => ∃ i at_ : Nat, 1 ≤ i ∧ i ≤ L.length ∧ at_ < L.length ∧ gg = L.length - i ∧ iv = .int .i64 (i : Int) ∧ av = .int .i64 (at_ : Int) ∧ Hid (Fst1 (avT L x k) i at_) ∧ Hid (Below wp.heap.size wp wr))
          case atStart => exact ⟨1, 0, Nat.le_refl _, hn0, by omega, rfl, rfl, rfl, HF0, Below.refl _ _⟩
          case round =>
            clear HF0
            obtain ⟨i, at_, hi1, hi2, hat, rfl, rfl, rfl, HFS, HWP⟩ := hrel
            have hatI : (at_ : Int) < L.length := by omega
            have HO1b := hide ((unhide HO1).step (unhide HWP))
            have HO2b := hide ((unhide HO2).step (unhide HWP))
            by_cases hin : i < L.length
            · have hinI : (i : Int) < L.length := by omega
              have ci := (unhide HO2b).cell (ints_atA (M := avT L x k) (p := i) (by rw [avT_len]; exact hin))
              have ca := (unhide HO2b).cell (ints_atA (M := avT L x k) (p := at_) (by rw [avT_len]; exact hat))
              by_cases hc0 : ix (avT L x k) at_ < ix (avT L x k) i
              · have HFN := hide ((unhide HFS).up hc0)
                generalize ix (avT L x k) i = vi at *
                generalize ix (avT L x k) at_ = va at *
                have dc : decide (va < vi) = true := by simpa using hc0
                clear HFS HO1b HO2b
                go_wp2_with fail
                go_quiet (fail)
                go_wp2
                go_roundg (L.length - (i + 1))
                case measure => omega
                case rel => exact ⟨i + 1, i, by omega, by omega, hin, rfl, by go_num, rfl, HFN, below_drewN (unhide HWP) _⟩
              · have HFN := hide ((unhide HFS).stay hc0)
                generalize ix (avT L x k) i = vi at *
                generalize ix (avT L x k) at_ = va at *
                have dc : decide (va < vi) = false := by simpa using hc0
                clear HFS HO1b HO2b
                go_wp2_with fail
                go_quiet (fail)
                go_wp2
                go_roundg (L.length - (i + 1))
                case measure => omega
                case rel => exact ⟨i + 1, at_, by omega, by omega, hat, rfl, by go_num, rfl, HFN, below_drewN (unhide HWP) _⟩
            · obtain rfl : i = L.length := by omega
              have hrk := fst_rk (unhide HK) hkl (unhide HFS)
              have ca := (unhide HO2b).cell (ints_atA (M := avT L x k) (p := at_) (by rw [avT_len]; exact hat))
              have cs := (unhide HO1b).cell (ints_atA (M := avS L x k) (p := at_) (by rw [avS_len]; exact hat))
              have f1 := (unhide HO1b).frozen
              have f2 := (unhide HO2b).frozen
              have hsv : 0 ≤ ix (avS L x k) at_ ∧ ix (avS L x k) at_ ≤ 1000000001 := by
                rw [avS_at hat]
                have h1 := avq_bd (unhide HK) hat
                split <;> omega
              have HN1 : Hid (OwnV ((wr.setCell ⟨go, at_, none⟩ (.int .i64 (ix (avS L x k) at_ + 1))).setCell ⟨gr, at_, none⟩ (.int .i64 (-1))) go (ints (avS L x (k + 1)))) := by
                show OwnV _ _ _
                rw [avS_next hat hrk, ← ints_setA]
                exact ((unhide HO1b).set at_ _ (by rw [ints_length, avS_len]; exact hat)).other (a := ⟨gr, at_, none⟩) hne _
              have HN2 : Hid (OwnV ((wr.setCell ⟨go, at_, none⟩ (.int .i64 (ix (avS L x k) at_ + 1))).setCell ⟨gr, at_, none⟩ (.int .i64 (-1))) gr (ints (avT L x (k + 1)))) := by
                show OwnV _ _ _
                rw [avT_next hat hrk, ← ints_setA]
                exact ((unhide HO2b).other (a := ⟨go, at_, none⟩) (fun e => hne e.symm) _).set at_ _ (by rw [ints_length, avT_len]; exact hat)
              have HWN := hide (((Below.step (unhide HW) (unhide HWP)).setCell (p := ⟨go, at_, none⟩) (by show w.heap.size ≤ go; omega) (.int .i64 (ix (avS L x k) at_ + 1))).setCell (p := ⟨gr, at_, none⟩) (by show w.heap.size ≤ gr; omega) (.int .i64 (-1)))
              generalize ix (avS L x k) at_ = sv at *
              generalize ix (avT L x k) at_ = va at *
              obtain ⟨sv0, sv1⟩ := hsv
              have n1 : ¬ go = gr := hne
              have n2 : ¬ gr = go := fun e => hne e.symm
              have w3 : IntKind.i64.wrap (sv + 1) = sv + 1 := by rw [IntKind.wrap_i64]; omega
              have w4 : IntKind.i64.wrap ((l : Int) - 1) = ((l - 1 : Nat) : Int) := by rw [IntKind.wrap_i64]; omega
              have HLK2 : Hid (l - 1 + (k + 1) = t) := by have := unhide HLK; show _ = _; omega
              have hk2 : k + 1 ≤ t := by have := unhide HLK; omega
              clear hrk HFS HO1b HO2b HWP HO1 HO2 HW HLK
              go_wp2
              go_roundg (t - (k + 1))
              case measure => omega
              case rel => exact ⟨k + 1, l - 1, hk2, rfl, rfl, HLK2, HN1, HN2, HWN⟩
        · have hlI : ¬ (0 : Int) < (l : Int) := by omega
          have hke : k = t := by have := unhide HLK; omega
          have HO1t : Hid (OwnV wr go (ints (avS L x t))) := by rw [← hke]; exact unhide HO1
          have HLN : Hid ((avS L x t).length = L.length) := avS_len _ _ _
          clear hke HO1 HLK
          go_wp2
          refine bodyPost_ret (v := .tuple #[.slice (some ⟨go, 0, none⟩) L.length co, .bool true]) (by simp [results, Try.results32, go_sem]) rfl (show AvAns _ _ _ _ by rw [unhide HF]; exact ⟨_, _, _, rfl, ⟨_, co, by rw [unhide HLN], by rw [unhide HLN]; exact o1a, unhide HCM, fun _ => ⟨_, rfl, o1d, unhide HO1t⟩⟩, unhide HW⟩)

theorem avV_len (L : List Int) (x : Int) : (avV L x).1.length ≤ 40 := by
  unfold avV
  split
  · rename_i h; rw [avS_len]; exact h.1.1.2
  · simp
theorem specAverage_any (v : Value) (L : List Int) (x : Int) (w : World) (h : IntsIn w v L) :
    Calls Try.prog 32 #[v, .int .i64 x] w fun e w' => ∃ a n cp, e = .returned (.tuple #[.slice a n cp, .bool (avV L x).2]) ∧ OwnSl w.heap.size w' (.slice a n cp) (avV L x).1 ∧ Below w.heap.size w w' := specAverage_ans v L x w h

end Go.Proofs.Yticminoejikdfaa

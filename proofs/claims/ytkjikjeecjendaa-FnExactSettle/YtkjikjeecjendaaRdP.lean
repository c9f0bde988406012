/- Radios: a contract of the specification's Settle. -/
import Derived.Test.YtkjikjeecjendaaRdO
import Derived.Test.YtkjikjeecjendaaRdK
namespace Go.Proofs.Ytkjikjeecjendaa
open Go.RowKit

theorem ownsRow_setG {w : World} {base : Nat} {e : TypeId} {size g m cap : Nat} {xs : List Value} (h : w.ownsRow base e size (.slice (some ⟨g, 0, none⟩) m cap) m xs) (j : Nat) (u : Value) :
    (w.setCell ⟨g, j, none⟩ u).ownsRow base e size (.slice (some ⟨g, 0, none⟩) m cap) m (xs.set j u) := by
  obtain ⟨h1, h2⟩ := h
  refine ⟨by rw [List.length_set]; exact h1, ?_⟩
  rcases h2 with ⟨hv, _⟩ | ⟨g', cap', cur, hv, hg, hh, hc, hm, hs, ht⟩
  · cases hv
  · simp only [Value.slice.injEq, Option.some.injEq, Addr.mk.injEq, and_true, true_and] at hv
    obtain ⟨rfl, rfl⟩ := hv
    refine Or.inr ⟨g, cap, cur.setIfInBounds j u, rfl, hg, by simp [World.setCell, Array.getElem?_modify, hh], hc, hm, by simpa using hs, ?_⟩
    rw [← ht]
    simp [List.take_set]

theorem GrowR.form {base : Nat} {w : World} {ov : Value} {L : List Rad} (h : GrowR base w ov L) (hn : 0 < L.length) : ∃ g cap, ov = .slice (some ⟨g, 0, none⟩) L.length cap ∧ base ≤ g := by
  obtain ⟨vals, ⟨_, h2⟩, _⟩ := h
  rcases h2 with ⟨_, h0⟩ | ⟨g, cap, cur, hv, hg, hh, hc, hm, _⟩
  · omega
  · exact ⟨g, cap, hv, hg⟩
theorem GrowR.setSlot {base g cap : Nat} {w : World} {L : List Rad} (h : GrowR base w (.slice (some ⟨g, 0, none⟩) L.length cap) L) {i : Nat} (hi : i < L.length) (s : Int) :
    GrowR base (w.setCell ⟨g, i * 3 + 1, none⟩ (.int .i64 s)) (.slice (some ⟨g, 0, none⟩) L.length cap) (setSl L i s) ∧ (∃ u, w.cell? ⟨g, i * 3 + 1, none⟩ = some u) ∧ w.frozen? ⟨g, i * 3 + 1, none⟩ = false := by
  obtain ⟨vals, ho, hl, hr⟩ := h
  have hS := setSl_len L i s
  have hO : OwnV w g vals := by
    obtain ⟨_, h2⟩ := ho
    rcases h2 with ⟨e, _⟩ | ⟨g', cap', cur, hv, hg, hh, hc, hm, hs, ht⟩
    · simp at e
    · simp only [Value.slice.injEq, Option.some.injEq, Addr.mk.injEq, and_true] at hv
      obtain ⟨rfl, -, -⟩ := hv
      refine ⟨cur, _, hh, fun q hq => ?_⟩
      rw [← ht, List.getElem?_take, if_pos (by omega)]
      simp
  refine ⟨⟨vals.set (i * 3 + 1) (.int .i64 s), by rw [hS]; exact ownsRow_setG ho _ _, by rw [List.length_set, hl, hS], fun r hlt => ?_⟩, ⟨vals[i * 3 + 1]'(by omega), hO.cell (List.getElem?_eq_getElem (by omega))⟩, hO.frozen _⟩
  rw [hS] at hlt
  obtain ⟨h0, h1, g1, cap1, h2, h3, h4, h5, h6⟩ := hr r hlt
  rw [setSl_get L i s r hi]
  have hne : g1 ≠ g := fun e => h6 (by simp [Value.ownBlock, e])
  have hbl : (w.setCell ⟨g, i * 3 + 1, none⟩ (.int .i64 s)).heap[g1]? = w.heap[g1]? := Below.heap_setCell _ _ _ _ (by simp only; omega)
  have hsz : (w.setCell ⟨g, i * 3 + 1, none⟩ (.int .i64 s)).heap.size = w.heap.size := by simp [World.setCell]
  by_cases e : r = i
  · subst e
    rw [if_pos rfl]
    exact ⟨by rw [List.getElem?_set_ne (by omega)]; exact h0, by rw [List.getElem?_set_self (by omega)], g1, cap1, by rw [List.getElem?_set_ne (by omega)]; exact h2, h3.of_block hbl, h4, by rw [hsz]; exact h5, h6⟩
  · rw [if_neg e]
    exact ⟨by rw [List.getElem?_set_ne (by omega)]; exact h0, by rw [List.getElem?_set_ne (by omega)]; exact h1, g1, cap1, by rw [List.getElem?_set_ne (by omega)]; exact h2, h3.of_block hbl, h4, by rw [hsz]; exact h5, h6⟩

theorem coinsB_all {C : List Int} (hn : C.length ≤ 200) (h : ∀ i, i < C.length → -9223372036854775808 ≤ C.getD i 0 ∧ C.getD i 0 ≤ 9223372036854775807) : coinsB C = C.all fun x => inB x 0 9223372036854775807 := by
  unfold coinsB
  rw [decide_eq_true hn, Bool.true_and, Bool.eq_iff_iff, List.all_eq_true, List.all_eq_true]
  constructor
  · intro hh x hx
    obtain ⟨i, hi, rfl⟩ := List.mem_iff_getElem.1 hx
    have h1 := h i hi
    rw [getD_lt hi] at h1
    have h2 := hh _ hx
    rw [decide_eq_true_eq] at h2
    exact inB_mk h2 h1.2
  · intro hh x hx
    rw [decide_eq_true_eq]
    exact (inB_true (hh x hx)).1

set_option maxRecDepth 10000 in
set_option maxHeartbeats 3200000 in
theorem specSettle_any (v cv : Value) (L : List Rad) (C : List Int) (w : World) (h : RadsIn w v L) (hC : IntsIn w cv C) (hs : L.length ≤ 1048576) (hl : ∀ i, i < L.length → (L.getD i default).2.2.length ≤ 1048576) (h64 : ∀ i, i < C.length → -9223372036854775808 ≤ C.getD i 0 ∧ C.getD i 0 ≤ 9223372036854775807) :
    Calls Try.prog 46 #[v, cv] w fun e w' => ∃ a n cp, e = .returned (.tuple #[.slice a n cp, .int .i64 (settleV L C).2.1, .bool (settleV L C).2.2]) ∧ RadsIn w' (.slice a n cp) (settleV L C).1 ∧ Below w.heap.size w w' := by
  have HV := hide h
  have HVC := hide hC
  have HOKC := hide (specRadiosOk_any v L w h)
  have HCK := hide fun W (hW : Below w.heap.size w W) => l3All_any cv C 0 9223372036854775807 W (hC.below hW)
  have HL := hide hl
  have H64 := hide h64
  obtain ⟨ao, cap, rfl, hlc, hm, hc⟩ := h
  obtain ⟨ca, cc, rfl, hcl, hcm, hcc⟩ := hC
  unfold maxLen at hm hcm
  have HCC := hide hcc
  clear hc hcc hl h64
  have nil : ∀ W a, RadsIn W (.slice a 0 0) [] := fun W a => ⟨a, 0, rfl, Nat.le_refl _, Nat.zero_le _, fun i hi => by simp at hi⟩
  cases hrb : radsB L with
  | false =>
    have EC := hide (settleV_no (L := L) (C := C) (by rw [hrb]; simp))
    rw [hrb] at HOKC
    clear hrb
    go_enter Try.func46, Try.ntmps46
    go_wp2_with fail
    refine (unhide HOKC).mono ?_
    rintro e w1 ⟨rfl, hb⟩
    have HB := hide hb
    clear hb
    go_wp2
    refine bodyPost_ret (v := .tuple #[.slice (some ⟨w1.heap.size, 0, none⟩) 0 0, .int .i64 0, .bool false]) (by simp [results, Try.results46, go_sem]) rfl ⟨_, 0, 0, by rw [unhide EC], by rw [unhide EC]; exact nil _ _, Below.step (unhide HB) (Below.alloc1 _ _)⟩
  | true =>
  rw [hrb] at HOKC
  by_cases hn200 : (200 : Int) < C.length
  · have EC := hide (settleV_no (L := L) (C := C) (by rw [coinsB_len (C := C) (by omega)]; simp))
    clear hrb
    go_enter Try.func46, Try.ntmps46
    go_wp2_with fail
    refine (unhide HOKC).mono ?_
    rintro e w1 ⟨rfl, hb⟩
    have HB := hide hb
    clear hb
    go_wp2
    refine bodyPost_ret (v := .tuple #[.slice (some ⟨w1.heap.size, 0, none⟩) 0 0, .int .i64 0, .bool false]) (by simp [results, Try.results46, go_sem]) rfl ⟨_, 0, 0, by rw [unhide EC], by rw [unhide EC]; exact nil _ _, Below.step (unhide HB) (Below.alloc1 _ _)⟩
  rw [← coinsB_all (by omega) (unhide H64)] at HCK
  cases hcb : coinsB C with
  | false =>
    have EC := hide (settleV_no (L := L) (C := C) (by rw [hcb]; simp))
    rw [hcb] at HCK
    clear hrb hcb
    go_enter Try.func46, Try.ntmps46
    go_wp2_with fail
    refine (unhide HOKC).mono ?_
    rintro e w1 ⟨rfl, hb⟩
    have HB := hide hb
    clear hb
    go_wp2_with fail
    refine (unhide HCK _ (unhide HB)).mono ?_
    rintro e w2 ⟨rfl, h9⟩
    subst h9
    go_wp2
    refine bodyPost_ret (v := .tuple #[.slice (some ⟨w1.heap.size, 0, none⟩) 0 0, .int .i64 0, .bool false]) (by simp [results, Try.results46, go_sem]) rfl ⟨_, 0, 0, by rw [unhide EC], by rw [unhide EC]; exact nil _ _, Below.step (unhide HB) (Below.alloc1 _ _)⟩
  | true =>
  rw [hcb] at HCK
  have HY := hide fun K u hK => settleV_yes (K := K) (u := u) hrb hcb hK
  have hL1 : 0 < L.length := by have := (of_pB (p := RadsOk L) hrb).1; omega
  generalize settleV L C = SV at *
  clear hrb hcb nil
  go_enter Try.func46, Try.ntmps46
  go_wp2_with fail
  refine (unhide HOKC).mono ?_
  rintro e w1 ⟨rfl, hb⟩
  have HB := hide hb
  clear hb HOKC
  go_wp2_with fail
  refine (unhide HCK _ (unhide HB)).mono ?_
  rintro e w2 ⟨rfl, h9⟩
  subst h9
  clear HCK
  go_wp2_with fail
  refine (l9Copy_any _ L _ ((unhide HV).below (unhide HB)) hs (unhide HL)).mono ?_
  rintro e w3 ⟨ga, gn, gc, rfl, hO, hb⟩
  obtain ⟨g, cap2, eform, hg⟩ := hO.form hL1
  simp only [Value.slice.injEq] at eform
  obtain ⟨rfl, rfl, rfl⟩ := eform
  have hgw : w.heap.size ≤ g := Nat.le_trans (unhide HB).size hg
  have HB3 := hide (Below.step (unhide HB) hb)
  obtain ⟨B0, hB0⟩ : ∃ B, B = w1.heap.size := ⟨_, rfl⟩
  rw [← hB0] at hO
  have HO := hide hO
  clear hO hb HB hg hB0
  go_wp2
  go_loopg [8] C.length (fun gg uv wr => ∃ (u : Nat) (K : List Rad), u ≤ C.length ∧ gg = C.length - u ∧ uv = .int .i64 u ∧ Below w.heap.size w wr ∧ GrowR B0 wr (.slice (some ⟨g, 0, none⟩) L.length gc) K ∧ Hid (Run L C K u))
  case atStart => exact ⟨0, L, Nat.zero_le _, rfl, rfl, unhide HB3, unhide HO, Run.start L C⟩
  case round =>
    obtain ⟨u, K, hu, rfl, rfl, hW, hO, HR⟩ := hrel
    clear HB3 HO
    have hKl := (unhide HR).len
    have HW := hide hW
    have HO := hide hO
    have HCLS := hide fun W (hW2 : GrowR B0 W (.slice (some ⟨g, 0, none⟩) L.length gc) K) => specClashes_any _ K W hW2.inn
    clear hW hO
    by_cases hul : u < C.length
    case neg =>
      have EC := hide (unhide HY _ _ ((unhide HR).done (runS_end (L := K) (by omega))))
      go_wp2_with fail
      refine (unhide HCLS _ (unhide HO)).mono ?_
      rintro e w8 ⟨fa8, n8, fc8, rfl, ho8, hb8⟩
      have HB8 := hide (Below.step (unhide HW) hb8)
      have HI8 := hide ((unhide HO).below hb8).inn
      have hfn8 := ho8.intsIn.len.1
      rw [hfn8] at EC
      clear ho8 hb8 HCLS hfn8
      have hdn8 : ((n8 : Int) == 0) = decide (n8 = 0) := by by_cases e : n8 = 0 <;> simp [e]
      go_wp2
      refine bodyPost_ret (v := .tuple #[.slice (some ⟨g, 0, none⟩) L.length gc, .int .i64 u, .bool (decide (n8 = 0))]) (by simp [results, Try.results46, go_sem]) rfl ⟨_, _, _, by rw [unhide EC], by rw [unhide EC]; exact unhide HI8, unhide HB8⟩
    obtain ⟨cb, co, rfl, hcell⟩ := unhide HCC u hul
    have hui : (u : Int) < C.length := by omega
    have HST := hide fun K' h => (unhide HR).step (K' := K') hul h
    have HDN := hide fun h => (unhide HR).done (runS_none (L := K) hul h)
    have HN0 := hide fun hq => stepS_no (L := K) (coin := C.getD u 0) hq
    have HN1 := hide fun c hc hq => stepS_yes (L := K) (coin := C.getD u 0) (c := c) hc hq
    have HME := hide fun (c : Int) hc => clashL_mem (L := K) (c := c) hc
    have c0 := wcell3 hcell (unhide HW)
    generalize C.getD u 0 = coin at *
    have HCH := hide fun c W (hW2 : GrowR B0 W (.slice (some ⟨g, 0, none⟩) L.length gc) K) => specChoose_any _ K c coin W hW2.inn
    have HCLU := HCLS
    clear c0
    go_wp2_with fail
    refine (unhide HCLU _ (unhide HO)).mono ?_
    rintro e w4 ⟨fa, n, fc, rfl, ho, hb⟩
    have HW4 := hide (Below.step (unhide HW) hb)
    have HO4 := hide ((unhide HO).below hb)
    have HM := hide ho.intsIn
    obtain ⟨hfn, hfc, hfm⟩ := ho.intsIn.len
    unfold maxLen at hfm
    have HFN := hide hfn
    clear ho hb hfn HW HO HCLU
    by_cases hn0 : n = 0
    · have hfz : ((n : Int) == 0) = true := by simpa using hn0
      have EC := hide (unhide HY _ _ (unhide HDN (unhide HN0 (by rw [unhide HFN]; exact hn0))))
      clear hn0 HST HDN HN0 HN1 HME HCH
      go_wp2_with fail
      refine (unhide HCLS _ (unhide HO4)).mono ?_
      rintro e w8 ⟨fa8, n8, fc8, rfl, ho8, hb8⟩
      have HB8 := hide (Below.step (unhide HW4) hb8)
      have HI8 := hide ((unhide HO4).below hb8).inn
      have hfn8 := ho8.intsIn.len.1
      rw [hfn8] at EC
      clear ho8 hb8 HCLS hfn8
      have hdn8 : ((n8 : Int) == 0) = decide (n8 = 0) := by by_cases e : n8 = 0 <;> simp [e]
      go_wp2
      refine bodyPost_ret (v := .tuple #[.slice (some ⟨g, 0, none⟩) L.length gc, .int .i64 u, .bool (decide (n8 = 0))]) (by simp [results, Try.results46, go_sem]) rfl ⟨_, _, _, by rw [unhide EC], by rw [unhide EC]; exact unhide HI8, unhide HB8⟩
    have hfz : ((n : Int) == 0) = false := by simpa using hn0
    have hpos : (0 : Int) < n := by omega
    obtain ⟨b2, o2, rfl, hcl2⟩ := intAt (unhide HM) (show 0 < n by omega)
    rw [Nat.add_zero] at hcl2
    generalize hMM : clashL K = M at *
    have hmem : M.getD 0 0 ∈ M := by rw [getD_lt (show 0 < M.length by rw [unhide HFN]; omega)]; exact List.getElem_mem _
    have hcb := unhide HME _ hmem
    have HE := hide (unhide HN1 _ rfl (by rw [unhide HFN]; omega))
    obtain ⟨c, hc⟩ : ∃ c : Nat, M.getD 0 0 = (c : Int) := ⟨(M.getD 0 0).toNat, by omega⟩
    rw [hc] at hcl2 hcb HE
    rw [Int.toNat_natCast] at HE
    have HCC2 := hide fun W hW2 => unhide HCH (c : Int) W hW2
    generalize chooseV K (c : Int) coin = CV at HE HCC2
    obtain ⟨sl, ok⟩ := CV
    have hclt : c < K.length := by omega
    have hcl' : (c : Int) < L.length := by omega
    have c0 := wcell3 hcell (unhide HW4)
    have HMM := hide hMM
    have hpn : 0 < n := by omega
    clear hc hmem HCH HME HN0 HN1 hn0 hMM
    dsimp only at HE HCC2
    go_wp2
    go_region_held3 (fun z => z.cell? ⟨b2, o2, none⟩ = some (.int .i64 (c : Int)) ∧ z.cell? ⟨cb, co + u, none⟩ = some (.int .i64 coin)) (go_keep) (first
      | (go_at_call 45; refine (unhide HCC2 _ ((unhide HO4).below (Below.drew (Below.refl _ _)))).mono ?_; rintro e w5 ⟨rfl, hb5⟩; replace hb5 := Below.drewL hb5; have f1 := wcell3 hcl2 hb5; have f2 := wcell3 c0 hb5; have HW5 := hide (Below.step (unhide HW4) hb5); have HO5 := hide ((unhide HO4).below hb5); clear hb5))
    clear HCC2 HO4 HW4
    cases ok with
    | false =>
      rw [if_neg (by simp)] at HE
      have EC := hide (unhide HY _ _ (unhide HDN (unhide HE)))
      rw [unhide HMM] at EC
      clear HE HST HDN
      go_wp2_with fail
      refine (unhide HCLS _ (unhide HO5)).mono ?_
      rintro e w8 ⟨fa8, n8, fc8, rfl, ho8, hb8⟩
      have HB8 := hide (Below.step (unhide HW5) hb8)
      have HI8 := hide ((unhide HO5).below hb8).inn
      have hfn8 := ho8.intsIn.len.1
      rw [hfn8] at EC
      clear ho8 hb8 HCLS hfn8
      have hdn8 : ((n8 : Int) == 0) = decide (n8 = 0) := by by_cases e : n8 = 0 <;> simp [e]
      go_wp2
      refine bodyPost_ret (v := .tuple #[.slice (some ⟨g, 0, none⟩) L.length gc, .int .i64 u, .bool (decide (n8 = 0))]) (by simp [results, Try.results46, go_sem]) rfl ⟨_, _, _, by rw [unhide EC], by rw [unhide EC]; exact unhide HI8, unhide HB8⟩
    | true =>
      rw [if_pos rfl] at HE
      have HR2 := hide (unhide HST _ (unhide HE))
      have hO5 := unhide HO5
      rw [← hKl] at hO5
      obtain ⟨hS5, ⟨u1, hu1⟩, hfr1⟩ := hO5.setSlot hclt sl
      rw [hKl] at hS5
      have HS5 := hide hS5
      have HW6 := hide ((unhide HW5).setCell (p := ⟨g, c * 3 + 1, none⟩) hgw (.int .i64 sl))
      clear hO5 hS5 HE HST HDN
      go_wp2
      go_roundg (C.length - (u + 1))
      case measure => omega
      case rel => exact ⟨u + 1, _, by omega, rfl, by go_num, unhide HW6, unhide HS5, HR2⟩

end Go.Proofs.Ytkjikjeecjendaa

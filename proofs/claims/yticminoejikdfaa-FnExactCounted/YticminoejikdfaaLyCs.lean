/- The specification's Counted. Written by wip/mkly.py. -/
import Derived.Test.YticminoejikdfaaLyC
namespace Go.Proofs.Yticminoejikdfaa
open Go.RowKit

theorem zed_nil {p l : Int} {L : List I2} : zed p l (L.drop L.length) = p + l := by rw [List.drop_eq_nil_of_le (Nat.le_refl _)]; rfl
theorem zed_none {p l : Int} (h : l ≤ 0) (L : List I2) : zed p l L = p + l := by cases L <;> simp [zed, h]
theorem zed_drop {L : List I2} {p l : Int} {k : Nat} (hk : k < L.length) {x y : Int} (hx : L.getD k default = (x, y)) (hl : 0 < l) :
    zed p l (L.drop k) = if y ≤ p then zed p l (L.drop (k + 1)) else if l ≤ x - p then p + l else zed y (l - max 0 (x - p)) (L.drop (k + 1)) := by
  have e : L[k] = (x, y) := by rw [← hx]; simp [List.getD, hk]
  rw [List.drop_eq_getElem_cons hk, zed, e, if_neg (by omega)]

set_option maxRecDepth 10000 in
set_option maxHeartbeats 8000000 in
theorem specCounted_any (n a d s b e : Int) (v : Value) (L : List I2) (w : World) (h : R2 w v L) :
    Calls Try.prog 27 #[vCh n a d s, .int .i64 b, .int .i64 e, v] w fun r w' => r = .returned (.tuple #[v3 (cntV n a d s b e L).1, .bool (cntV n a d s b e L).2]) ∧ Below w.heap.size w w' := by
  have HVL := hide h
  obtain ⟨ao, cap, rfl, hl, hm, hc⟩ := h
  unfold maxLen at hm
  have HC := hide hc
  clear hc
  have HO := hide ((ownV_alloc w #[.int .i64 n, .int .i64 a, .int .i64 d, .int .i64 s] 25).step (Below.alloc1 _ (.cells #[.int .i64 0, .int .i64 0, .int .i64 0] 34)))
  have HR := hide (ownV_alloc (w.alloc (.cells #[.int .i64 n, .int .i64 a, .int .i64 d, .int .i64 s] 25)) #[.int .i64 0, .int .i64 0, .int .i64 0] 34)
  rw [World.size_alloc] at HR
  have HW := hide (below_alloc (Below.alloc1 w (.cells #[.int .i64 n, .int .i64 a, .int .i64 d, .int .i64 s] 25)) (.cells #[.int .i64 0, .int .i64 0, .int .i64 0] 34))
  have hrs : w.heap.size ≤ w.heap.size + 1 := Nat.le_add_right _ _
  have HQC := hide fun V => specCharterOk_any n a d s V
  have HQMb := hide fun V => l1Minute_any b V
  have HQMe := hide fun V => l1Minute_any e V
  have HQSL := hide fun V (hV : Below w.heap.size w V) => specSpellsOk_any _ L V ((unhide HVL).below hV)
  unfold vCh at HQC ⊢
  cases hc0 : chB n a d s with
  | false =>
    rw [hc0] at HQC
    have HF := hide (cntV_not (n := n) (a := a) (d := d) (s := s) (b := b) (e := e) (L := L) fun h => chB_not hc0 h.1)
    go_enter Try.func27, Try.ntmps27
    go_wp2_with fail
    refine (unhide HQC _).mono ?_
    rintro e w1 ⟨rfl, hb⟩
    replace HO := hide ((unhide HO).step hb)
    replace HR := hide ((unhide HR).step hb)
    replace HW := hide (Below.step (unhide HW) hb)
    clear hb
    clear HQC
    have r0 := (unhide HR).cell (i := 0) rfl
    have rf0 := (unhide HR).frozen 0
    have r1 := (unhide HR).cell (i := 1) rfl
    have rf1 := (unhide HR).frozen 1
    have r2 := (unhide HR).cell (i := 2) rfl
    have rf2 := (unhide HR).frozen 2
    go_wp2
    have hr3 := own_set3 (unhide HR) (.int .i64 0) (.int .i64 0) (.int .i64 0)
    have k0 := hr3.cell (i := 0) rfl
    have k1 := hr3.cell (i := 1) rfl
    have k2 := hr3.cell (i := 2) rfl
    refine bodyPost_ret (v := .tuple #[.agg #[.int .i64 0, .int .i64 0, .int .i64 0], .bool false]) (by simp [results, Try.results27, go_sem, k0, k1, k2]) rfl ⟨ret_cb (unhide HF), below_set3 (unhide HW) hrs⟩
  | true =>
  rw [hc0] at HQC
  cases hc1 : inB b 0 100000000 with
  | false =>
    rw [hc1] at HQMb
    have HF := hide (cntV_not (n := n) (a := a) (d := d) (s := s) (b := b) (e := e) (L := L) fun h => by have := h.2.1; rw [inB_mk (by omega) (by omega)] at hc1; cases hc1)
    go_enter Try.func27, Try.ntmps27
    go_wp2_with fail
    refine (unhide HQC _).mono ?_
    rintro e w1 ⟨rfl, hb⟩
    replace HO := hide ((unhide HO).step hb)
    replace HR := hide ((unhide HR).step hb)
    replace HW := hide (Below.step (unhide HW) hb)
    clear hb
    clear HQC
    go_wp2_with fail
    refine (unhide HQMb _).mono ?_
    rintro e w9 ⟨rfl, h9⟩
    have h8 := h9.symm
    subst h8
    clear h9
    clear HQMb
    have r0 := (unhide HR).cell (i := 0) rfl
    have rf0 := (unhide HR).frozen 0
    have r1 := (unhide HR).cell (i := 1) rfl
    have rf1 := (unhide HR).frozen 1
    have r2 := (unhide HR).cell (i := 2) rfl
    have rf2 := (unhide HR).frozen 2
    go_wp2
    have hr3 := own_set3 (unhide HR) (.int .i64 0) (.int .i64 0) (.int .i64 0)
    have k0 := hr3.cell (i := 0) rfl
    have k1 := hr3.cell (i := 1) rfl
    have k2 := hr3.cell (i := 2) rfl
    refine bodyPost_ret (v := .tuple #[.agg #[.int .i64 0, .int .i64 0, .int .i64 0], .bool false]) (by simp [results, Try.results27, go_sem, k0, k1, k2]) rfl ⟨ret_cb (unhide HF), below_set3 (unhide HW) hrs⟩
  | true =>
  rw [hc1] at HQMb
  cases hc2 : inB e 0 100000000 with
  | false =>
    rw [hc2] at HQMe
    have HF := hide (cntV_not (n := n) (a := a) (d := d) (s := s) (b := b) (e := e) (L := L) fun h => by have := h.2.1; rw [inB_mk (by omega) (by omega)] at hc2; cases hc2)
    go_enter Try.func27, Try.ntmps27
    go_wp2_with fail
    refine (unhide HQC _).mono ?_
    rintro e w1 ⟨rfl, hb⟩
    replace HO := hide ((unhide HO).step hb)
    replace HR := hide ((unhide HR).step hb)
    replace HW := hide (Below.step (unhide HW) hb)
    clear hb
    clear HQC
    go_wp2_with fail
    refine (unhide HQMb _).mono ?_
    rintro e w9 ⟨rfl, h9⟩
    have h8 := h9.symm
    subst h8
    clear h9
    clear HQMb
    go_wp2_with fail
    refine (unhide HQMe _).mono ?_
    rintro e w9 ⟨rfl, h9⟩
    have h8 := h9.symm
    subst h8
    clear h9
    clear HQMe
    have r0 := (unhide HR).cell (i := 0) rfl
    have rf0 := (unhide HR).frozen 0
    have r1 := (unhide HR).cell (i := 1) rfl
    have rf1 := (unhide HR).frozen 1
    have r2 := (unhide HR).cell (i := 2) rfl
    have rf2 := (unhide HR).frozen 2
    go_wp2
    have hr3 := own_set3 (unhide HR) (.int .i64 0) (.int .i64 0) (.int .i64 0)
    have k0 := hr3.cell (i := 0) rfl
    have k1 := hr3.cell (i := 1) rfl
    have k2 := hr3.cell (i := 2) rfl
    refine bodyPost_ret (v := .tuple #[.agg #[.int .i64 0, .int .i64 0, .int .i64 0], .bool false]) (by simp [results, Try.results27, go_sem, k0, k1, k2]) rfl ⟨ret_cb (unhide HF), below_set3 (unhide HW) hrs⟩
  | true =>
  rw [hc2] at HQMe
  cases hc3 : decide (e < b) with
  | true =>
    have HF := hide (cntV_not (n := n) (a := a) (d := d) (s := s) (b := b) (e := e) (L := L) fun h => by have h1 := h.2.1; simp at hc3; omega)
    go_enter Try.func27, Try.ntmps27
    go_wp2_with fail
    refine (unhide HQC _).mono ?_
    rintro e w1 ⟨rfl, hb⟩
    replace HO := hide ((unhide HO).step hb)
    replace HR := hide ((unhide HR).step hb)
    replace HW := hide (Below.step (unhide HW) hb)
    clear hb
    clear HQC
    go_wp2_with fail
    refine (unhide HQMb _).mono ?_
    rintro e w9 ⟨rfl, h9⟩
    have h8 := h9.symm
    subst h8
    clear h9
    clear HQMb
    go_wp2_with fail
    refine (unhide HQMe _).mono ?_
    rintro e w9 ⟨rfl, h9⟩
    have h8 := h9.symm
    subst h8
    clear h9
    clear HQMe
    have r0 := (unhide HR).cell (i := 0) rfl
    have rf0 := (unhide HR).frozen 0
    have r1 := (unhide HR).cell (i := 1) rfl
    have rf1 := (unhide HR).frozen 1
    have r2 := (unhide HR).cell (i := 2) rfl
    have rf2 := (unhide HR).frozen 2
    go_wp2
    have hr3 := own_set3 (unhide HR) (.int .i64 0) (.int .i64 0) (.int .i64 0)
    have k0 := hr3.cell (i := 0) rfl
    have k1 := hr3.cell (i := 1) rfl
    have k2 := hr3.cell (i := 2) rfl
    refine bodyPost_ret (v := .tuple #[.agg #[.int .i64 0, .int .i64 0, .int .i64 0], .bool false]) (by simp [results, Try.results27, go_sem, k0, k1, k2]) rfl ⟨ret_cb (unhide HF), below_set3 (unhide HW) hrs⟩
  | false =>
  cases hc4 : spB L with
  | false =>
    rw [hc4] at HQSL
    have HF := hide (cntV_not (n := n) (a := a) (d := d) (s := s) (b := b) (e := e) (L := L) fun h => spB_not hc4 (h.2.2))
    go_enter Try.func27, Try.ntmps27
    go_wp2_with fail
    refine (unhide HQC _).mono ?_
    rintro e w1 ⟨rfl, hb⟩
    replace HO := hide ((unhide HO).step hb)
    replace HR := hide ((unhide HR).step hb)
    replace HW := hide (Below.step (unhide HW) hb)
    clear hb
    clear HQC
    go_wp2_with fail
    refine (unhide HQMb _).mono ?_
    rintro e w9 ⟨rfl, h9⟩
    have h8 := h9.symm
    subst h8
    clear h9
    clear HQMb
    go_wp2_with fail
    refine (unhide HQMe _).mono ?_
    rintro e w9 ⟨rfl, h9⟩
    have h8 := h9.symm
    subst h8
    clear h9
    clear HQMe
    go_wp2_with fail
    refine (unhide HQSL _ (unhide HW)).mono ?_
    rintro e w5 ⟨rfl, hb⟩
    replace HO := hide ((unhide HO).step hb)
    replace HR := hide ((unhide HR).step hb)
    replace HW := hide (Below.step (unhide HW) hb)
    clear hb
    clear HQSL
    have r0 := (unhide HR).cell (i := 0) rfl
    have rf0 := (unhide HR).frozen 0
    have r1 := (unhide HR).cell (i := 1) rfl
    have rf1 := (unhide HR).frozen 1
    have r2 := (unhide HR).cell (i := 2) rfl
    have rf2 := (unhide HR).frozen 2
    go_wp2
    have hr3 := own_set3 (unhide HR) (.int .i64 0) (.int .i64 0) (.int .i64 0)
    have k0 := hr3.cell (i := 0) rfl
    have k1 := hr3.cell (i := 1) rfl
    have k2 := hr3.cell (i := 2) rfl
    refine bodyPost_ret (v := .tuple #[.agg #[.int .i64 0, .int .i64 0, .int .i64 0], .bool false]) (by simp [results, Try.results27, go_sem, k0, k1, k2]) rfl ⟨ret_cb (unhide HF), below_set3 (unhide HW) hrs⟩
  | true =>
  rw [hc4] at HQSL
  go_enter Try.func27, Try.ntmps27
  go_wp2_with fail
  refine (unhide HQC _).mono ?_
  rintro e w1 ⟨rfl, hb⟩
  replace HO := hide ((unhide HO).step hb)
  replace HR := hide ((unhide HR).step hb)
  replace HW := hide (Below.step (unhide HW) hb)
  clear hb
  clear HQC
  go_wp2_with fail
  refine (unhide HQMb _).mono ?_
  rintro e w9 ⟨rfl, h9⟩
  have h8 := h9.symm
  subst h8
  clear h9
  clear HQMb
  go_wp2_with fail
  refine (unhide HQMe _).mono ?_
  rintro e w9 ⟨rfl, h9⟩
  have h8 := h9.symm
  subst h8
  clear h9
  clear HQMe
  go_wp2_with fail
  refine (unhide HQSL _ (unhide HW)).mono ?_
  rintro e w5 ⟨rfl, hb⟩
  replace HO := hide ((unhide HO).step hb)
  replace HR := hide ((unhide HR).step hb)
  replace HW := hide (Below.step (unhide HW) hb)
  clear hb
  clear HQSL
  have r0 := (unhide HR).cell (i := 0) rfl
  have rf0 := (unhide HR).frozen 0
  have r1 := (unhide HR).cell (i := 1) rfl
  have rf1 := (unhide HR).frozen 1
  have r2 := (unhide HR).cell (i := 2) rfl
  have rf2 := (unhide HR).frozen 2
  have hch := chB_iff.1 hc0
  obtain ⟨-, ⟨a2, a3⟩, -⟩ := hch
  have hb0 := (inB_true hc1).1
  have hb1 := (inB_true hc1).2
  have he0 := (inB_true hc2).1
  have he1 := (inB_true hc2).2
  have hbe : b ≤ e := by simp at hc3; omega
  have HS := hide (spB_iff.1 hc4)
  have hn := (unhide HS).1
  have HF := hide (cntV_yes (n := n) (a := a) (d := d) (s := s) (b := b) (e := e) (L := L) ⟨chB_iff.1 hc0, ⟨hb0, hbe, he1⟩, unhide HS⟩)
  have HK := hide fun V (hV : Below w.heap.size w V) => l10Work_any _ L b e V ((unhide HVL).below hV) (unhide HS) hb0 hb1 he0 he1
  have hwb := wk_bd (unhide HS) b e L.length (Nat.le_refl _)
  clear hc0 hc1 hc2 hc3 hc4 r0 r1 r2 rf0 rf1 rf2
  have c1 := (unhide HO).cell (i := 1) rfl
  go_wp2_with fail
  go_quiet (fail)
  replace HW := hide (below_drewN (unhide HW) nq)
  replace HO := hide ((unhide HO).step (below_drewN (Below.refl _ _) nq))
  replace HR := hide ((unhide HR).step (below_drewN (Below.refl _ _) nq))
  go_wp2
  go_loopg [10, 11, 12] L.length (fun g pv lv i wr => Hid (Below w.heap.size w wr) ∧ Hid (OwnV wr (w.heap.size) (cCh n a d s)) ∧ Hid (OwnV wr (w.heap.size + 1) [.int .i64 0, .int .i64 0, .int .i64 0]) ∧ ∃ (k : Nat) (p l : Int), k ≤ L.length ∧ g = L.length - k ∧ i = .int .i64 k ∧ pv = .int .i64 p ∧ lv = .int .i64 l ∧ 0 ≤ p ∧ p ≤ 100000000 ∧ 0 ≤ l ∧ l ≤ 100000 ∧ Hid (zed p l (L.drop k) = zed b a L))
  case atStart => exact ⟨unhide HW, unhide HO, unhide HR, 0, b, a, Nat.zero_le _, rfl, rfl, rfl, rfl, hb0, hb1, a2, a3, rfl⟩
  case round =>
    clear HW HO HR c1
    obtain ⟨HW, HO, HR, k, p, l, hk, rfl, rfl, rfl, rfl, hp0, hp1, hl0, hl1, HE⟩ := hrel
    by_cases hkn : L.length ≤ k
    · obtain rfl : k = L.length := by omega
      have EZ : Hid (p + l = zed b a L) := zed_nil.symm.trans (unhide HE)
      clear HE
      have c1 := (unhide HO).cell (i := 1) rfl
      have r0 := (unhide HR).cell (i := 0) rfl
      have rf0 := (unhide HR).frozen 0
      have r1 := (unhide HR).cell (i := 1) rfl
      have rf1 := (unhide HR).frozen 1
      have r2 := (unhide HR).cell (i := 2) rfl
      have rf2 := (unhide HR).frozen 2
      by_cases hz : e ≤ p + l
      · have HG : Hid (cntV n a d s b e L = ((e - b - wk L b e L.length, 0, -1), true)) := by show _ = _; rw [unhide HF, cnt3, if_pos (by rw [← unhide EZ]; exact hz)]
        generalize wk L b e L.length = wv at *
        clear r0 r1 r2 rf0 rf1 rf2
        go_wp2_with fail
        refine (unhide HK _ (unhide HW)).mono ?_
        rintro e8 w8 ⟨rfl, hb⟩
        replace HR := hide ((unhide HR).step hb)
        replace HW := hide (Below.step (unhide HW) hb)
        clear hb
        have r0 := (unhide HR).cell (i := 0) rfl
        have rf0 := (unhide HR).frozen 0
        have r1 := (unhide HR).cell (i := 1) rfl
        have rf1 := (unhide HR).frozen 1
        have r2 := (unhide HR).cell (i := 2) rfl
        have rf2 := (unhide HR).frozen 2
        go_wp2
        have hr3 := own_set3 (unhide HR) (.int .i64 (e - b - wv)) (.int .i64 0) (.int .i64 (-1))
        have k0 := hr3.cell (i := 0) rfl
        have k1 := hr3.cell (i := 1) rfl
        have k2 := hr3.cell (i := 2) rfl
        refine bodyPost_ret (v := .tuple #[.agg #[.int .i64 (e - b - wv), .int .i64 0, .int .i64 (-1)], .bool true]) (by simp [results, Try.results27, go_sem, k0, k1, k2]) rfl ⟨ret_cb (unhide HG), below_set3 (unhide HW) hrs⟩
      · have HG : Hid (cntV n a d s b e L = ((a, e - (p + l), p + l), true)) := by show _ = _; rw [unhide HF, cnt3, if_neg (by rw [← unhide EZ]; exact hz), ← unhide EZ]
        clear HK hwb EZ
        go_wp2
        have hr3 := own_set3 (unhide HR) (.int .i64 a) (.int .i64 (e - (p + l))) (.int .i64 (p + l))
        have k0 := hr3.cell (i := 0) rfl
        have k1 := hr3.cell (i := 1) rfl
        have k2 := hr3.cell (i := 2) rfl
        refine bodyPost_ret (v := .tuple #[.agg #[.int .i64 a, .int .i64 (e - (p + l)), .int .i64 (p + l)], .bool true]) (by simp [results, Try.results27, go_sem, k0, k1, k2]) rfl ⟨ret_cb (unhide HG), below_set3 (unhide HW) hrs⟩
    replace hkn : k < L.length := by omega
    have hki : (k : Int) < L.length := by omega
    by_cases hlz : l ≤ 0
    · have dl : decide (0 < l) = false := by simp; omega
      have EZ : Hid (p + l = zed b a L) := (zed_none hlz _).symm.trans (unhide HE)
      clear HE
      have c1 := (unhide HO).cell (i := 1) rfl
      have r0 := (unhide HR).cell (i := 0) rfl
      have rf0 := (unhide HR).frozen 0
      have r1 := (unhide HR).cell (i := 1) rfl
      have rf1 := (unhide HR).frozen 1
      have r2 := (unhide HR).cell (i := 2) rfl
      have rf2 := (unhide HR).frozen 2
      by_cases hz : e ≤ p + l
      · have HG : Hid (cntV n a d s b e L = ((e - b - wk L b e L.length, 0, -1), true)) := by show _ = _; rw [unhide HF, cnt3, if_pos (by rw [← unhide EZ]; exact hz)]
        generalize wk L b e L.length = wv at *
        clear r0 r1 r2 rf0 rf1 rf2
        go_wp2_with fail
        refine (unhide HK _ (unhide HW)).mono ?_
        rintro e8 w8 ⟨rfl, hb⟩
        replace HR := hide ((unhide HR).step hb)
        replace HW := hide (Below.step (unhide HW) hb)
        clear hb
        have r0 := (unhide HR).cell (i := 0) rfl
        have rf0 := (unhide HR).frozen 0
        have r1 := (unhide HR).cell (i := 1) rfl
        have rf1 := (unhide HR).frozen 1
        have r2 := (unhide HR).cell (i := 2) rfl
        have rf2 := (unhide HR).frozen 2
        go_wp2
        have hr3 := own_set3 (unhide HR) (.int .i64 (e - b - wv)) (.int .i64 0) (.int .i64 (-1))
        have k0 := hr3.cell (i := 0) rfl
        have k1 := hr3.cell (i := 1) rfl
        have k2 := hr3.cell (i := 2) rfl
        refine bodyPost_ret (v := .tuple #[.agg #[.int .i64 (e - b - wv), .int .i64 0, .int .i64 (-1)], .bool true]) (by simp [results, Try.results27, go_sem, k0, k1, k2]) rfl ⟨ret_cb (unhide HG), below_set3 (unhide HW) hrs⟩
      · have HG : Hid (cntV n a d s b e L = ((a, e - (p + l), p + l), true)) := by show _ = _; rw [unhide HF, cnt3, if_neg (by rw [← unhide EZ]; exact hz), ← unhide EZ]
        clear HK hwb EZ
        go_wp2
        have hr3 := own_set3 (unhide HR) (.int .i64 a) (.int .i64 (e - (p + l))) (.int .i64 (p + l))
        have k0 := hr3.cell (i := 0) rfl
        have k1 := hr3.cell (i := 1) rfl
        have k2 := hr3.cell (i := 2) rfl
        refine bodyPost_ret (v := .tuple #[.agg #[.int .i64 a, .int .i64 (e - (p + l)), .int .i64 (p + l)], .bool true]) (by simp [results, Try.results27, go_sem, k0, k1, k2]) rfl ⟨ret_cb (unhide HG), below_set3 (unhide HW) hrs⟩
    have dl : decide (0 < l) = true := by simp; omega
    obtain ⟨b1, o, x, y, rfl, hx, hy, EX⟩ := rec2At (unhide HC) hkn
    have g0 := ((unhide HW).cell (lt_of_cell hx)).trans hx
    have g1 := ((unhide HW).cell (lt_of_cell hy)).trans hy
    obtain ⟨hx0, hxy, hy1, -⟩ := (unhide HS).2 k hkn
    unfold fr at hx0 hxy
    unfold tw at hxy hy1
    rw [unhide EX] at hx0 hxy hy1
    dsimp only at hx0 hxy hy1
    have HN := hide ((zed_drop (p := p) (l := l) hkn (unhide EX) (by omega)).symm.trans (unhide HE))
    clear hx hy EX
    by_cases h1 : y ≤ p
    · have HN1 := hide ((if_pos h1).symm.trans (unhide HN))
      clear HN HE
      go_wp2
      go_roundg (L.length - (k + 1))
      case measure => omega
      case rel => exact ⟨unhide HW, unhide HO, unhide HR, k + 1, p, l, by omega, rfl, by go_num, rfl, rfl, hp0, hp1, hl0, hl1, HN1⟩
    have w1 : IntKind.i64.wrap (x - p) = x - p := by rw [IntKind.wrap_i64]; omega
    by_cases h2 : l ≤ x - p
    · skip
      have EZ : Hid (p + l = zed b a L) := ((if_neg h1).trans (if_pos h2)).symm.trans (unhide HN)
      clear HE
      have c1 := (unhide HO).cell (i := 1) rfl
      have r0 := (unhide HR).cell (i := 0) rfl
      have rf0 := (unhide HR).frozen 0
      have r1 := (unhide HR).cell (i := 1) rfl
      have rf1 := (unhide HR).frozen 1
      have r2 := (unhide HR).cell (i := 2) rfl
      have rf2 := (unhide HR).frozen 2
      by_cases hz : e ≤ p + l
      · have HG : Hid (cntV n a d s b e L = ((e - b - wk L b e L.length, 0, -1), true)) := by show _ = _; rw [unhide HF, cnt3, if_pos (by rw [← unhide EZ]; exact hz)]
        generalize wk L b e L.length = wv at *
        clear r0 r1 r2 rf0 rf1 rf2
        go_wp2_with fail
        refine (unhide HK _ (unhide HW)).mono ?_
        rintro e8 w8 ⟨rfl, hb⟩
        replace HR := hide ((unhide HR).step hb)
        replace HW := hide (Below.step (unhide HW) hb)
        clear hb
        have r0 := (unhide HR).cell (i := 0) rfl
        have rf0 := (unhide HR).frozen 0
        have r1 := (unhide HR).cell (i := 1) rfl
        have rf1 := (unhide HR).frozen 1
        have r2 := (unhide HR).cell (i := 2) rfl
        have rf2 := (unhide HR).frozen 2
        go_wp2
        have hr3 := own_set3 (unhide HR) (.int .i64 (e - b - wv)) (.int .i64 0) (.int .i64 (-1))
        have k0 := hr3.cell (i := 0) rfl
        have k1 := hr3.cell (i := 1) rfl
        have k2 := hr3.cell (i := 2) rfl
        refine bodyPost_ret (v := .tuple #[.agg #[.int .i64 (e - b - wv), .int .i64 0, .int .i64 (-1)], .bool true]) (by simp [results, Try.results27, go_sem, k0, k1, k2]) rfl ⟨ret_cb (unhide HG), below_set3 (unhide HW) hrs⟩
      · have HG : Hid (cntV n a d s b e L = ((a, e - (p + l), p + l), true)) := by show _ = _; rw [unhide HF, cnt3, if_neg (by rw [← unhide EZ]; exact hz), ← unhide EZ]
        clear HK hwb EZ
        go_wp2
        have hr3 := own_set3 (unhide HR) (.int .i64 a) (.int .i64 (e - (p + l))) (.int .i64 (p + l))
        have k0 := hr3.cell (i := 0) rfl
        have k1 := hr3.cell (i := 1) rfl
        have k2 := hr3.cell (i := 2) rfl
        refine bodyPost_ret (v := .tuple #[.agg #[.int .i64 a, .int .i64 (e - (p + l)), .int .i64 (p + l)], .bool true]) (by simp [results, Try.results27, go_sem, k0, k1, k2]) rfl ⟨ret_cb (unhide HG), below_set3 (unhide HW) hrs⟩
    have HN1 := hide (((if_neg h1).trans (if_neg h2)).symm.trans (unhide HN))
    clear HN HE
    by_cases h3 : p < x
    · rw [show max 0 (x - p) = x - p by omega] at HN1
      go_wp2
      go_roundg (L.length - (k + 1))
      case measure => omega
      case rel => exact ⟨unhide HW, unhide HO, unhide HR, k + 1, y, l - (x - p), by omega, rfl, by go_num, rfl, rfl, by omega, hy1, by omega, by omega, HN1⟩
    · rw [show max 0 (x - p) = 0 by omega, Int.sub_zero] at HN1
      go_wp2
      go_roundg (L.length - (k + 1))
      case measure => omega
      case rel => exact ⟨unhide HW, unhide HO, unhide HR, k + 1, y, l, by omega, rfl, by go_num, rfl, rfl, by omega, hy1, hl0, hl1, HN1⟩

end Go.Proofs.Yticminoejikdfaa

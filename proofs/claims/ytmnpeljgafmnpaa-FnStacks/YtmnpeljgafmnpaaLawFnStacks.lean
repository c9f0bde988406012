/- FnStacks: whatever the bytes, a drawn stack that stands still stands without its topmost box; more wind never wants fewer lashings, and none wants none. Written by wip/mkst.py. -/
import Derived.Test.YtmnpeljgafmnpaaStM
import Derived.Test.YtmnpeljgafmnpaaAtFix
namespace Go.Proofs.Ytmnpeljgafmnpaa
open Go.RowKit

set_option maxRecDepth 10000 in
set_option maxHeartbeats 6400000 in
theorem fnStacks_any (v : Value) (nb : Nat) (w : World) (h : BytesIn w.heap.size w v nb) :
    Calls Try.prog 4 #[v] w fun e w' => e = .returned (.bool true) ∧ Below w.heap.size w w' := by
  have HB := hide h
  have HD := hide fun hn => drawStackOk_any v nb w h hn
  obtain ⟨vao, vcap, rfl, hl, hm, _⟩ := h
  unfold maxLen at hm
  have HBIG := hide (big_any vao nb vcap w)
  cases hbig : decide ((1048576 : Int) < (nb : Int)) with
  | true =>
    rw [hbig] at HBIG
    go_enter Try.func4, Try.ntmps4
    go_wp2_with fail
    refine (unhide HBIG).mono ?_
    rintro e w' ⟨rfl, rfl⟩
    go_wp2
    go_ret
    exact ⟨rfl, Below.refl _ _⟩
  | false =>
  rw [hbig] at HBIG
  have hnb : nb ≤ 1048576 := by rw [decide_eq_false_iff_not] at hbig; omega
  replace HD := hide (unhide HD hnb)
  have HAT := hide fun k hk => at_fix _ nb k w (unhide HB) hnb hk
  clear hbig HB
  go_enter Try.func4, Try.ntmps4
  go_wp2_with fail
  refine (unhide HBIG).mono ?_
  rintro e w' ⟨rfl, h9⟩
  subst h9
  clear HBIG
  go_wp2_with fail
  refine (unhide HD).mono ?_
  rintro e w1 ⟨g, m, cap, L, most, rfl, hL, hm30, hb⟩
  have HW := hide hb
  have hlen := hL.len
  have hcaps := hL.parts.2.2.1
  have HL := hide hL
  have HI := hide fun V (hV : RBox V (.slice (some ⟨g, 0, none⟩) m cap) L) => implStackOk_any _ L most V hV
  have HS := hide fun V (hV : RBox V (.slice (some ⟨g, 0, none⟩) m cap) L) => specStackOk_any _ L most V hV
  have HTop : Hid (∀ k, m = k + 1 → stackB L most = true → stackB (L.take k) most = true) := fun k hk h => stack_top (by omega) h
  have HT := hide fun V k (hk : k ≤ m) (hV : RBox V (.slice (some ⟨g, 0, none⟩) m cap) L) => implStackOk_any _ (L.take k) most V (take_boxes hV hk)
  have HLen := hide hlen
  clear hb hL HD hlen
  go_wp2_with fail
  refine (unhide HI _ (unhide HL).boxes).mono ?_
  rintro e w2 ⟨rfl, hb⟩
  replace HL := hide ((unhide HL).below hb)
  replace HW := hide (Below.step (unhide HW) hb)
  clear hb
  go_wp2_with fail
  refine (unhide HS _ (unhide HL).boxes).mono ?_
  rintro e w3 ⟨rfl, hb⟩
  replace HL := hide ((unhide HL).below hb)
  replace HW := hide (Below.step (unhide HW) hb)
  clear hb
  clear HI HS
  cases hV : stackB L most with
  | false =>
    clear HTop HT hV
    obtain ⟨a, ha0, ha1, hA1⟩ := unhide HAT 1 (by omega)
    obtain ⟨b, hb0, hb1, hA2⟩ := unhide HAT 2 (by omega)
    have HA1 := hide fun V hV => hA1 V hV
    have HA2 := hide fun V hV => hA2 V hV
    clear hA1 hA2 HAT
    have EA := hide (lashB_in (L := L) (a := a % 60) (by omega) (by omega))
    have EB := hide (lashB_in (L := L) (a := a % 60 + b % 40) (by omega) (by omega))
    have EM := hide (lashC_mono (L := L) (a := a % 60) (b := a % 60 + b % 40) (by omega) (by omega) (by omega))
    have E1 := hide (lashB_in (L := L) (a := 1) (by omega) (by omega))
    have E0 := hide (lash_calm L)
    have HX1 := hide fun V (hV : RBox V (.slice (some ⟨g, 0, none⟩) m cap) L) => implLashes_any _ L (a % 60) V hV
    have HX2 := hide fun V (hV : RBox V (.slice (some ⟨g, 0, none⟩) m cap) L) => implLashes_any _ L (a % 60 + b % 40) V hV
    have HX3 := hide fun V (hV : RBox V (.slice (some ⟨g, 0, none⟩) m cap) L) => implLashes_any _ L 0 V hV
    have HX4 := hide fun V v (hV : RBox V v [oneBox]) => implLashes_any v [oneBox] 10 V hV
    have HX5 := hide fun V (hV : RBox V (.slice (some ⟨g, 0, none⟩) m cap) L) => specLashes_any _ L 1 V hV
    rw [unhide EA] at HX1
    rw [unhide EB] at HX2
    rw [unhide E0] at HX3
    rw [one_two] at HX4
    rw [unhide E1] at HX5
    generalize lashC L (a % 60) = la at *
    generalize lashC L (a % 60 + b % 40) = lb at *
    generalize lashC L 1 = l1 at *
    generalize lashB L 0 = s0 at *
    generalize lashB [oneBox] 10 = s1 at *
    generalize stk1 L = ok1 at *
    have EMl := unhide EM
    have qa : IntKind.i64.wrap (a % 60 + b % 40) = a % 60 + b % 40 := by rw [IntKind.wrap_i64]; omega
    go_wp2_with fail
    refine (unhide HA1 _ (unhide HW)).mono ?_
    rintro e w5 ⟨rfl, h9⟩
    have h9' := h9.symm
    subst h9'
    clear h9
    go_wp2_with fail
    refine (unhide HX1 _ (unhide HL).boxes).mono ?_
    rintro e w6 ⟨rfl, hb⟩
    replace HL := hide ((unhide HL).below hb)
    replace HW := hide (Below.step (unhide HW) hb)
    clear hb
    go_wp2_with fail
    refine (unhide HA1 _ (unhide HW)).mono ?_
    rintro e w7 ⟨rfl, h9⟩
    have h9' := h9.symm
    subst h9'
    clear h9
    go_wp2_with fail
    refine (unhide HA2 _ (unhide HW)).mono ?_
    rintro e w8 ⟨rfl, h9⟩
    have h9' := h9.symm
    subst h9'
    clear h9
    go_wp2_with fail
    refine (unhide HX2 _ (unhide HL).boxes).mono ?_
    rintro e w9 ⟨rfl, hb⟩
    replace HL := hide ((unhide HL).below hb)
    replace HW := hide (Below.step (unhide HW) hb)
    clear hb
    go_wp2_with fail
    refine (unhide HX3 _ (unhide HL).boxes).mono ?_
    rintro e w10 ⟨rfl, hb⟩
    replace HL := hide ((unhide HL).below hb)
    replace HW := hide (Below.step (unhide HW) hb)
    clear hb
    have hA := Below.alloc1 w10 (.cells #[.string ⟨#[67, 83, 81, 85, 51, 48, 53, 52, 51, 56, 51]⟩, .int .i64 10, .int .i64 0, .bool false, .int .i64 0, .int .i64 1] 34)
    have HOne : Hid (OwnV (w10.alloc (.cells #[.string ⟨#[67, 83, 81, 85, 51, 48, 53, 52, 51, 56, 51]⟩, .int .i64 10, .int .i64 0, .bool false, .int .i64 0, .int .i64 1] 34)) w10.heap.size (recCells 6 eBox [oneBox])) := ownV_alloc w10 #[.string ⟨#[67, 83, 81, 85, 51, 48, 53, 52, 51, 56, 51]⟩, .int .i64 10, .int .i64 0, .bool false, .int .i64 0, .int .i64 1] 34
    replace HL := hide ((unhide HL).below hA)
    replace HW := hide (Below.step (unhide HW) hA)
    have HR1 : Hid (RBox (w10.alloc (.cells #[.string ⟨#[67, 83, 81, 85, 51, 48, 53, 52, 51, 56, 51]⟩, .int .i64 10, .int .i64 0, .bool false, .int .i64 0, .int .i64 1] 34)) (.slice (some ⟨w10.heap.size, 0, none⟩) 1 1) [oneBox]) := OwnV.recsIn (cap := 1) (unhide HOne) (by decide) (by unfold maxLen; omega)
    clear hA HOne
    go_wp2_with fail
    generalize w10.alloc (.cells #[.string ⟨#[67, 83, 81, 85, 51, 48, 53, 52, 51, 56, 51]⟩, .int .i64 10, .int .i64 0, .bool false, .int .i64 0, .int .i64 1] 34) = W10 at *
    refine (unhide HX4 W10 (.slice (some ⟨w10.heap.size, 0, none⟩) 1 1) (unhide HR1)).mono ?_
    rintro e w11 ⟨rfl, hb⟩
    clear HR1
    replace HL := hide ((unhide HL).below hb)
    replace HW := hide (Below.step (unhide HW) hb)
    clear hb
    go_wp2_with fail
    refine (unhide HX5 _ (unhide HL).boxes).mono ?_
    rintro e w12 ⟨rfl, hb⟩
    replace HL := hide ((unhide HL).below hb)
    replace HW := hide (Below.step (unhide HW) hb)
    clear hb
    clear HX1 HX2 HX3 HX4 HX5 HA1 HA2 HL
    cases ok1 with
    | false =>
      go_wp2
      go_ret
      exact ⟨rfl, unhide HW⟩
    | true =>
      go_wp2
      go_ret
      exact ⟨rfl, unhide HW⟩
  | true =>
  rw [hV] at HTop
  clear hV
  by_cases hm0 : m = 0
  · have d0 : decide ((0 : Int) < (m : Int)) = false := by simp; omega
    have d0' : decide (0 < m) = false := by simp; omega
    clear HTop HT hm0
    obtain ⟨a, ha0, ha1, hA1⟩ := unhide HAT 1 (by omega)
    obtain ⟨b, hb0, hb1, hA2⟩ := unhide HAT 2 (by omega)
    have HA1 := hide fun V hV => hA1 V hV
    have HA2 := hide fun V hV => hA2 V hV
    clear hA1 hA2 HAT
    have EA := hide (lashB_in (L := L) (a := a % 60) (by omega) (by omega))
    have EB := hide (lashB_in (L := L) (a := a % 60 + b % 40) (by omega) (by omega))
    have EM := hide (lashC_mono (L := L) (a := a % 60) (b := a % 60 + b % 40) (by omega) (by omega) (by omega))
    have E1 := hide (lashB_in (L := L) (a := 1) (by omega) (by omega))
    have E0 := hide (lash_calm L)
    have HX1 := hide fun V (hV : RBox V (.slice (some ⟨g, 0, none⟩) m cap) L) => implLashes_any _ L (a % 60) V hV
    have HX2 := hide fun V (hV : RBox V (.slice (some ⟨g, 0, none⟩) m cap) L) => implLashes_any _ L (a % 60 + b % 40) V hV
    have HX3 := hide fun V (hV : RBox V (.slice (some ⟨g, 0, none⟩) m cap) L) => implLashes_any _ L 0 V hV
    have HX4 := hide fun V v (hV : RBox V v [oneBox]) => implLashes_any v [oneBox] 10 V hV
    have HX5 := hide fun V (hV : RBox V (.slice (some ⟨g, 0, none⟩) m cap) L) => specLashes_any _ L 1 V hV
    rw [unhide EA] at HX1
    rw [unhide EB] at HX2
    rw [unhide E0] at HX3
    rw [one_two] at HX4
    rw [unhide E1] at HX5
    generalize lashC L (a % 60) = la at *
    generalize lashC L (a % 60 + b % 40) = lb at *
    generalize lashC L 1 = l1 at *
    generalize lashB L 0 = s0 at *
    generalize lashB [oneBox] 10 = s1 at *
    generalize stk1 L = ok1 at *
    have EMl := unhide EM
    have qa : IntKind.i64.wrap (a % 60 + b % 40) = a % 60 + b % 40 := by rw [IntKind.wrap_i64]; omega
    go_wp2_with fail
    refine (unhide HA1 _ (unhide HW)).mono ?_
    rintro e w5 ⟨rfl, h9⟩
    have h9' := h9.symm
    subst h9'
    clear h9
    go_wp2_with fail
    refine (unhide HX1 _ (unhide HL).boxes).mono ?_
    rintro e w6 ⟨rfl, hb⟩
    replace HL := hide ((unhide HL).below hb)
    replace HW := hide (Below.step (unhide HW) hb)
    clear hb
    go_wp2_with fail
    refine (unhide HA1 _ (unhide HW)).mono ?_
    rintro e w7 ⟨rfl, h9⟩
    have h9' := h9.symm
    subst h9'
    clear h9
    go_wp2_with fail
    refine (unhide HA2 _ (unhide HW)).mono ?_
    rintro e w8 ⟨rfl, h9⟩
    have h9' := h9.symm
    subst h9'
    clear h9
    go_wp2_with fail
    refine (unhide HX2 _ (unhide HL).boxes).mono ?_
    rintro e w9 ⟨rfl, hb⟩
    replace HL := hide ((unhide HL).below hb)
    replace HW := hide (Below.step (unhide HW) hb)
    clear hb
    go_wp2_with fail
    refine (unhide HX3 _ (unhide HL).boxes).mono ?_
    rintro e w10 ⟨rfl, hb⟩
    replace HL := hide ((unhide HL).below hb)
    replace HW := hide (Below.step (unhide HW) hb)
    clear hb
    have hA := Below.alloc1 w10 (.cells #[.string ⟨#[67, 83, 81, 85, 51, 48, 53, 52, 51, 56, 51]⟩, .int .i64 10, .int .i64 0, .bool false, .int .i64 0, .int .i64 1] 34)
    have HOne : Hid (OwnV (w10.alloc (.cells #[.string ⟨#[67, 83, 81, 85, 51, 48, 53, 52, 51, 56, 51]⟩, .int .i64 10, .int .i64 0, .bool false, .int .i64 0, .int .i64 1] 34)) w10.heap.size (recCells 6 eBox [oneBox])) := ownV_alloc w10 #[.string ⟨#[67, 83, 81, 85, 51, 48, 53, 52, 51, 56, 51]⟩, .int .i64 10, .int .i64 0, .bool false, .int .i64 0, .int .i64 1] 34
    replace HL := hide ((unhide HL).below hA)
    replace HW := hide (Below.step (unhide HW) hA)
    have HR1 : Hid (RBox (w10.alloc (.cells #[.string ⟨#[67, 83, 81, 85, 51, 48, 53, 52, 51, 56, 51]⟩, .int .i64 10, .int .i64 0, .bool false, .int .i64 0, .int .i64 1] 34)) (.slice (some ⟨w10.heap.size, 0, none⟩) 1 1) [oneBox]) := OwnV.recsIn (cap := 1) (unhide HOne) (by decide) (by unfold maxLen; omega)
    clear hA HOne
    go_wp2_with fail
    generalize w10.alloc (.cells #[.string ⟨#[67, 83, 81, 85, 51, 48, 53, 52, 51, 56, 51]⟩, .int .i64 10, .int .i64 0, .bool false, .int .i64 0, .int .i64 1] 34) = W10 at *
    refine (unhide HX4 W10 (.slice (some ⟨w10.heap.size, 0, none⟩) 1 1) (unhide HR1)).mono ?_
    rintro e w11 ⟨rfl, hb⟩
    clear HR1
    replace HL := hide ((unhide HL).below hb)
    replace HW := hide (Below.step (unhide HW) hb)
    clear hb
    go_wp2_with fail
    refine (unhide HX5 _ (unhide HL).boxes).mono ?_
    rintro e w12 ⟨rfl, hb⟩
    replace HL := hide ((unhide HL).below hb)
    replace HW := hide (Below.step (unhide HW) hb)
    clear hb
    clear HX1 HX2 HX3 HX4 HX5 HA1 HA2 HL
    cases ok1 with
    | false =>
      go_wp2
      go_ret
      exact ⟨rfl, unhide HW⟩
    | true =>
      go_wp2
      go_ret
      exact ⟨rfl, unhide HW⟩
  · obtain ⟨k, ek⟩ : ∃ k, m = k + 1 := ⟨m - 1, by omega⟩
    have HTk := hide fun V hV => unhide HT V k (by omega) hV
    rw [unhide HTop k ek rfl] at HTk
    have qk : IntKind.i64.wrap ((m : Int) - 1) = (k : Int) := by rw [IntKind.wrap_i64]; omega
    have d0 : decide ((0 : Int) < (m : Int)) = true := by simp; omega
    have d0' : decide (0 < m) = true := by simp; omega
    have hkm : (k : Int) ≤ (m : Int) := by omega
    have hkc : (k : Int) ≤ (cap : Int) := by omega
    clear HTop HT hm0 ek
    go_wp2_with fail
    refine (unhide HTk _ (unhide HL).boxes).mono ?_
    rintro e w4 ⟨rfl, hb⟩
    replace HL := hide ((unhide HL).below hb)
    replace HW := hide (Below.step (unhide HW) hb)
    clear hb
    clear HTk
    obtain ⟨a, ha0, ha1, hA1⟩ := unhide HAT 1 (by omega)
    obtain ⟨b, hb0, hb1, hA2⟩ := unhide HAT 2 (by omega)
    have HA1 := hide fun V hV => hA1 V hV
    have HA2 := hide fun V hV => hA2 V hV
    clear hA1 hA2 HAT
    have EA := hide (lashB_in (L := L) (a := a % 60) (by omega) (by omega))
    have EB := hide (lashB_in (L := L) (a := a % 60 + b % 40) (by omega) (by omega))
    have EM := hide (lashC_mono (L := L) (a := a % 60) (b := a % 60 + b % 40) (by omega) (by omega) (by omega))
    have E1 := hide (lashB_in (L := L) (a := 1) (by omega) (by omega))
    have E0 := hide (lash_calm L)
    have HX1 := hide fun V (hV : RBox V (.slice (some ⟨g, 0, none⟩) m cap) L) => implLashes_any _ L (a % 60) V hV
    have HX2 := hide fun V (hV : RBox V (.slice (some ⟨g, 0, none⟩) m cap) L) => implLashes_any _ L (a % 60 + b % 40) V hV
    have HX3 := hide fun V (hV : RBox V (.slice (some ⟨g, 0, none⟩) m cap) L) => implLashes_any _ L 0 V hV
    have HX4 := hide fun V v (hV : RBox V v [oneBox]) => implLashes_any v [oneBox] 10 V hV
    have HX5 := hide fun V (hV : RBox V (.slice (some ⟨g, 0, none⟩) m cap) L) => specLashes_any _ L 1 V hV
    rw [unhide EA] at HX1
    rw [unhide EB] at HX2
    rw [unhide E0] at HX3
    rw [one_two] at HX4
    rw [unhide E1] at HX5
    generalize lashC L (a % 60) = la at *
    generalize lashC L (a % 60 + b % 40) = lb at *
    generalize lashC L 1 = l1 at *
    generalize lashB L 0 = s0 at *
    generalize lashB [oneBox] 10 = s1 at *
    generalize stk1 L = ok1 at *
    have EMl := unhide EM
    have qa : IntKind.i64.wrap (a % 60 + b % 40) = a % 60 + b % 40 := by rw [IntKind.wrap_i64]; omega
    go_wp2_with fail
    refine (unhide HA1 _ (unhide HW)).mono ?_
    rintro e w5 ⟨rfl, h9⟩
    have h9' := h9.symm
    subst h9'
    clear h9
    go_wp2_with fail
    refine (unhide HX1 _ (unhide HL).boxes).mono ?_
    rintro e w6 ⟨rfl, hb⟩
    replace HL := hide ((unhide HL).below hb)
    replace HW := hide (Below.step (unhide HW) hb)
    clear hb
    go_wp2_with fail
    refine (unhide HA1 _ (unhide HW)).mono ?_
    rintro e w7 ⟨rfl, h9⟩
    have h9' := h9.symm
    subst h9'
    clear h9
    go_wp2_with fail
    refine (unhide HA2 _ (unhide HW)).mono ?_
    rintro e w8 ⟨rfl, h9⟩
    have h9' := h9.symm
    subst h9'
    clear h9
    go_wp2_with fail
    refine (unhide HX2 _ (unhide HL).boxes).mono ?_
    rintro e w9 ⟨rfl, hb⟩
    replace HL := hide ((unhide HL).below hb)
    replace HW := hide (Below.step (unhide HW) hb)
    clear hb
    go_wp2_with fail
    refine (unhide HX3 _ (unhide HL).boxes).mono ?_
    rintro e w10 ⟨rfl, hb⟩
    replace HL := hide ((unhide HL).below hb)
    replace HW := hide (Below.step (unhide HW) hb)
    clear hb
    have hA := Below.alloc1 w10 (.cells #[.string ⟨#[67, 83, 81, 85, 51, 48, 53, 52, 51, 56, 51]⟩, .int .i64 10, .int .i64 0, .bool false, .int .i64 0, .int .i64 1] 34)
    have HOne : Hid (OwnV (w10.alloc (.cells #[.string ⟨#[67, 83, 81, 85, 51, 48, 53, 52, 51, 56, 51]⟩, .int .i64 10, .int .i64 0, .bool false, .int .i64 0, .int .i64 1] 34)) w10.heap.size (recCells 6 eBox [oneBox])) := ownV_alloc w10 #[.string ⟨#[67, 83, 81, 85, 51, 48, 53, 52, 51, 56, 51]⟩, .int .i64 10, .int .i64 0, .bool false, .int .i64 0, .int .i64 1] 34
    replace HL := hide ((unhide HL).below hA)
    replace HW := hide (Below.step (unhide HW) hA)
    have HR1 : Hid (RBox (w10.alloc (.cells #[.string ⟨#[67, 83, 81, 85, 51, 48, 53, 52, 51, 56, 51]⟩, .int .i64 10, .int .i64 0, .bool false, .int .i64 0, .int .i64 1] 34)) (.slice (some ⟨w10.heap.size, 0, none⟩) 1 1) [oneBox]) := OwnV.recsIn (cap := 1) (unhide HOne) (by decide) (by unfold maxLen; omega)
    clear hA HOne
    go_wp2_with fail
    generalize w10.alloc (.cells #[.string ⟨#[67, 83, 81, 85, 51, 48, 53, 52, 51, 56, 51]⟩, .int .i64 10, .int .i64 0, .bool false, .int .i64 0, .int .i64 1] 34) = W10 at *
    refine (unhide HX4 W10 (.slice (some ⟨w10.heap.size, 0, none⟩) 1 1) (unhide HR1)).mono ?_
    rintro e w11 ⟨rfl, hb⟩
    clear HR1
    replace HL := hide ((unhide HL).below hb)
    replace HW := hide (Below.step (unhide HW) hb)
    clear hb
    go_wp2_with fail
    refine (unhide HX5 _ (unhide HL).boxes).mono ?_
    rintro e w12 ⟨rfl, hb⟩
    replace HL := hide ((unhide HL).below hb)
    replace HW := hide (Below.step (unhide HW) hb)
    clear hb
    clear HX1 HX2 HX3 HX4 HX5 HA1 HA2 HL
    cases ok1 with
    | false =>
      go_wp2
      go_ret
      exact ⟨rfl, unhide HW⟩
    | true =>
      go_wp2
      go_ret
      exact ⟨rfl, unhide HW⟩

end Go.Proofs.Ytmnpeljgafmnpaa

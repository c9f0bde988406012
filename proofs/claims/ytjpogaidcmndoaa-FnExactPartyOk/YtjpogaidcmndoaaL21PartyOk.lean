/- FnExactPartyOk: at every argument the program's PartyOk answers as the specification's; the argument reads as before. Written by wip/mk21.py. -/
import Derived.Test.YtjpogaidcmndoaaPaW
import Derived.Test.YtjpogaidcmndoaaPbD
import Derived.Deep.RegionHeld3
namespace Go.Proofs.Ytjpogaidcmndoaa
open Go.RowKit

set_option maxRecDepth 1000000 in
set_option maxHeartbeats 6400000 in
theorem lawPartyOk_any (lv tv : Value) (L T : List ByteArray) (tk : Int) (w : World) (h : PtIn w lv tv L T) (htL : ∀ i, i < L.length → (L.getD i default).size ≤ maxLen) (htT : ∀ i, i < T.length → (T.getD i default).size ≤ maxLen) : Calls Try.prog 7 #[vParty lv tk tv] w fun e w' => e = .returned (.bool true) ∧ Below w.heap.size w w' := by
  have HV := hide h
  obtain ⟨h1, h2⟩ := h
  obtain ⟨ao, cap, rfl, -⟩ := h1
  obtain ⟨fo, fcap, rfl, -⟩ := h2
  have HTO := hide fun V (hV : Below w.heap.size w V) => toParty_any tk _ _ _ _ _ _ L T V ((unhide HV).1.below hV) ((unhide HV).2.below hV)
  have HSZ := hide fun V (hV : Below w.heap.size w V) l => szParty_any tk _ _ _ _ _ _ L T l V ((unhide HV).1.below hV) ((unhide HV).2.below hV) htL htT
  have HSC := hide fun V lv tv (r : PtIn V lv tv L T) => specPartyOk_any lv tv L tk T V r
  have HIC := hide fun V lv tv (r : PtIn V lv tv L T) => implPartyOk_any lv tv L tk T V r
  generalize ptB (L, tk, T) = R at *
  have h1 : (R != R) = false := by cases R <;> rfl
  have HO := hide (ownV_alloc w #[.slice ao L.length cap, .int .i64 tk, .slice fo T.length fcap] 44)
  have HW := hide (Below.alloc1 w (.cells #[.slice ao L.length cap, .int .i64 tk, .slice fo T.length fcap] 44))
  unfold vParty at HTO HSZ HSC HIC ⊢
  go_enter Try.func7, Try.ntmps7
  go_wp2_with fail
  refine (unhide HSZ _ (unhide HW) _ (by omega) (by omega)).mono ?_
  rintro e w1 ⟨r, rfl, hr0, hr1, hr2, hb⟩
  replace HW := hide (Below.step (unhide HW) hb)
  replace HO := hide ((unhide HO).step hb)
  have HR := hide hr2
  clear hb hr2
  by_cases hneg : r < 0
  · go_wp2
    go_ret
    exact ⟨rfl, unhide HW⟩
  obtain ⟨hsL, hsT⟩ := unhide HR (by omega)
  clear HR HSZ
  have a0 := (unhide HO).cell (i := 0) rfl
  have a1 := (unhide HO).cell (i := 1) rfl
  have a2 := (unhide HO).cell (i := 2) rfl
  go_wp2_with fail
  refine (unhide HTO _ (unhide HW) hsL hsT).mono ?_
  rintro e v1 ⟨g1, g2, rfl, hg, hgg, ho1, ho2, hb⟩
  replace HW := hide (Below.step (unhide HW) hb)
  replace HO := hide ((unhide HO).step hb)
  have HX1 := hide ho1
  have HX2 := hide ho2
  clear hb ho1 ho2 a0 a1 a2
  go_wp2_with fail
  refine (unhide HSC _ _ _ (OwnV.ptIn (unhide HX1) (unhide HX2) hsL hsT)).mono ?_
  rintro e v2 ⟨rfl, hb⟩
  replace HW := hide (Below.step (unhide HW) hb)
  replace HO := hide ((unhide HO).step hb)
  clear hb HX1 HX2 hg hgg
  have a0 := (unhide HO).cell (i := 0) rfl
  have a1 := (unhide HO).cell (i := 1) rfl
  have a2 := (unhide HO).cell (i := 2) rfl
  go_wp2_with fail
  refine (unhide HTO _ (unhide HW) hsL hsT).mono ?_
  rintro e v3 ⟨g1, g2, rfl, hg, hgg, ho1, ho2, hb⟩
  replace HW := hide (Below.step (unhide HW) hb)
  replace HO := hide ((unhide HO).step hb)
  have HX1 := hide ho1
  have HX2 := hide ho2
  clear hb ho1 ho2 a0 a1 a2
  have A := Below.alloc1 v3 (.cells #[.slice (some ⟨g1, 0, none⟩) L.length L.length, .int .i64 tk, .slice (some ⟨g2, 0, none⟩) T.length T.length] 47)
  have HB := hide (ownV_alloc v3 #[.slice (some ⟨g1, 0, none⟩) L.length L.length, .int .i64 tk, .slice (some ⟨g2, 0, none⟩) T.length T.length] 47)
  replace HW := hide (Below.step (unhide HW) A)
  replace HO := hide ((unhide HO).step A)
  replace HX1 := hide ((unhide HX1).step A)
  replace HX2 := hide ((unhide HX2).step A)
  go_upto_region 7 with (fail)
  obtain ⟨X, eX⟩ : ∃ X, X = v3.alloc (.cells #[.slice (some ⟨g1, 0, none⟩) L.length L.length, .int .i64 tk, .slice (some ⟨g2, 0, none⟩) T.length T.length] 47) := ⟨_, rfl⟩
  rw [← eX] at HB HW HO HX1 HX2 ⊢
  clear eX A
  obtain ⟨gx, egx⟩ : ∃ z, z = v3.heap.size := ⟨_, rfl⟩
  rw [← egx] at HB ⊢
  clear egx
  have b0 := (unhide HB).cell (i := 0) rfl
  have b1 := (unhide HB).cell (i := 1) rfl
  have b2 := (unhide HB).cell (i := 2) rfl
  go_wp2_with fail
  refine (unhide HIC _ _ _ (OwnV.ptIn (unhide HX1) (unhide HX2) hsL hsT)).mono ?_
  rintro e VE ⟨rfl, hb⟩
  replace HW := hide (Below.step (unhide HW) hb)
  replace HO := hide ((unhide HO).step hb)
  replace HX1 := hide ((unhide HX1).step hb)
  replace HX2 := hide ((unhide HX2).step hb)
  replace HB := hide ((unhide HB).step hb)
  clear hb b0 b1 b2
  have HXI := hide (OwnV.ptIn (unhide HX1) (unhide HX2) hsL hsT)
  have HEQ := hide fun V q1 q2 (h1 : PtIn V (.slice (some ⟨g1, 0, none⟩) L.length L.length) (.slice (some ⟨g2, 0, none⟩) T.length T.length) L T) (h2 : PtIn V (.slice q1 L.length L.length) (.slice q2 T.length T.length) L T) => eqParty_any tk _ _ _ _ _ _ _ _ _ _ _ _ L T V h1.1 h1.2 h2.1 h2.2
  unfold vParty at HEQ
  have a0 := (unhide HO).cell (i := 0) rfl
  have a1 := (unhide HO).cell (i := 1) rfl
  have a2 := (unhide HO).cell (i := 2) rfl
  have b0 := (unhide HB).cell (i := 0) rfl
  have b1 := (unhide HB).cell (i := 1) rfl
  have b2 := (unhide HB).cell (i := 2) rfl
  go_upto_region 10 with (fail)
  go_region_held3 (fun w' => w'.cell? ⟨w.heap.size, 0, none⟩ = some (.slice ao L.length cap) ∧ w'.cell? ⟨w.heap.size, 1, none⟩ = some (.int .i64 tk) ∧ w'.cell? ⟨w.heap.size, 2, none⟩ = some (.slice fo T.length fcap) ∧ w'.cell? ⟨gx, 0, none⟩ = some (.slice (some ⟨g1, 0, none⟩) L.length L.length) ∧ w'.cell? ⟨gx, 1, none⟩ = some (.int .i64 tk) ∧ w'.cell? ⟨gx, 2, none⟩ = some (.slice (some ⟨g2, 0, none⟩) T.length T.length)) (go_keep) (first
    | (go_at_call 24; refine (unhide HTO _ (by first | exact unhide HW | exact (unhide HW).drew) hsL hsT).mono ?_; rintro e wa ⟨q1, q2, rfl, hq0, hq1, ho1, ho2, hb⟩; (first | (have HB1 : Hid (Below VE.heap.size VE wa) := hb) | (have HB1 : Hid (Below VE.heap.size VE wa) := below_undrewA hb)); have taa0 := ((unhide HO).step (unhide HB1)).cell (i := 0) rfl; have taa1 := ((unhide HO).step (unhide HB1)).cell (i := 1) rfl; have taa2 := ((unhide HO).step (unhide HB1)).cell (i := 2) rfl; have tag0 := ((unhide HB).step (unhide HB1)).cell (i := 0) rfl; have tag1 := ((unhide HB).step (unhide HB1)).cell (i := 1) rfl; have tag2 := ((unhide HB).step (unhide HB1)).cell (i := 2) rfl; have HE1 := hide (unhide HEQ wa _ _ ((unhide HXI).below (unhide HB1)) (OwnV.ptIn ho1 ho2 hsL hsT)); clear hb ho1 ho2)
    | (go_at_call 26; refine (unhide HE1).mono ?_; rintro e wb ⟨rfl, hb⟩; (first | (have HB2 : Hid (Below wa.heap.size wa wb) := hb) | (have HB2 : Hid (Below wa.heap.size wa wb) := below_undrewA hb)); have tba0 := ((unhide HO).step (Below.step (unhide HB1) (unhide HB2))).cell (i := 0) rfl; have tba1 := ((unhide HO).step (Below.step (unhide HB1) (unhide HB2))).cell (i := 1) rfl; have tba2 := ((unhide HO).step (Below.step (unhide HB1) (unhide HB2))).cell (i := 2) rfl; have tbg0 := ((unhide HB).step (Below.step (unhide HB1) (unhide HB2))).cell (i := 0) rfl; have tbg1 := ((unhide HB).step (Below.step (unhide HB1) (unhide HB2))).cell (i := 1) rfl; have tbg2 := ((unhide HB).step (Below.step (unhide HB1) (unhide HB2))).cell (i := 2) rfl; clear hb))
  all_goals
    have HZ := hide (Below.step (unhide HW) (Below.step (unhide HB1) (unhide HB2)))
    go_wp2
    go_ret
    exact ⟨rfl, unhide HZ⟩

end Go.Proofs.Ytjpogaidcmndoaa

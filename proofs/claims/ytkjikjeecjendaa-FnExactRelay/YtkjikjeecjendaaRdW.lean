/- Calls that go round: a contract of the program's Relay. -/
import Derived.Test.YtkjikjeecjendaaRdV
import Derived.Test.YtkjikjeecjendaaRdS
import Derived.Test.YtkjikjeecjendaaRdI
namespace Go.Proofs.Ytkjikjeecjendaa
open Go.RowKit

theorem run_tail (g o n cap : Nat) (hc : n + 1 ≤ cap) (W : World) :
    (Instr.sliceAt 34 (.slice (some ⟨g, o, none⟩) (n + 1) cap) (some (.int .i64 1)) none none).run Try.prog W = .ok (.slice (some ⟨g, if cap = 1 then o else o + 1, none⟩) n (cap - 1)) W := by
  by_cases e : cap = 1
  · subst e
    have : n = 0 := by omega
    subst this
    simp [go_sem]
  · simp [go_sem, e, Addr.add]
    intro hh
    exfalso
    omega

theorem QRow.tail {B gp g o cap : Nat} {w : World} {x : Int} {xs : List Int} (h : QRow B gp w (.slice (some ⟨g, o, none⟩) (xs.length + 1) cap) (x :: xs)) : QRow B gp w (.slice (some ⟨g, if cap = 1 then o else o + 1, none⟩) xs.length (cap - 1)) xs := by
  obtain ⟨g', o', cap', e, h1, h2, h3, h4, h5, h6⟩ := h
  simp only [Value.slice.injEq, Option.some.injEq, Addr.mk.injEq, and_true] at e
  obtain ⟨⟨rfl, rfl⟩, -, rfl⟩ := e
  simp only [List.length_cons] at h3 h5
  refine ⟨g, _, cap - 1, rfl, h1, h2, by omega, by omega, fun i hi => ?_, fun i hi => ?_⟩
  · rw [if_neg (by omega), show o + 1 + i = o + (i + 1) by omega, h5 (i + 1) (by omega)]
    simp [List.getD]
  · rw [if_neg (by omega), show o + 1 + i = o + (i + 1) by omega]
    exact h6 (i + 1) (by omega)

def natL (Q : List Nat) : List Int := Q.map (fun v : Nat => (v : Int))
theorem natL_len (Q : List Nat) : (natL Q).length = Q.length := by simp [natL]

set_option maxRecDepth 10000 in
set_option maxHeartbeats 3200000 in
theorem implRelay_any (v : Value) (L : List Rad) (fr : Int) (w : World) (h : RadsIn w v L) :
    Calls Try.prog 24 #[v, .int .i64 fr] w fun e w' => ∃ a n cp, e = .returned (.tuple #[.slice a n cp, .bool (relayB L fr)]) ∧ OwnSl w.heap.size w' (.slice a n cp) (relayV L fr) ∧ Below w.heap.size w w' := by
  obtain ⟨i0, hinf, hzz⟩ := Option.map_eq_some_iff.1 Try.infoIntCp
  simp only [Prod.mk.injEq] at hzz
  obtain ⟨hz0, hz1, hz2⟩ := hzz
  have HV := hide h
  have HOKC := hide (implRadiosOk_any v L w h)
  obtain ⟨ao, cap, rfl, hlc, hm, hc⟩ := h
  unfold maxLen at hm
  have HC := hide hc
  clear hc
  have nil : ∀ W a, OwnSl w.heap.size W (.slice a 0 0) [] := fun W a => ⟨a, 0, rfl, Nat.le_refl _, Nat.zero_le _, fun h => absurd rfl h⟩
  cases hrb : radsB L with
  | false =>
    have EC := hide (relayV_no (L := L) (fr := fr) (by rw [hrb]; simp))
    have EB : Hid (relayB L fr = false) := by show _ = _; unfold relayB; rw [hrb]; rfl
    rw [hrb] at HOKC
    clear hrb
    go_enter Try.func24, Try.ntmps24
    go_wp2_with fail
    refine (unhide HOKC).mono ?_
    rintro e w1 ⟨rfl, hb⟩
    have HB := hide hb
    clear hb
    go_wp2
    refine bodyPost_ret (v := .tuple #[.slice none 0 0, .bool false]) (by simp [results, Try.results24, go_sem]) rfl ⟨_, 0, 0, by rw [unhide EB], by rw [unhide EC]; exact nil _ _, unhide HB⟩
  | true =>
  rw [hrb] at HOKC
  cases hat : inB fr 0 ((L.length : Int) - 1) with
  | false =>
    have EC := hide (relayV_no (L := L) (fr := fr) (by rw [hat]; simp))
    have EB : Hid (relayB L fr = false) := by show _ = _; unfold relayB; rw [hat]; simp
    clear hrb
    go_enter Try.func24, Try.ntmps24
    go_wp2_with fail
    refine (unhide HOKC).mono ?_
    rintro e w1 ⟨rfl, hb⟩
    have HB := hide hb
    clear hb
    go_wp2_with (go_at_call 55; refine (within_any _ _ _ _).mono ?_; rintro e w' ⟨rfl, h9⟩; have h8 := h9.symm; subst h8; clear h9)
    refine bodyPost_ret (v := .tuple #[.slice none 0 0, .bool false]) (by simp [results, Try.results24, go_sem]) rfl ⟨_, 0, 0, by rw [unhide EB], by rw [unhide EC]; exact nil _ _, unhide HB⟩
  | true =>
  have EB : Hid (relayB L fr = true) := by show _ = _; unfold relayB; rw [hrb, hat]; rfl
  obtain ⟨ha0, ha1⟩ := inB_true hat
  obtain ⟨f, hf⟩ : ∃ f : Nat, fr = (f : Int) := ⟨fr.toNat, by omega⟩
  subst hf
  have HY := hide fun P hP => relayV_eq (L := L) (f := f) (P := P) hrb hat hP
  have HOK := hide (of_pB (p := RadsOk L) hrb)
  have hn24 := (unhide HOK).2.1
  have hfl : f < L.length := by omega
  have hfl' : (f : Int) < L.length := by omega
  generalize relayV L (f : Int) = RV at *
  generalize relayB L (f : Int) = RB at *
  clear hrb nil
  go_enter Try.func24, Try.ntmps24
  go_wp2_with fail
  refine (unhide HOKC).mono ?_
  rintro e w1 ⟨rfl, hb⟩
  have HB := hide hb
  have hsz1 := hb.size
  clear hb HOKC
  have hA := Below.alloc1 w1 (.cells #[.int .i64 (-1)] 3)
  have HRP := hide (repeat1_any w1.heap.size 0 1 (-1) L.length (w1.alloc (.cells #[.int .i64 (-1)] 3)) (by simp) (by omega) (by omega))
  have HB1 := hide (Below.step (unhide HB) hA)
  have hszA : (w1.alloc (.cells #[.int .i64 (-1)] 3)).heap.size = w1.heap.size + 1 := by simp
  have HSA := hide hszA
  clear hA hszA
  go_wp2_with (go_at_call 55; refine (within_any _ _ _ _).mono ?_; rintro e w' ⟨rfl, h9⟩; have h8 := h9.symm; subst h8; clear h9)
  refine (unhide HRP).mono ?_
  rintro e w2 ⟨g, rfl, hg, hO, hb⟩
  rw [unhide HSA] at hg
  have hgw : w.heap.size ≤ g := by omega
  have HB2 := hide (Below.step (unhide HB1) hb)
  clear hb HRP HB1 HB HSA
  have hrl : (List.replicate L.length (-1 : Int)).length = L.length := by simp
  have hu := hO.cell (ints_get (List.replicate L.length (-1)) (i := f) (by omega))
  have hfz := hO.frozen f
  have hN := hO.set f (.int .i64 0) (by rw [ints_length]; omega)
  rw [ints_set] at hN
  have HW3 := hide ((unhide HB2).setCell (p := ⟨g, f, none⟩) hgw (.int .i64 0))
  have HS := hide (BfT.start L f hfl)
  have hng : negs ((List.replicate L.length (-1 : Int)).set f 0) + 1 = L.length := by
    rw [negs_put (by omega) (by simp [List.getD, hfl]) (by omega)]
    simp [negs, List.countP_replicate]
  have HBD : Hid (∀ v, v < L.length → ((List.replicate L.length (-1 : Int)).set f 0).getD v 0 + (negs ((List.replicate L.length (-1 : Int)).set f 0) : Int) ≤ L.length) := fun v hv => by
    have := (Lev.start L f hfl).up v hv
    have h2 : ((List.replicate L.length (-1 : Int)).set f 0).getD v 0 ≤ 0 := by
      rw [getD_set _ _ _ _ (by omega)]
      split
      · omega
      · simp [List.getD, hv]
    omega
  generalize (List.replicate L.length (-1 : Int)).set f 0 = P0 at *
  generalize (List.replicate L.length (-1 : Int)).getD f 0 = z at hu
  obtain ⟨w3, hw3⟩ : ∃ z, w2.setCell ⟨g, f, none⟩ (.int .i64 0) = z := ⟨_, rfl⟩
  rw [hw3] at hN HW3
  have hgl := hN.lt
  have hA3 := Below.alloc1 w3 (.cells #[.int .i64 (f : Int)] 3)
  have HQ0 := hide (qrow_new w.heap.size g w3 (f : Int) 3 (unhide HW3).size hgl)
  have HN4 := hide (hN.step hA3)
  have HW4 := hide (Below.step (unhide HW3) hA3)
  have HNG := hide hng
  clear hO hN hA3 hg hrl hng
  go_wp2
  clear hu hfz hw3
  go_loopg [7] (2 * negs P0 + 1) (fun gg tv wr => ∃ (P : List Int) (Q : List Nat), gg = 2 * negs P + Q.length ∧ (∃ a n cp, tv = .slice a n cp) ∧ Hid (QRow w.heap.size g wr tv (natL Q)) ∧ OwnV wr g (ints P) ∧ Below w.heap.size w wr ∧ Hid (BfT L f P Q) ∧ negs P + Q.length ≤ L.length ∧ Hid (∀ v, v < L.length → P.getD v 0 + (negs P : Int) ≤ L.length))
  case atStart => exact ⟨P0, [f], rfl, ⟨_, _, _, rfl⟩, HQ0, unhide HN4, unhide HW4, HS, by have := unhide HNG; simp; omega, HBD⟩
  case round =>
    obtain ⟨P, Q, rfl, ⟨ta, tn, tc, rfl⟩, HQ, hO, hW, HT, hnq, HBP⟩ := hrel
    clear HQ0 HN4 HW4 HS HNG HBD HW3 HB2
    have HW := hide hW
    have HO := hide hO
    have hgwr := hO.lt
    clear hW hO
    cases Q with
    | nil =>
      have EC := hide (unhide HY P (unhide HT).done)
      have hPl := (unhide HT).len
      obtain ⟨gq, oq, cq, eq, -⟩ := unhide HQ
      simp only [natL, List.map_nil, List.length_nil, Value.slice.injEq] at eq
      obtain ⟨rfl, rfl, rfl⟩ := eq
      go_wp2
      refine bodyPost_ret (v := .tuple #[.slice (some ⟨g, 0, none⟩) L.length L.length, .bool true]) (by simp [results, Try.results24, go_sem]) rfl ⟨_, _, _, by rw [unhide EB], ?_, unhide HW⟩
      rw [unhide EC]
      exact ⟨some ⟨g, 0, none⟩, L.length, by rw [hPl], by rw [hPl]; exact Nat.le_refl _, by unfold maxLen; omega, fun _ => ⟨g, rfl, hgw, unhide HO⟩⟩
    | cons t R =>
      have hQ := unhide HQ
      rw [show natL (t :: R) = (t : Int) :: natL R from rfl] at hQ
      obtain ⟨gq, oq, cq, eq, hq1, hq2, hq3, hq4, hq5, hq6⟩ := id hQ
      simp only [Value.slice.injEq, List.length_cons] at eq
      obtain ⟨rfl, rfl, rfl⟩ := eq
      have ct := hq5 0 (by simp)
      rw [Nat.add_zero] at ct
      simp only [List.getD, List.getElem?_cons_zero, Option.getD_some] at ct
      have hQT := hQ.tail
      rw [natL_len] at hQT ⊢
      rw [List.length_cons, natL_len] at hq3
      simp only [List.length_cons] at hnq
      obtain ⟨htl, htp⟩ := (unhide HT).pop.tl
      have HI := hide (unhide HT).pop
      have hpos : (0 : Int) < (R.length : Int) + 1 := by omega
      have hposn : 0 < R.length + 1 := by omega
      have htli : (t : Int) < L.length := by omega
      obtain ⟨b, o, na, nc, id', sl, H, m, rfl, hc0, hc1, hc2, hr, EX, EM, hm0⟩ := radAt (unhide HC) htl
      have E3 : Hid (rHe L t = H) := by show (L.getD t default).2.2 = H; rw [unhide EX]
      have g2 := wcell3 hc2 (unhide HW)
      have HR := hide hr
      have HNQ := hide hnq
      have ht1 : 1 ≤ tc := by omega
      clear hQ hq1 hq2 hq4 hq5 hq6 hc0 hc1 hr HQ HT hnq
      by_cases htc : tc = 1
      case' pos =>
        subst htc
        rw [if_pos rfl] at hQT
        have HQT := hide hQT
        clear hQT hq3
        go_wp2
      case' neg =>
        rw [if_neg htc] at hQT
        have HQT := hide hQT
        clear hQT
        go_wp2
      all_goals
        go_loopg [7, 45] m (fun gg tv kv wr2 => ∃ (k : Nat) (P' : List Int) (Q' : List Nat), k ≤ m ∧ gg = m - k ∧ kv = .int .i64 k ∧ (∃ a n cp, tv = .slice a n cp) ∧ Hid (QRow w.heap.size g wr2 tv (natL Q')) ∧ OwnV wr2 g (ints P') ∧ Below w.heap.size w wr2 ∧ Hid (BfI L f t P' Q') ∧ Hid (∀ q, q < k → ∀ v : Nat, H.getD q 0 = (v : Int) → 0 ≤ P'.getD v 0) ∧ Hid (2 * negs P' + Q'.length ≤ 2 * negs P + R.length) ∧ Hid (negs P' + Q'.length ≤ L.length) ∧ Hid (∀ v, v < L.length → P'.getD v 0 + (negs P' : Int) ≤ L.length))
        case atStart => exact ⟨0, P, R, Nat.zero_le _, rfl, rfl, ⟨_, _, _, rfl⟩, HQT, unhide HO, unhide HW, HI, fun q hq => by omega, Nat.le_refl _, by have := unhide HNQ; show _ ≤ _; omega, HBP⟩
        case round =>
          obtain ⟨k, P', Q', hk, rfl, rfl, ⟨a', n', c', rfl⟩, HQ', hO, hW, HI', HK, HM, HL', HBP'⟩ := hrel
          have hPl' := (unhide HI').len
          have ht0 := (unhide HI').tl.2
          have ht24 : P'.getD t 0 ≤ 24 := by have := unhide HBP' t htl; omega
          clear HQT HO HW HI ct g2 HBP
          have HW := hide hW
          have HO := hide hO
          have hoz := hO.frozen
          have hgwr' := hO.lt
          have ci := hO.cell (ints_get P' (i := t) (by omega))
          clear hW hO
          by_cases hkm : k < m
          case neg =>
            have hki : ¬ (k : Int) < m := by omega
            have HB2 := hide ((unhide HI').close (fun q hq v hv => by
              rw [unhide E3] at hq hv
              rw [unhide EM] at hq
              exact unhide HK q (by omega) v hv))
            generalize P'.getD t 0 = y at *
            go_wp2
            go_roundg (2 * negs P' + Q'.length)
            case measure => have := unhide HM; omega
            case rel => exact ⟨P', Q', rfl, ⟨_, _, _, rfl⟩, HQ', unhide HO, unhide HW, HB2, unhide HL', HBP'⟩
          have hki : (k : Int) < m := by omega
          obtain ⟨b', o', rfl, hcell⟩ := intAt (unhide HR) hkm
          have c0 := wcell3 hcell (unhide HW)
          have hHe : HeAt H t L.length k := by
            have := ((unhide HOK).2.2.1 t htl).2.2
            rw [unhide E3] at this
            exact this k (by rw [unhide EM]; exact hkm)
          obtain ⟨hx0, hx1, -, -⟩ := hHe
          obtain ⟨x, hx⟩ : ∃ x : Nat, H.getD k 0 = (x : Int) := ⟨(H.getD k 0).toNat, by omega⟩
          have HX := hide hx
          rw [hx] at c0 hx0 hx1
          have hxl : x < L.length := by omega
          have hE : Edge L t x := ⟨htl, hxl, k, by rw [unhide E3, unhide EM]; exact hkm, by rw [unhide E3]; exact hx⟩
          have cx := (unhide HO).cell (ints_get P' (i := x) (by omega))
          by_cases hneg : P'.getD x 0 < 0
          · have HP := hide ((unhide HI').put hE hneg)
            have hnp := negs_put (P := P') (j := x) (x := P'.getD t 0 + 1) (by omega) hneg (by omega)
            have HT24 := hide (unhide HBP' t htl)
            have HBQ : Hid (∀ v, v < L.length → (P'.set x (P'.getD t 0 + 1)).getD v 0 + (negs (P'.set x (P'.getD t 0 + 1)) : Int) ≤ L.length) := fun v hv => by
              have h1 := unhide HT24
              have h2 := unhide HBP' v hv
              rw [getD_set P' x _ v (by omega)]
              split <;> omega
            have HQ2 : Hid (∀ q, q < k + 1 → ∀ v : Nat, H.getD q 0 = (v : Int) → 0 ≤ (P'.set x (P'.getD t 0 + 1)).getD v 0) := fun q hq v hv => by
              rw [getD_set P' x _ v (by omega)]
              by_cases e : v = x
              · rw [if_pos e]; omega
              · rw [if_neg e]
                by_cases eq : q = k
                · exfalso; apply e; rw [eq, unhide HX] at hv; omega
                · exact unhide HK q (by omega) v hv
            have HM2 : Hid (2 * negs (P'.set x (P'.getD t 0 + 1)) + (Q' ++ [x]).length ≤ 2 * negs P + R.length) := by
              have := unhide HM
              show _ ≤ _
              rw [List.length_append, List.length_singleton]
              omega
            have HL2 : Hid (negs (P'.set x (P'.getD t 0 + 1)) + (Q' ++ [x]).length ≤ L.length) := by
              have := unhide HL'
              show _ ≤ _
              rw [List.length_append, List.length_singleton]
              omega
            have HN0 := (unhide HO).set x (.int .i64 (P'.getD t 0 + 1)) (by rw [ints_length]; omega)
            rw [ints_set] at HN0
            have hl5 : (natL Q').length ≤ 1000 := by have := unhide HL'; rw [natL_len]; omega
            have HB4 := (unhide HW).setCell (p := ⟨g, x, none⟩) hgw (.int .i64 (P'.getD t 0 + 1))
            have HQ4 := (unhide HQ').kept ((Kept.refl (fun b => b = g) wr).setCell (p := ⟨g, x, none⟩) rfl (.int .i64 (P'.getD t 0 + 1))) (fun b hb _ e => hb e)
            obtain ⟨w4, hw4⟩ : ∃ z, wr.setCell ⟨g, x, none⟩ (.int .i64 (P'.getD t 0 + 1)) = z := ⟨_, rfl⟩
            rw [hw4] at HN0 HB4 HQ4
            have hA := Below.alloc1 w4 (.cells #[.int .i64 (x : Int)] 3)
            have HN5 := hide (HN0.step hA)
            have HB5 := hide (Below.step HB4 hA)
            have HQ5 := hide (HQ4.below hA)
            have HS5 := hide (Below.step HB4 hA).size
            have HG5 := hide (HN0.step hA).lt
            have HL5 := hide hl5
            clear HN0 HB4 HQ4 hA hl5 hnp HT24
            obtain ⟨P2, hP2⟩ : ∃ z, P'.set x (P'.getD t 0 + 1) = z := ⟨_, rfl⟩
            rw [hP2] at HP HBQ HQ2 HM2 HL2 HN5
            clear hP2 HK HM HL' HBP' HI' HQ'
            generalize P'.getD x 0 = z' at *
            generalize P'.getD t 0 = y at *
            clear hcell hx hE
            go_wp2_with (at_builtin; refine wpList_push_q rfl _ _ 34 rfl 3 i0 _ Try.underlying34 hinf hz0 hz1 hz2 rfl w.heap.size g _ (natL Q') (unhide HQ5) rfl (unhide HS5) (unhide HG5) (unhide HL5) ⟨w4.heap.size, 0, none⟩ (x : Int) rfl (by simp [Addr.add]) ?_; intro g6 o6 cap6 w6 hq6 hk6; have HQ6 := hide hq6; have HK6 := hide hk6; clear hq6 hk6)
            go_roundg (m - (k + 1))
            case measure => omega
            case rel => exact ⟨k + 1, P2, Q' ++ [x], by omega, rfl, by go_num, ⟨_, _, _, rfl⟩, by rw [show natL (Q' ++ [x]) = natL Q' ++ [(x : Int)] from by simp [natL]]; exact HQ6, (unhide HN5).kept (unhide HK6) (fun h => h.2 rfl), (unhide HB5).trans ((unhide HK6).below (unhide HS5) (fun b h => h.1)), HP, HQ2, HM2, HL2, HBQ⟩
          · have HQ2 : Hid (∀ q, q < k + 1 → ∀ v : Nat, H.getD q 0 = (v : Int) → 0 ≤ P'.getD v 0) := fun q hq v hv => by
              by_cases eq : q = k
              · rw [eq, unhide HX] at hv
                have : v = x := by omega
                rw [this]; omega
              · exact unhide HK q (by omega) v hv
            generalize P'.getD x 0 = z' at cx hneg
            generalize P'.getD t 0 = y at ci ht0 ht24
            clear hcell hx hE HK
            go_wp2
            go_roundg (m - (k + 1))
            case measure => omega
            case rel => exact ⟨k + 1, P', Q', by omega, rfl, by go_num, ⟨_, _, _, rfl⟩, HQ', unhide HO, unhide HW, HI', HQ2, HM, HL', HBP'⟩

end Go.Proofs.Ytkjikjeecjendaa

/- Radios: contracts of the specification's Clashes, Choose. -/
import Derived.Test.YtkjikjeecjendaaRdI
import Derived.Test.YtkjikjeecjendaaRdF
namespace Go.Proofs.Ytkjikjeecjendaa
open Go.RowKit

/-- One of the first k that the radio hears has its slot. -/
noncomputable def hitB (L : List Rad) (i k : Nat) : Bool := pB (∃ q, q < k ∧ slK L i q = rSl L i)
theorem hitB_zero (L : List Rad) (i : Nat) : hitB L i 0 = false := pB_false fun ⟨q, h, _⟩ => by omega
theorem hitB_true {L : List Rad} {i k : Nat} (h : hitB L i k = true) : hitB L i (k + 1) = true := by
  obtain ⟨q, h1, h2⟩ := of_pB h
  exact pB_true ⟨q, by omega, h2⟩
theorem hitB_false {L : List Rad} {i k : Nat} (h : hitB L i k = false) : hitB L i (k + 1) = (slK L i k == rSl L i) := by
  cases hq : (slK L i k == rSl L i) with
  | true => exact pB_true ⟨k, by omega, by simpa using hq⟩
  | false =>
    refine pB_false fun ⟨q, h1, h2⟩ => ?_
    by_cases e : q = k
    · subst e; simp [h2] at hq
    · exact not_pB h ⟨q, by omega, h2⟩
theorem hitB_all (L : List Rad) (i : Nat) : hitB L i (rHe L i).length = pB (Heard L i (rSl L i)) := rfl

set_option maxRecDepth 10000 in
set_option maxHeartbeats 3200000 in
theorem specClashes_any (v : Value) (L : List Rad) (w : World) (h : RadsIn w v L) :
    Calls Try.prog 40 #[v] w fun e w' => ∃ a n cp, e = .returned (.slice a n cp) ∧ OwnSl w.heap.size w' (.slice a n cp) (clashL L) ∧ Below w.heap.size w w' := by
  obtain ⟨i0, hinf, hzz⟩ := Option.map_eq_some_iff.1 Try.infoIntCp
  simp only [Prod.mk.injEq] at hzz
  obtain ⟨hz0, hz1, hz2⟩ := hzz
  have HV := hide h
  have HOKC := hide fun W (hW : Below w.heap.size w W) => specRadiosOk_any v L W (h.below hW)
  obtain ⟨ao, cap, rfl, hl, hm, hc⟩ := h
  unfold maxLen at hm
  have HC := hide hc
  clear hc
  have HM0 := hide (World.ownsRow_made (base := w.heap.size) (e := 3) (size := 1) w #[] 0 (Nat.le_refl _) (Nat.zero_le _) (by simp))
  have HB0 := hide (Below.alloc1 w (.cells #[] 3))
  cases hrb : radsB L with
  | false =>
    have EC := hide (clashL_no hrb)
    rw [hrb] at HOKC
    clear hrb
    go_enter Try.func40, Try.ntmps40
    go_wp2
    go_loopg [3, 4] 0 (fun _ ov iv wr => iv = .int .i64 0 ∧ ov = .slice (some ⟨w.heap.size, 0, none⟩) 0 0 ∧ Below w.heap.size w wr)
    case atStart => exact ⟨rfl, rfl, unhide HB0⟩
    case round =>
      obtain ⟨rfl, rfl, hW⟩ := hrel
      have HW := hide hW
      clear hW
      by_cases hpos : (0 : Int) < L.length
      · go_wp2_with fail
        refine (unhide HOKC _ (unhide HW)).mono ?_
        rintro e w1 ⟨rfl, hb⟩
        have HB := hide (Below.step (unhide HW) hb)
        clear hb
        go_wp2
        go_ret
        exact ⟨_, 0, 0, rfl, by rw [unhide EC]; exact ⟨_, 0, rfl, Nat.le_refl _, Nat.zero_le _, fun h => absurd rfl h⟩, unhide HB⟩
      · have hd : decide ((0 : Int) < L.length) = false := by rw [decide_eq_false_iff_not]; exact hpos
        have hd2 : decide (0 < L.length) = false := by rw [decide_eq_false_iff_not]; omega
        clear hpos
        go_wp2
        go_ret
        exact ⟨_, 0, 0, rfl, by rw [unhide EC]; exact ⟨_, 0, rfl, Nat.le_refl _, Nat.zero_le _, fun h => absurd rfl h⟩, unhide HW⟩
  | true =>
  have EC := hide (clashL_yes hrb)
  have HOK := hide (of_pB (p := RadsOk L) hrb)
  have hn24 := (unhide HOK).2.1
  rw [hrb] at HOKC
  clear hrb
  go_enter Try.func40, Try.ntmps40
  go_wp2
  go_loopg [3, 4] L.length (fun gg ov iv wr => ∃ i : Nat, i ≤ L.length ∧ gg = L.length - i ∧ iv = .int .i64 i ∧ Below w.heap.size w wr ∧ (∃ a n cp, ov = .slice a n cp) ∧ Hid (wr.ownsRow w.heap.size 3 1 ov (clashU L i).length (ints (clashU L i))))
  case atStart => exact ⟨0, Nat.zero_le _, rfl, rfl, unhide HB0, ⟨_, _, _, rfl⟩, HM0⟩
  case round =>
    obtain ⟨i, hi, rfl, rfl, hW, ⟨a, n, cp, rfl⟩, HR⟩ := hrel
    clear HB0 HM0
    by_cases hin : i < L.length
    · obtain ⟨b, o, na, nc, id, sl, H, m, rfl, hc0, hc1, hc2, hr, EX, EM, hm0⟩ := radAt (unhide HC) hin
      have hii : (i : Int) < L.length := by omega
      have ESL : Hid (rSl L i = sl) := by show (L.getD i default).2.1 = sl; rw [unhide EX]
      have E3 : Hid (rHe L i = H) := by show (L.getD i default).2.2 = H; rw [unhide EX]
      have HW := hide hW
      have EY := hide fun h => clashU_yes (L := L) (i := i) h
      have EN := hide fun h => clashU_no (L := L) (i := i) h
      have EH : Hid (pB (Heard L i (rSl L i)) = hitB L i m) := by show _ = _; rw [← hitB_all, unhide E3, unhide EM]
      rw [unhide EH] at EY EN
      have hfl := clashU_len L i
      have HR0 := hide hr
      clear hW hr
      go_wp2_with fail
      refine (unhide HOKC _ (unhide HW)).mono ?_
      rintro e w2 ⟨rfl, hb⟩
      replace HW := hide (Below.step (unhide HW) hb)
      have HR1 := hide (ownsRow_below (unhide HR) hb)
      clear hb HR
      have g1 := wcell3 hc1 (unhide HW)
      have g2 := wcell3 hc2 (unhide HW)
      go_wp2
      go_loopg [5, 6] m (fun g hv kv wr2 => (∃ q, wr2 = w2.drewN q) ∧ ∃ k : Nat, k ≤ m ∧ g = m - k ∧ kv = .int .i64 k ∧ hv = .bool (hitB L i k))
      case atStart => exact ⟨⟨0, rfl⟩, 0, Nat.zero_le _, rfl, rfl, by rw [hitB_zero]⟩
      case round =>
        obtain ⟨⟨q, hq⟩, k, hk, rfl, rfl, rfl⟩ := hrel
        have hbd := below_drewN (Below.refl w2.heap.size w2) q
        rw [← hq] at hbd
        have HBD := hide (Below.step (unhide HW) hbd)
        have HRD := hide (ownsRow_below (unhide HR1) hbd)
        have HQ := hide hq
        clear g1 g2 hbd hq
        have g1 := wcell3 hc1 (unhide HBD)
        have g2 := wcell3 hc2 (unhide HBD)
        by_cases hkm : k < m
        · obtain ⟨b', o', rfl, hcell⟩ := intAt (unhide HR0) hkm
          have c0 := wcell3 hcell (unhide HBD)
          have hkm' : (k : Int) < m := by omega
          cases hh : hitB L i k with
          | true =>
            have EHN := hide (hitB_true hh)
            clear hh hcell
            go_wp2
            go_quiet (fail)
            go_wp2
            go_roundg (m - (k + 1))
            case measure => omega
            case rel => exact ⟨⟨_, by rw [unhide HQ]; exact World.drewN_drewN _ _ _⟩, k + 1, by omega, rfl, by go_num, by rw [unhide EHN]⟩
          | false =>
            have EHN := hide (hitB_false hh)
            have hHe : HeAt H i L.length k := by
              have := ((unhide HOK).2.2.1 i hin).2.2
              rw [unhide E3] at this
              exact this k (by rw [unhide EM]; exact hkm)
            obtain ⟨hx0, hx1, -, -⟩ := hHe
            have ES : slK L i k = rSl L (H.getD k 0).toNat := by unfold slK; rw [unhide E3]
            obtain ⟨x, hx⟩ : ∃ x : Nat, H.getD k 0 = (x : Int) := ⟨(H.getD k 0).toNat, by omega⟩
            rw [hx] at c0 hx0 hx1 ES
            rw [Int.toNat_natCast] at ES
            have hxl : x < L.length := by omega
            obtain ⟨b2, o2, na2, nc2, id2, sl2, H2, m2, e2, hd0, hd1, hd2, hr2, EX2, EM2, hm2⟩ := radAt (unhide HC) hxl
            simp only [Option.some.injEq, Addr.mk.injEq, and_true] at e2
            obtain ⟨rfl, rfl⟩ := e2
            have q1 := wcell3 hd1 (unhide HBD)
            rw [ES, show rSl L x = sl2 from by show (L.getD x default).2.1 = sl2; rw [unhide EX2], unhide ESL] at EHN
            clear hh hcell hd0 hd1 hd2 hr2 hx ES
            generalize hbb : (sl2 == sl) = bb at EHN
            go_wp2
            go_quiet (fail)
            go_wp2
            go_roundg (m - (k + 1))
            case measure => omega
            case rel => exact ⟨⟨_, by rw [unhide HQ]; exact World.drewN_drewN _ _ _⟩, k + 1, by omega, rfl, by go_num, by rw [unhide EHN]⟩
        · have hkk : k = m := by omega
          rw [hkk]
          have hsz := (unhide HBD).size
          clear hkk hkm
          generalize hitB L i m = B at *
          cases B with
          | false =>
            have EF := hide (unhide EN rfl)
            clear EN EY
            go_wp2
            go_roundg (L.length - (i + 1))
            case measure => omega
            case rel => exact ⟨i + 1, by omega, rfl, by go_num, unhide HBD, ⟨_, _, _, rfl⟩, by rw [unhide EF]; exact HRD⟩
          | true =>
            have EF := hide (unhide EY rfl)
            clear EN EY
            have HR2 := hide (ownsRow_below (unhide HRD) (Below.alloc1 wr (.cells #[.int .i64 i] 3)))
            go_wp2_with (at_builtin; refine wpList_append_lies _ rfl _ _ 34 rfl w.heap.size 3 i0 _ 1 8 Try.underlying34 hinf hz0 hz1 hz2 rfl (by decide) _ (clashU L i).length _ rfl (unhide HR2) ⟨wr.heap.size, 0, none⟩ 1 1 [.int .i64 i] rfl rfl (cell_one_new _ _ _) (by simp [Value.oneCell']) (by omega) (by unfold maxLen; omega) (by omega) (by simp; omega) _ rfl ?_; intro g4 cap4 wa hown hgrow hat hlt4; have HWa := hide ((Below.step (unhide HBD) (Below.alloc1 wr (.cells #[.int .i64 i] 3))).grown hgrow (by simp; omega) (fun g hg => ((unhide HRD).lt g hg).1)); have HOW := hide hown; clear hown hgrow hat)
            go_roundg (L.length - (i + 1))
            case measure => omega
            case rel => exact ⟨i + 1, by omega, rfl, by go_num, unhide HWa, ⟨_, _, _, rfl⟩, by rw [unhide EF, List.length_append]; exact hide (by have := unhide HOW; simpa [ints] using this)⟩
    · have hss : i = L.length := by omega
      subst hss
      have HW := hide hW
      clear hW
      go_wp2
      go_ret
      obtain ⟨a', n', cp', e', hsl⟩ := own_told1 (unhide HR) rfl
      simp only [Value.slice.injEq] at e'
      obtain ⟨rfl, rfl, rfl⟩ := e'
      exact ⟨_, _, _, rfl, by rw [unhide EC]; exact hsl, unhide HW⟩

end Go.Proofs.Ytkjikjeecjendaa

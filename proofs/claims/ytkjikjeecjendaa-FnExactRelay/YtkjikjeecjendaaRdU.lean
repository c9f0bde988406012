/- Calls that go round: a contract of the specification's Relay. -/
import Derived.Test.YtkjikjeecjendaaRdT
import Derived.Test.YtkjikjeecjendaaRdS
namespace Go.Proofs.Ytkjikjeecjendaa
open Go.RowKit

theorem rep_set (n d : Nat) (h : d < n) : (upTo (-1) n d).set d (-1) = upTo (-1) n (d + 1) := by
  apply List.ext_getElem
  · simp [upTo]; omega
  · intro i h1 h2
    rw [List.getElem_set]
    by_cases e : d = i
    · subst e
      rw [if_pos rfl]
      simp [upTo]
    · rw [if_neg e]
      simp only [upTo, List.getElem_append, List.length_replicate, List.getElem_replicate]
      split <;> split <;> (first | rfl | omega)

set_option maxRecDepth 10000 in
set_option maxHeartbeats 3200000 in
theorem specRelay_any (v : Value) (L : List Rad) (fr : Int) (w : World) (h : RadsIn w v L) :
    Calls Try.prog 49 #[v, .int .i64 fr] w fun e w' => ∃ a n cp, e = .returned (.tuple #[.slice a n cp, .bool (relayB L fr)]) ∧ OwnSl w.heap.size w' (.slice a n cp) (relayV L fr) ∧ Below w.heap.size w w' := by
  have HV := hide h
  have HOKC := hide (specRadiosOk_any v L w h)
  obtain ⟨ao, cap, rfl, hlc, hm, hc⟩ := h
  unfold maxLen at hm
  have HC := hide hc
  clear hc
  have nil : ∀ W a, OwnSl w.heap.size W (.slice a 0 0) [] := fun W a => ⟨a, 0, rfl, Nat.le_refl _, Nat.zero_le _, fun h => absurd rfl h⟩
  cases hrb : radsB L with
  | false =>
    have EC := hide (relayV_no (L := L) (fr := fr) (by rw [hrb]; simp))
    have EB : Hid (relayB L fr = false) := by show _ = _; unfold relayB; rw [hrb]; rfl
    rw [hrb] at HOKC
    clear hrb
    go_enter Try.func49, Try.ntmps49
    go_wp2_with fail
    refine (unhide HOKC).mono ?_
    rintro e w1 ⟨rfl, hb⟩
    have HB := hide hb
    clear hb
    go_wp2
    refine bodyPost_ret (v := .tuple #[.slice (some ⟨w1.heap.size, 0, none⟩) 0 0, .bool false]) (by simp [results, Try.results49, go_sem]) rfl ⟨_, 0, 0, by rw [unhide EB], by rw [unhide EC]; exact nil _ _, Below.step (unhide HB) (Below.alloc1 _ _)⟩
  | true =>
  rw [hrb] at HOKC
  cases hat : inB fr 0 ((L.length : Int) - 1) with
  | false =>
    have EC := hide (relayV_no (L := L) (fr := fr) (by rw [hat]; simp))
    have EB : Hid (relayB L fr = false) := by show _ = _; unfold relayB; rw [hat]; simp
    clear hrb
    go_enter Try.func49, Try.ntmps49
    go_wp2_with fail
    refine (unhide HOKC).mono ?_
    rintro e w1 ⟨rfl, hb⟩
    have HB := hide hb
    clear hb
    go_wp2_with (go_at_call 54; refine (l1In_any _ _ _ _).mono ?_; rintro e w' ⟨rfl, h9⟩; have h8 := h9.symm; subst h8; clear h9)
    refine bodyPost_ret (v := .tuple #[.slice (some ⟨w1.heap.size, 0, none⟩) 0 0, .bool false]) (by simp [results, Try.results49, go_sem]) rfl ⟨_, 0, 0, by rw [unhide EB], by rw [unhide EC]; exact nil _ _, Below.step (unhide HB) (Below.alloc1 _ _)⟩
  | true =>
  have EB : Hid (relayB L fr = true) := by show _ = _; unfold relayB; rw [hrb, hat]; rfl
  obtain ⟨ha0, ha1⟩ := inB_true hat
  obtain ⟨f, hf⟩ : ∃ f : Nat, fr = (f : Int) := ⟨fr.toNat, by omega⟩
  subst hf
  have HY := hide fun P hP => relayV_eq (L := L) (f := f) (P := P) hrb hat hP
  have HOK := hide (of_pB (p := RadsOk L) hrb)
  have hn24 := (unhide HOK).2.1
  have hfl : f < L.length := by omega
  have hfl' : (f : Int) < L.length := by omega
  generalize relayV L (f : Int) = RV at *
  generalize relayB L (f : Int) = RB at *
  have HAT := hide hat
  clear hrb nil
  go_enter Try.func49, Try.ntmps49
  go_wp2_with fail
  refine (unhide HOKC).mono ?_
  rintro e w1 ⟨rfl, hb⟩
  have HB := hide hb
  have hsz1 := hb.size
  clear hb HOKC
  have hmk := run_make_row' (P := Try.prog) 34 3 (.int .i64 0) 8 Try.underlying34 Try.infoIntCp rfl .i64 .i64 L.length (by omega) (by omega) w1
  have hO := ownV_alloc w1 (madeCells #[Value.int .i64 0] L.length) 3
  rw [madeInts, ← upTo_zero (-1) L.length] at hO
  have HO := hide hO
  have HB1 := hide (Below.step (unhide HB) (Below.alloc1 w1 (.cells (madeCells #[Value.int .i64 0] L.length) 3)))
  obtain ⟨g, eg⟩ : ∃ g, g = w1.heap.size := ⟨_, rfl⟩
  rw [← eg] at HO hmk
  have hgw : w.heap.size ≤ g := by omega
  generalize w1.alloc (.cells (madeCells #[Value.int .i64 0] L.length) 3) = V at HO HB1 hmk
  clear hO eg HB
  go_wp2_with (go_at_call 54; refine (l1In_any _ _ _ _).mono ?_; rintro e w' ⟨rfl, h9⟩; have h8 := h9.symm; subst h8; clear h9)
  clear hmk
  go_loopg [7] L.length (fun gg dv wr => ∃ d : Nat, d ≤ L.length ∧ gg = L.length - d ∧ dv = .int .i64 d ∧ Below w.heap.size w wr ∧ OwnV wr g (ints (upTo (-1) L.length d)))
  case atStart => exact ⟨0, Nat.zero_le _, rfl, rfl, unhide HB1, unhide HO⟩
  case round =>
    obtain ⟨d, hd, rfl, rfl, hW, hO⟩ := hrel
    clear HB1 HO
    by_cases hdn : d < L.length
    · have hul := upTo_len (-1) (n := L.length) (d := d) hd
      have hu := hO.cell (ints_get (upTo (-1) L.length d) (i := d) (by rw [hul]; exact hdn))
      have hfz := hO.frozen d
      have hN := hO.set d (.int .i64 (-1)) (by rw [ints_length, hul]; exact hdn)
      rw [ints_set, rep_set L.length d hdn] at hN
      have HN := hide hN
      have HW := hide (hW.setCell (p := ⟨g, d, none⟩) hgw (.int .i64 (-1)))
      have hdi : (d : Int) < L.length := by omega
      generalize (upTo (-1) L.length d).getD d 0 = z at hu
      clear hW hO hN hul
      go_wp2
      go_roundg (L.length - (d + 1))
      case measure => omega
      case rel => exact ⟨d + 1, by omega, rfl, by go_num, unhide HW, unhide HN⟩
    · have hdd : d = L.length := by omega
      rw [hdd, upTo_all] at hO
      have hu := hO.cell (ints_get (List.replicate L.length (-1)) (i := f) (by simpa using hfl))
      have hfz := hO.frozen f
      have hN := hO.set f (.int .i64 0) (by rw [ints_length]; simpa using hfl)
      rw [ints_set] at hN
      have HN := hide hN
      have HW := hide (hW.setCell (p := ⟨g, f, none⟩) hgw (.int .i64 0))
      have HS := hide (Lev.start L f hfl)
      have hdi : ¬ (d : Int) < L.length := by omega
      generalize (List.replicate L.length (-1 : Int)).getD f 0 = z at hu
      generalize (List.replicate L.length (-1 : Int)).set f 0 = P0 at HN HS
      clear hW hO hN hdd
      go_wp2
      go_loopg [8] L.length (fun gg dv wr => ∃ (d : Nat) (P : List Int), d ≤ L.length ∧ gg = L.length - d ∧ dv = .int .i64 d ∧ Below w.heap.size w wr ∧ OwnV wr g (ints P) ∧ Hid (Lev L f d 0 P))
      case atStart => exact ⟨0, P0, Nat.zero_le _, rfl, rfl, unhide HW, unhide HN, HS⟩
      case round =>
        obtain ⟨d, P, hd, rfl, rfl, hW, hO, HLV⟩ := hrel
        clear HW HN HS hu hfz hdi
        by_cases hdn : d < L.length
        case neg =>
          have hdd : d = L.length := by omega
          rw [hdd] at HLV
          have EC := hide (unhide HY P (unhide HLV).done)
          have hPl := (unhide HLV).len
          have HW := hide hW
          have HO := hide hO
          have hdi : ¬ (d : Int) < L.length := by omega
          clear hW hO hdd
          go_wp2
          refine bodyPost_ret (v := .tuple #[.slice (some ⟨g, 0, none⟩) L.length L.length, .bool true]) (by simp [results, Try.results49, go_sem]) rfl ⟨_, _, _, by rw [unhide EB], ?_, unhide HW⟩
          rw [unhide EC]
          exact ⟨some ⟨g, 0, none⟩, L.length, by rw [hPl], by rw [hPl]; exact Nat.le_refl _, by unfold maxLen; omega, fun _ => ⟨g, rfl, hgw, unhide HO⟩⟩
        have hdi : (d : Int) < L.length := by omega
        have HW := hide hW
        have HO := hide hO
        clear hW hO
        go_wp2
        go_loopg [9] L.length (fun gg iv wr => ∃ (i : Nat) (P : List Int), i ≤ L.length ∧ gg = L.length - i ∧ iv = .int .i64 i ∧ Below w.heap.size w wr ∧ OwnV wr g (ints P) ∧ Hid (Lev L f d i P))
        case atStart => exact ⟨0, P, Nat.zero_le _, rfl, rfl, unhide HW, unhide HO, HLV⟩
        case round =>
          obtain ⟨i, P, hi, rfl, rfl, hW, hO, HLI⟩ := hrel
          clear HW HO HLV
          by_cases hin : i < L.length
          case neg =>
            have hii : i = L.length := by omega
            rw [hii] at HLI
            have HL2 := hide (unhide HLI).level
            have HW := hide hW
            have HO := hide hO
            have hdi2 : ¬ (i : Int) < L.length := by omega
            clear hW hO hii
            go_wp2
            go_roundg (L.length - (d + 1))
            case measure => omega
            case rel => exact ⟨d + 1, P, by omega, rfl, by go_num, unhide HW, unhide HO, HL2⟩
          obtain ⟨b, o, na, nc, id, sl, H, m, rfl, hc0, hc1, hc2, hr, EX, EM, hm0⟩ := radAt (unhide HC) hin
          have E3 : Hid (rHe L i = H) := by show (L.getD i default).2.2 = H; rw [unhide EX]
          have HR := hide hr
          have hii : (i : Int) < L.length := by omega
          have HW := hide hW
          have HO := hide hO
          clear hc0 hc1 hr hW hO
          go_wp2
          go_loopg [10] m (fun gg kv wr => ∃ (k : Nat) (P : List Int), k ≤ m ∧ gg = m - k ∧ kv = .int .i64 k ∧ Below w.heap.size w wr ∧ OwnV wr g (ints P) ∧ Hid (Lev L f d i P) ∧ Hid (∀ q, q < k → ∀ v : Nat, H.getD q 0 = (v : Int) → 0 ≤ P.getD v 0))
          case atStart => exact ⟨0, P, Nat.zero_le _, rfl, rfl, unhide HW, unhide HO, HLI, fun q hq => by omega⟩
          case round =>
            obtain ⟨k, P, hk, rfl, rfl, hW, hO, HLK, HQK⟩ := hrel
            clear HW HO HLI
            have hPl := (unhide HLK).len
            have g2 := wcell3 hc2 hW
            have ci := hO.cell (ints_get P (i := i) (by omega))
            have HW := hide hW
            have HO := hide hO
            have hoz := hO.frozen
            clear hW hO
            by_cases hkm : k < m
            case neg =>
              have hki : ¬ (k : Int) < m := by omega
              have HL2 := hide ((unhide HLK).next (fun _ q hq v hv => by
                rw [unhide E3] at hq hv
                rw [unhide EM] at hq
                exact unhide HQK q (by omega) v hv))
              generalize P.getD i 0 = y at ci
              go_wp2
              go_roundg (L.length - (i + 1))
              case measure => omega
              case rel => exact ⟨i + 1, P, by omega, rfl, by go_num, unhide HW, unhide HO, HL2⟩
            have hki : (k : Int) < m := by omega
            by_cases hyd : P.getD i 0 = (d : Int)
            case neg =>
              have hye : (P.getD i 0 == (d : Int)) = false := by simpa using hyd
              have HL2 := hide ((unhide HLK).next (fun h => absurd h hyd))
              generalize P.getD i 0 = y at ci hye
              clear hyd
              go_wp2
              go_roundg (L.length - (i + 1))
              case measure => omega
              case rel => exact ⟨i + 1, P, by omega, rfl, by go_num, unhide HW, unhide HO, HL2⟩
            have HYD := hide hyd
            rw [hyd] at ci
            clear hyd
            obtain ⟨b', o', rfl, hcell⟩ := intAt (unhide HR) hkm
            have c0 := wcell3 hcell (unhide HW)
            have hHe : HeAt H i L.length k := by
              have := ((unhide HOK).2.2.1 i hin).2.2
              rw [unhide E3] at this
              exact this k (by rw [unhide EM]; exact hkm)
            obtain ⟨hx0, hx1, -, -⟩ := hHe
            obtain ⟨x, hx⟩ : ∃ x : Nat, H.getD k 0 = (x : Int) := ⟨(H.getD k 0).toNat, by omega⟩
            have HX := hide hx
            rw [hx] at c0 hx0 hx1
            have hxl : x < L.length := by omega
            have hE : Edge L i x := ⟨hin, hxl, k, by rw [unhide E3, unhide EM]; exact hkm, by rw [unhide E3]; exact hx⟩
            have cx := (unhide HO).cell (ints_get P (i := x) (by omega))
            by_cases hneg : P.getD x 0 < 0
            · have HP := hide ((unhide HLK).put hE (unhide HYD) hneg)
              have HQ2 : Hid (∀ q, q < k + 1 → ∀ v : Nat, H.getD q 0 = (v : Int) → 0 ≤ (P.set x ((d : Int) + 1)).getD v 0) := fun q hq v hv => by
                rw [getD_set P x _ v (by omega)]
                by_cases e : v = x
                · rw [if_pos e]; omega
                · rw [if_neg e]
                  by_cases eq : q = k
                  · exfalso; apply e; rw [eq, unhide HX] at hv; omega
                  · exact unhide HQK q (by omega) v hv
              have hN := (unhide HO).set x (.int .i64 ((d : Int) + 1)) (by rw [ints_length]; omega)
              rw [ints_set] at hN
              have HN := hide hN
              have HW2 := hide ((unhide HW).setCell (p := ⟨g, x, none⟩) hgw (.int .i64 ((d : Int) + 1)))
              generalize P.getD x 0 = z at cx hneg
              clear hN hcell hx hE HLK HQK
              go_wp2
              go_roundg (m - (k + 1))
              case measure => omega
              case rel => exact ⟨k + 1, _, by omega, rfl, by go_num, unhide HW2, unhide HN, HP, HQ2⟩
            · have HQ2 : Hid (∀ q, q < k + 1 → ∀ v : Nat, H.getD q 0 = (v : Int) → 0 ≤ P.getD v 0) := fun q hq v hv => by
                by_cases eq : q = k
                · rw [eq, unhide HX] at hv
                  have : v = x := by omega
                  rw [this]; omega
                · exact unhide HQK q (by omega) v hv
              have hneg' : ¬ P.getD x 0 < 0 := hneg
              generalize P.getD x 0 = z at cx hneg
              clear hcell hx hE HQK hneg'
              go_wp2
              go_roundg (m - (k + 1))
              case measure => omega
              case rel => exact ⟨k + 1, P, by omega, rfl, by go_num, unhide HW, unhide HO, HLK, HQ2⟩

end Go.Proofs.Ytkjikjeecjendaa

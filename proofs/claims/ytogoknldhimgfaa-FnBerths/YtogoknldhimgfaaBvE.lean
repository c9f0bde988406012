/- slices.SortStableFunc at up to forty numbers. Written by wip/mkly.py. -/
import Derived.Test.YtogoknldhimgfaaBvD
namespace Go.Proofs.Ytogoknldhimgfaa
open Go.RowKit

/-- The first t blocks of twenty are in order. -/
structure Bls (r D : List Int) (n t : Nat) (E : List Int) : Prop where
  seg : Seg 0 n D E
  srt : ∀ u, u < t → Srt r E (20 * u) (min (20 * u + 20) n)
  cl : ∀ p, p < n → ∃ q, q < n ∧ q / 20 = p / 20 ∧ ix E p = ix D q
  rest : ∀ p, 20 * t ≤ p → ix E p = ix D p
theorem Bls.start (r D : List Int) (n : Nat) : Bls r D n 0 D := ⟨Seg.refl _ _ _, fun u hu => by omega, fun p hp => ⟨p, hp, rfl, rfl⟩, fun _ _ => rfl⟩
theorem Bls.next {r D E E2 : List Int} {n t e : Nat} (h : Bls r D n t E) (ht : 20 * t ≤ e) (he : e = min (20 * t + 20) n) (hm : Mgd r E (20 * t) e E2) : Bls r D n (t + 1) E2 := by
  refine ⟨h.seg.trans (hm.1.mono (by omega) (by omega)), fun u hu => ?_, fun p hp => ?_, fun p hp => ?_⟩
  · by_cases e1 : u = t
    · subst e1; rw [← he]; exact hm.2
    · intro i j i1 ij j1
      rw [hm.1.out i (by omega), hm.1.out j (by omega)]
      exact h.srt u (by omega) i j i1 ij j1
  · by_cases e1 : 20 * t ≤ p ∧ p < e
    · obtain ⟨j, j1, j2, ej⟩ := hm.1.inn p e1.1 e1.2
      exact ⟨j, by omega, by omega, by rw [ej, h.rest j j1]⟩
    · rw [hm.1.out p (by omega)]; exact h.cl p hp
  · rw [hm.1.out p (by omega)]; exact h.rest p (by omega)
theorem Bls.asc {r D E : List Int} {n t e : Nat} (h : Bls r D n t E) (hD : ∀ p q, p < q → q < n → ix D p < ix D q) (he : e ≤ n) : ∀ p q, 20 * t ≤ p → p < q → q < e → ix E p < ix E q := fun p q h1 h2 h3 => by
  rw [h.rest p h1, h.rest q (by omega)]; exact hD p q h2 (by omega)
theorem Bls.mrg {r D E : List Int} {n t : Nat} (h : Bls r D n t E) (hl : D.length = n) (hD : ∀ p q, p < q → q < n → ix D p < ix D q) (ht : 2 ≤ t) (hn : n ≤ 40) (hn2 : 20 < n) : Mrg r E 0 20 n := by
  refine ⟨by rw [h.seg.len, hl]; exact Nat.le_refl _, ?_, ?_, fun p q _ h2 h3 h4 => ?_⟩
  · have := h.srt 0 (by omega); rwa [show min (20 * 0 + 20) n = 20 by omega, show 20 * 0 = 0 by omega] at this
  · have := h.srt 1 (by omega); rwa [show min (20 * 1 + 20) n = n by omega, show 20 * 1 = 20 by omega] at this
  · obtain ⟨p', a1, a2, a3⟩ := h.cl p (by omega)
    obtain ⟨q', b1, b2, b3⟩ := h.cl q h4
    rw [a3, b3]
    exact hD p' q' (by omega) b1
theorem Bls.small {r D E : List Int} {n t : Nat} (h : Bls r D n t E) (ht : 1 ≤ t) (hn2 : n ≤ 20) : Mgd r D 0 n E :=
  ⟨h.seg, by have := h.srt 0 (by omega); rwa [show min (20 * 0 + 20) n = n by omega, show 20 * 0 = 0 by omega] at this⟩
theorem mgd_trans {r D E E2 : List Int} {n : Nat} (h : Seg 0 n D E) (h2 : Mgd r E 0 n E2) : Mgd r D 0 n E2 := ⟨h.trans h2.1, h2.2⟩

set_option maxRecDepth 10000 in
set_option maxHeartbeats 8000000 in
theorem stable_any (g gb gr cb n cap : Nat) (r D : List Int) (w : World) (hk : Keys w g gb gr cb r) (h : OwnV w g (ints D)) (hl : D.length = n) (hn1 : n ≤ 40) (hc : n ≤ cap) (hcm : cap ≤ 1048576) (hv : Vals r D) (hD : ∀ p q, p < q → q < n → ix D p < ix D q) :
    Calls Try.prog 89 #[.slice (some ⟨g, 0, none⟩) n cap, .int .i64 (n : Int), cmpF gb] w (RowAns g w (Mgd r D 0 n)) := by
  have HKY := hide hk
  have HO := hide h
  have HL := hide hl
  have HV := hide hv
  have HD := hide hD
  have HI := hide fun (a b : Nat) E V (hK : Kept (fun b => b = g) w V) (hE : OwnV V g (ints E)) (hb : a ≤ b) (hbn : b ≤ n) (hs : Seg 0 n D E) (ha : ∀ p q, a ≤ p → p < q → q < b → ix E p < ix E q) => insertion_any g gb gr cb n cap a b r E V (hk.kept hK) hE (hs.len.trans hl) hb hbn (by omega) hc hcm (hv.seg hs) ha
  have HM := hide fun (m b : Nat) E V (hK : Kept (fun b => b = g) w V) (hE : OwnV V g (ints E)) (h0 : 0 < m) (hb : m < b) (hbn : b ≤ n) (hs : Seg 0 n D E) (ha : Mrg r E 0 m b) => symMerge_any g gb gr cb n cap 0 m b r E V (hk.kept hK) hE (hs.len.trans hl) h0 hb hbn (by omega) hc hcm (hv.seg hs) ha
  clear hk h hl hv hD
  unfold cmpF at HI HM ⊢
  go_enter Try.func89, Try.ntmps89
  go_wp2
  go_loopg [7, 8] n (fun gg av bv wr => ∃ (t a b : Nat) (E : List Int), gg = n - 20 * t ∧ av = .int .i64 (a : Int) ∧ bv = .int .i64 (b : Int) ∧ Hid (a = 20 * t ∧ b = 20 * t + 20) ∧ 20 * t ≤ n ∧ Hid (OwnV wr g (ints E)) ∧ Hid (Bls r D n t E) ∧ Hid (Kept (fun b => b = g) w wr))
  case atStart => exact ⟨0, 0, 20, D, by omega, rfl, rfl, ⟨rfl, rfl⟩, by omega, HO, Bls.start _ _ _, Kept.refl _ _⟩
  case round =>
    clear HO
    obtain ⟨t, a, b, E, rfl, rfl, rfl, HAB, ht, HO, HB, HK⟩ := hrel
    obtain ⟨ea, eb⟩ := unhide HAB
    by_cases hbn : b ≤ n
    · have hbI : (b : Int) ≤ n := by omega
      have wb : IntKind.i64.wrap ((b : Int) + 20) = ((b + 20 : Nat) : Int) := by rw [IntKind.wrap_i64]; omega
      have HB1 : Hid (∀ E2, Mgd r E a b E2 → Bls r D n (t + 1) E2) := fun E2 hm => (unhide HB).next (e := b) (by omega) (by omega) (by rw [← ea]; exact hm)
      have HAS := hide ((unhide HB).asc (unhide HD) hbn)
      rw [← ea] at HAS
      have hab : a ≤ b := by omega
      have hA : b = 20 * (t + 1) := by omega
      have HA := hide hA
      have EA := hide ea
      have EB := hide eb
      clear hA ea eb HAB
      go_wp2_with fail
      refine (unhide HI a b E _ (unhide HK) (unhide HO) hab hbn (unhide HB).seg (unhide HAS)).mono ?_
      rintro e w2 ⟨rfl, ⟨E2, ho, hm⟩, hk2⟩
      have HO2 := hide ho
      have HB2 := hide (unhide HB1 E2 hm)
      have HK2 := hide ((unhide HK).trans hk2)
      clear ho hm hk2 HO HB HK HB1 HAS
      go_wp2
      go_roundg (n - 20 * (t + 1))
      case measure => have := unhide HA; omega
      case rel => exact ⟨t + 1, b, b + 20, E2, rfl, rfl, rfl, by have := unhide HA; exact ⟨this, by omega⟩, by have := unhide HA; omega, HO2, HB2, HK2⟩
    · have hbI : ¬ (b : Int) ≤ n := by omega
      have HB1 : Hid (∀ E2, Mgd r E a n E2 → Bls r D n (t + 1) E2) := fun E2 hm => (unhide HB).next (e := n) (by omega) (by omega) (by rw [← ea]; exact hm)
      have HAS := hide ((unhide HB).asc (unhide HD) (Nat.le_refl n))
      rw [← ea] at HAS
      have han : a ≤ n := by omega
      have ht1 : n < 20 * (t + 1) := by omega
      clear ea eb HAB
      go_wp2_with fail
      refine (unhide HI a n E _ (unhide HK) (unhide HO) han (Nat.le_refl _) (unhide HB).seg (unhide HAS)).mono ?_
      rintro e w2 ⟨rfl, ⟨E2, ho, hm⟩, hk2⟩
      have HO2 := hide ho
      have HB2 := hide (unhide HB1 E2 hm)
      have HK2 := hide ((unhide HK).trans hk2)
      clear ho hm hk2 HO HB HK HB1 HAS
      generalize hwo : w2 = wo at *
      clear hwo
      go_wp2
      go_loopg [6] 1 (fun gg sv wr => ∃ (z s : Nat) (E : List Int), gg = 1 - z ∧ sv = .int .i64 (s : Int) ∧ Hid (s = 20 * (z + 1)) ∧ z ≤ 1 ∧ Hid (OwnV wr g (ints E)) ∧ Hid (if z = 0 then Bls r D n (t + 1) E else Mgd r D 0 n E) ∧ Hid (Kept (fun b => b = g) w wr))
      case atStart => exact ⟨0, 20, E2, rfl, rfl, rfl, by omega, HO2, HB2, HK2⟩
      case round =>
        clear HO2 HB2 HK2
        obtain ⟨z, s, E, rfl, rfl, HES, hz, HO, HB, HK⟩ := hrel
        have es := unhide HES
        by_cases hsn : s < n
        · have hsI : (s : Int) < n := by omega
          obtain rfl : z = 0 := by omega
          have HB1 : Hid (Bls r D n (t + 1) E) := by have h9 := unhide HB; rw [if_pos rfl] at h9; exact h9
          have HMR := hide ((unhide HB1).mrg (unhide HL) (unhide HD) (by omega) hn1 (by omega))
          have HSG := hide (unhide HB1).seg
          obtain rfl : s = 20 := by omega
          clear HB HB1 es HES
          have dn : decide ((20 : Int) < (n : Int)) = true := by simp; omega
          have hsI2 : (20 : Int) < (n : Int) := by omega
          generalize hwo2 : wr = wo2 at *
          clear hwo2
          go_wp2
          go_loopg [7, 8] 1 (fun gg av bv wr => ∃ (y a2 b2 : Nat) (E2 : List Int), gg = 1 - y ∧ av = .int .i64 (a2 : Int) ∧ bv = .int .i64 (b2 : Int) ∧ Hid (a2 = 40 * y ∧ b2 = 40 * y + 40) ∧ y ≤ 1 ∧ Hid (y = 1 → n = 40) ∧ Hid (OwnV wr g (ints E2)) ∧ Hid (if y = 0 then Seg 0 n D E2 ∧ Mrg r E2 0 20 n else Mgd r D 0 n E2) ∧ Hid (Kept (fun b => b = g) w wr))
          case atStart => exact ⟨0, 0, 40, E, rfl, rfl, rfl, ⟨rfl, rfl⟩, by omega, fun h => by omega, HO, ⟨unhide HSG, unhide HMR⟩, HK⟩
          case round =>
            clear HO HK HMR HSG
            obtain ⟨y, a2, b2, E2, rfl, rfl, rfl, HAB2, hy, HY40, HO, HB, HK⟩ := hrel
            obtain ⟨ea2, eb2⟩ := unhide HAB2
            have hy40 := unhide HY40
            clear HY40 HAB2
            by_cases hb2 : b2 ≤ n
            · obtain rfl : y = 0 := by omega
              obtain rfl : a2 = 0 := by omega
              have hb2I : (b2 : Int) ≤ n := by omega
              have HP : Hid (Seg 0 n D E2 ∧ Mrg r E2 0 20 n) := by have h9 := unhide HB; rw [if_pos rfl] at h9; exact h9
              have hbn2 : b2 = n := by omega
              have hn40 : n = 40 := by omega
              have HBN := hide hbn2
              have HMB : Hid (Mrg r E2 0 20 b2) := by have h9 := (unhide HP).2; rw [← hbn2] at h9; exact h9
              have h20b : 20 < b2 := by omega
              have wb2 : IntKind.i64.wrap ((b2 : Int) + 40) = ((80 : Nat) : Int) := by rw [IntKind.wrap_i64]; omega
              have H40 := hide hn40
              clear HB ea2 eb2 hn40 hy40 hbn2
              go_wp2_with fail
              refine (unhide HM 20 b2 E2 _ (unhide HK) (unhide HO) (by omega) h20b hb2 (unhide HP).1 (unhide HMB)).mono ?_
              rintro e w3 ⟨rfl, ⟨E3, ho, hm⟩, hk2⟩
              rw [unhide HBN] at hm
              have HO2 := hide ho
              have HB2 := hide (mgd_trans (unhide HP).1 hm)
              have HK2 := hide ((unhide HK).trans hk2)
              clear ho hm hk2 HO HP HK
              go_wp2
              go_roundg (1 - 1)
              case measure => omega
              case rel => exact ⟨1, b2, 80, E3, rfl, rfl, rfl, ⟨by have := unhide H40; have := unhide HBN; omega, rfl⟩, Nat.le_refl _, fun _ => unhide H40, HO2, HB2, HK2⟩
            · have hb2I : ¬ (b2 : Int) ≤ n := by omega
              by_cases hy1 : y = 0
              · subst hy1
                obtain rfl : a2 = 0 := by omega
                have HP : Hid (Seg 0 n D E2 ∧ Mrg r E2 0 20 n) := by have h9 := unhide HB; rw [if_pos rfl] at h9; exact h9
                have h20 : (20 : Int) < n := by omega
                have h20n : 20 < n := by omega
                clear HB ea2 eb2 hy40
                go_wp2_with fail
                refine (unhide HM 20 n E2 _ (unhide HK) (unhide HO) (by omega) h20n (Nat.le_refl _) (unhide HP).1 (unhide HP).2).mono ?_
                rintro e w3 ⟨rfl, ⟨E3, ho, hm⟩, hk2⟩
                have HO2 := hide ho
                have HB2 := hide (mgd_trans (unhide HP).1 hm)
                have HK2 := hide ((unhide HK).trans hk2)
                clear ho hm hk2 HO HP HK
                go_wp2
                go_roundg (1 - 1)
                case measure => omega
                case rel => exact ⟨1, 40, E3, rfl, rfl, rfl, Nat.le_refl _, HO2, HB2, HK2⟩
              · obtain rfl : y = 1 := by omega
                obtain rfl : a2 = 40 := by omega
                have HP : Hid (Mgd r D 0 n E2) := by have h9 := unhide HB; rw [if_neg (by omega)] at h9; exact h9
                have h60 : ¬ (60 : Int) < n := by omega
                clear HB ea2 eb2 hy40
                go_wp2
                go_roundg (1 - 1)
                case measure => omega
                case rel => exact ⟨1, 40, E2, rfl, rfl, rfl, Nat.le_refl _, HO, HP, HK⟩
        · have hsI : ¬ (s : Int) < n := by omega
          have HR : Hid (Mgd r D 0 n E) := by
            have hB := unhide HB
            by_cases hz0 : z = 0
            · rw [if_pos hz0] at hB; exact hB.small (by omega) (by omega)
            · rw [if_neg hz0] at hB; exact hB
          clear HB es HES
          go_wp2
          go_end0
          exact rowAns_mk (unhide HO) (unhide HR) (unhide HK)

set_option maxRecDepth 10000 in
set_option maxHeartbeats 2000000 in
theorem sortStable_any (g gb gr cb n cap : Nat) (r D : List Int) (w : World) (hk : Keys w g gb gr cb r) (h : OwnV w g (ints D)) (hl : D.length = n) (hn1 : n ≤ 40) (hc : n ≤ cap) (hcm : cap ≤ 1048576) (hv : Vals r D) (hD : ∀ p q, p < q → q < n → ix D p < ix D q) :
    Calls Try.prog 82 #[.slice (some ⟨g, 0, none⟩) n cap, cmpF gb] w (RowAns g w (Mgd r D 0 n)) := by
  have HS := hide (stable_any g gb gr cb n cap r D w hk h hl hn1 hc hcm hv hD)
  clear hk h hl hv hD
  unfold cmpF at HS ⊢
  go_enter Try.func82, Try.ntmps82
  go_wp2_with fail
  refine (unhide HS).mono ?_
  rintro e w2 ⟨rfl, ⟨E2, ho, hm⟩, hk2⟩
  have HO := hide ho
  have HM := hide hm
  have HK := hide hk2
  clear ho hm hk2 HS
  go_wp2
  go_end0
  exact rowAns_mk (unhide HO) (unhide HM) (unhide HK)


end Go.Proofs.Ytogoknldhimgfaa

/- The contract of eachStretch. Written by wip/mkly.py. -/
import Derived.Test.YticminoejikdfaaLyT
namespace Go.Proofs.Yticminoejikdfaa
open Go.RowKit

/-- What the tally keeps to while the minutes up to d are counted, the ones ahead of p having been. -/
structure Bq (q0 : I4) (b d p : Int) (q : I4) : Prop where
  a0 : 0 ≤ q.1
  u0 : 0 ≤ q.2.1
  au : q.1 + q.2.1 ≤ 100000
  o0 : 0 ≤ q.2.2.1
  o1 : q.2.2.1 + (d - p) ≤ q0.2.2.1 + (d - b)
theorem Bq.one {q0 q : I4} {b d p x y : Int} (h : Bq q0 b d p q) (h1 : p ≤ x) (h2 : x ≤ y) : Bq q0 b d x (adF p x q) ∧ Bq q0 b d y (adO x y (adF p x q)) := by
  obtain ⟨k1, k2, k3, k4, k5⟩ := adF_keep (f := p) (t := x) (q := q) h1 h.a0
  obtain ⟨j1, j2, j3, j4⟩ := adO_keep (f := x) (t := y) (q := adF p x q) h2
  obtain ⟨b1, b2, b3, b4, b5⟩ := h
  exact ⟨⟨k1, by omega, by omega, by omega, by omega⟩, ⟨by omega, by omega, by omega, by omega, by omega⟩⟩
theorem stret_drop {L : List I2} {d p : Int} {q : I4} {k : Nat} (hk : k < L.length) {x y : Int} (hx : L.getD k default = (x, y)) :
    stret d p q (L.drop k) = stret d (cutA y p d) (adO (cutA x p d) (cutA y p d) (adF p (cutA x p d) q)) (L.drop (k + 1)) := by
  have e : L[k] = (x, y) := by rw [← hx]; simp [List.getD, hk]
  rw [List.drop_eq_getElem_cons hk, stret, e]
theorem stret_last {L : List I2} {d p : Int} {q : I4} : stret d p q (L.drop L.length) = adF p d q := by rw [List.drop_eq_nil_of_le (Nat.le_refl _)]; rfl
theorem adF_bd {q0 q : I4} {b d p : Int} (h : Bq q0 b d p q) : (0 ≤ q.1 ∧ q.1 ≤ 100000) ∧ (0 ≤ q.2.1 ∧ q.2.1 ≤ 100000) := by obtain ⟨b1, b2, b3, b4, b5⟩ := h; omega

set_option maxRecDepth 10000 in
set_option maxHeartbeats 8000000 in
theorem eachStretch_any (gt : Nat) (b d : Int) (v : Value) (L : List I2) (q : I4) (w : World) (hv : ∀ W, Kept (fun b => b = gt) w W → R2 W v L) (hS : Sp L) (h : OwnV w gt (cTl q)) (hb : 0 ≤ b) (hbd : b ≤ d) (hd : d ≤ 100000000)
    (ha : 0 ≤ q.1) (hu : 0 ≤ q.2.1) (hau : q.1 + q.2.1 ≤ 100000) (ho : 0 ≤ q.2.2.1) (ho1 : q.2.2.1 + (d - b) ≤ 100000000000) :
    Calls Try.prog 45 #[.int .i64 b, .int .i64 d, v, addF gt] w fun e w' => e = .returned (.tuple #[]) ∧ OwnV w' gt (cTl (stret d b q L)) ∧ Kept (fun b => b = gt) w w' := by
  have HV := hide hv
  have HS := hide hS
  have HO := hide h
  have HQ : Hid (Bq q b d b q) := ⟨ha, hu, hau, ho, Int.le_refl _⟩
  have HOV := hide ho1
  have hn := hS.1
  obtain ⟨ao, cap, rfl, hl, hm, -⟩ := hv w (Kept.refl _ _)
  unfold maxLen at hm
  clear hv hS h ha hu hau ho ho1
  unfold addF
  go_enter Try.func45, Try.ntmps45
  go_wp2
  go_loopg [8, 16] L.length (fun g pv i wr => Hid (Kept (fun b => b = gt) w wr) ∧ ∃ (k : Nat) (p : Int) (q1 : I4), k ≤ L.length ∧ g = L.length - k ∧ i = .int .i64 k ∧ pv = .int .i64 p ∧ b ≤ p ∧ p ≤ d ∧ Hid (Bq q b d p q1) ∧ Hid (OwnV wr gt (cTl q1)) ∧ Hid (stret d p q1 (L.drop k) = stret d b q L))
  case atStart => exact ⟨Kept.refl _ _, 0, b, q, Nat.zero_le _, rfl, rfl, rfl, Int.le_refl _, hbd, HQ, HO, rfl⟩
  case round =>
    clear HO HQ
    obtain ⟨HK, k, p, q1, hk, rfl, rfl, rfl, hbp, hpd, HQ, HO, HE⟩ := hrel
    by_cases hkn : k < L.length
    · obtain ⟨ao', cap', ee, -, -, hc⟩ := unhide HV wr (unhide HK)
      simp only [Value.slice.injEq, true_and] at ee
      obtain ⟨rfl, rfl⟩ := ee
      obtain ⟨b1, o, x, y, rfl, g0, g1, EX⟩ := rec2At hc hkn
      have hki : (k : Int) < L.length := by omega
      obtain ⟨hx0, hxy, hy1, -⟩ := (unhide HS).2 k hkn
      unfold fr at hx0 hxy
      unfold tw at hxy hy1
      rw [unhide EX] at hx0 hxy hy1
      dsimp only at hx0 hxy hy1
      have HN := hide ((stret_drop (d := d) (p := p) (q := q1) hkn (unhide EX)).symm.trans (unhide HE))
      have HK1 := hide ((unhide HK).trans (kept_of_below (Below.alloc1 wr (.cells #[.int .i64 x, .int .i64 y] 39))))
      have HO1 := hide ((unhide HO).step (Below.alloc1 wr (.cells #[.int .i64 x, .int .i64 y] 39)))
      have hgt := (unhide HO).lt
      clear hc EX HE HK HO
      have hdp : ¬ d < p := by omega
      by_cases h1 : x < p
      · by_cases h2 : y < p
        · skip
          have ex : cutA x p d = p := by unfold cutA; omega
          have ey : cutA y p d = p := by unfold cutA; omega
          rw [ex, ey] at HN
          clear ex ey
          have HB := hide ((unhide HQ).one (x := p) (y := p) (by omega) (by omega))
          go_wp2_with fail
          refine (tallyaddF_any gt p p q1 _ (unhide HO1) (adF_bd (unhide HQ)).1 (adF_bd (unhide HQ)).2 ⟨(unhide HQ).o0, by have h1 := (unhide HQ).o1; have h2 := unhide HOV; omega⟩ (by omega) (by omega) (by omega)).mono ?_
          rintro e w2 ⟨rfl, ho, hk2⟩
          replace HO1 := hide ho
          replace HK1 := hide ((unhide HK1).trans (hk2.mono fun _ _ h => h))
          clear ho hk2
          go_wp2_with fail
          refine (tallyaddO_any gt p p (adF p p q1) _ (unhide HO1) (adF_bd (unhide HB).1).1 (adF_bd (unhide HB).1).2 ⟨(unhide HB).1.o0, by have h1 := (unhide HB).1.o1; have h2 := unhide HOV; omega⟩ (by omega) (by omega) (by omega)).mono ?_
          rintro e w3 ⟨rfl, ho, hk2⟩
          replace HO1 := hide ho
          replace HK1 := hide ((unhide HK1).trans (hk2.mono fun _ _ h => h))
          clear ho hk2
          go_wp2
          go_roundg (L.length - (k + 1))
          case measure => omega
          case rel => exact ⟨unhide HK1, k + 1, p, _, by omega, rfl, by go_num, rfl, by omega, by omega, (unhide HB).2, HO1, HN⟩
        · by_cases h3 : d < y
          · skip
            have ex : cutA x p d = p := by unfold cutA; omega
            have ey : cutA y p d = d := by unfold cutA; omega
            rw [ex, ey] at HN
            clear ex ey
            have HB := hide ((unhide HQ).one (x := p) (y := d) (by omega) (by omega))
            go_wp2_with fail
            refine (tallyaddF_any gt p p q1 _ (unhide HO1) (adF_bd (unhide HQ)).1 (adF_bd (unhide HQ)).2 ⟨(unhide HQ).o0, by have h1 := (unhide HQ).o1; have h2 := unhide HOV; omega⟩ (by omega) (by omega) (by omega)).mono ?_
            rintro e w2 ⟨rfl, ho, hk2⟩
            replace HO1 := hide ho
            replace HK1 := hide ((unhide HK1).trans (hk2.mono fun _ _ h => h))
            clear ho hk2
            go_wp2_with fail
            refine (tallyaddO_any gt p d (adF p p q1) _ (unhide HO1) (adF_bd (unhide HB).1).1 (adF_bd (unhide HB).1).2 ⟨(unhide HB).1.o0, by have h1 := (unhide HB).1.o1; have h2 := unhide HOV; omega⟩ (by omega) (by omega) (by omega)).mono ?_
            rintro e w3 ⟨rfl, ho, hk2⟩
            replace HO1 := hide ho
            replace HK1 := hide ((unhide HK1).trans (hk2.mono fun _ _ h => h))
            clear ho hk2
            go_wp2
            go_roundg (L.length - (k + 1))
            case measure => omega
            case rel => exact ⟨unhide HK1, k + 1, d, _, by omega, rfl, by go_num, rfl, by omega, by omega, (unhide HB).2, HO1, HN⟩
          · skip
            have ex : cutA x p d = p := by unfold cutA; omega
            have ey : cutA y p d = y := by unfold cutA; omega
            rw [ex, ey] at HN
            clear ex ey
            have HB := hide ((unhide HQ).one (x := p) (y := y) (by omega) (by omega))
            go_wp2_with fail
            refine (tallyaddF_any gt p p q1 _ (unhide HO1) (adF_bd (unhide HQ)).1 (adF_bd (unhide HQ)).2 ⟨(unhide HQ).o0, by have h1 := (unhide HQ).o1; have h2 := unhide HOV; omega⟩ (by omega) (by omega) (by omega)).mono ?_
            rintro e w2 ⟨rfl, ho, hk2⟩
            replace HO1 := hide ho
            replace HK1 := hide ((unhide HK1).trans (hk2.mono fun _ _ h => h))
            clear ho hk2
            go_wp2_with fail
            refine (tallyaddO_any gt p y (adF p p q1) _ (unhide HO1) (adF_bd (unhide HB).1).1 (adF_bd (unhide HB).1).2 ⟨(unhide HB).1.o0, by have h1 := (unhide HB).1.o1; have h2 := unhide HOV; omega⟩ (by omega) (by omega) (by omega)).mono ?_
            rintro e w3 ⟨rfl, ho, hk2⟩
            replace HO1 := hide ho
            replace HK1 := hide ((unhide HK1).trans (hk2.mono fun _ _ h => h))
            clear ho hk2
            go_wp2
            go_roundg (L.length - (k + 1))
            case measure => omega
            case rel => exact ⟨unhide HK1, k + 1, y, _, by omega, rfl, by go_num, rfl, by omega, by omega, (unhide HB).2, HO1, HN⟩
      · have h4 : ¬ y < p := by omega
        by_cases h2 : d < x
        · have h5 : d < y := by omega
          have ex : cutA x p d = d := by unfold cutA; omega
          have ey : cutA y p d = d := by unfold cutA; omega
          rw [ex, ey] at HN
          clear ex ey
          have HB := hide ((unhide HQ).one (x := d) (y := d) (by omega) (by omega))
          go_wp2_with fail
          refine (tallyaddF_any gt p d q1 _ (unhide HO1) (adF_bd (unhide HQ)).1 (adF_bd (unhide HQ)).2 ⟨(unhide HQ).o0, by have h1 := (unhide HQ).o1; have h2 := unhide HOV; omega⟩ (by omega) (by omega) (by omega)).mono ?_
          rintro e w2 ⟨rfl, ho, hk2⟩
          replace HO1 := hide ho
          replace HK1 := hide ((unhide HK1).trans (hk2.mono fun _ _ h => h))
          clear ho hk2
          go_wp2_with fail
          refine (tallyaddO_any gt d d (adF p d q1) _ (unhide HO1) (adF_bd (unhide HB).1).1 (adF_bd (unhide HB).1).2 ⟨(unhide HB).1.o0, by have h1 := (unhide HB).1.o1; have h2 := unhide HOV; omega⟩ (by omega) (by omega) (by omega)).mono ?_
          rintro e w3 ⟨rfl, ho, hk2⟩
          replace HO1 := hide ho
          replace HK1 := hide ((unhide HK1).trans (hk2.mono fun _ _ h => h))
          clear ho hk2
          go_wp2
          go_roundg (L.length - (k + 1))
          case measure => omega
          case rel => exact ⟨unhide HK1, k + 1, d, _, by omega, rfl, by go_num, rfl, by omega, by omega, (unhide HB).2, HO1, HN⟩
        · by_cases h3 : d < y
          · skip
            have ex : cutA x p d = x := by unfold cutA; omega
            have ey : cutA y p d = d := by unfold cutA; omega
            rw [ex, ey] at HN
            clear ex ey
            have HB := hide ((unhide HQ).one (x := x) (y := d) (by omega) (by omega))
            go_wp2_with fail
            refine (tallyaddF_any gt p x q1 _ (unhide HO1) (adF_bd (unhide HQ)).1 (adF_bd (unhide HQ)).2 ⟨(unhide HQ).o0, by have h1 := (unhide HQ).o1; have h2 := unhide HOV; omega⟩ (by omega) (by omega) (by omega)).mono ?_
            rintro e w2 ⟨rfl, ho, hk2⟩
            replace HO1 := hide ho
            replace HK1 := hide ((unhide HK1).trans (hk2.mono fun _ _ h => h))
            clear ho hk2
            go_wp2_with fail
            refine (tallyaddO_any gt x d (adF p x q1) _ (unhide HO1) (adF_bd (unhide HB).1).1 (adF_bd (unhide HB).1).2 ⟨(unhide HB).1.o0, by have h1 := (unhide HB).1.o1; have h2 := unhide HOV; omega⟩ (by omega) (by omega) (by omega)).mono ?_
            rintro e w3 ⟨rfl, ho, hk2⟩
            replace HO1 := hide ho
            replace HK1 := hide ((unhide HK1).trans (hk2.mono fun _ _ h => h))
            clear ho hk2
            go_wp2
            go_roundg (L.length - (k + 1))
            case measure => omega
            case rel => exact ⟨unhide HK1, k + 1, d, _, by omega, rfl, by go_num, rfl, by omega, by omega, (unhide HB).2, HO1, HN⟩
          · skip
            have ex : cutA x p d = x := by unfold cutA; omega
            have ey : cutA y p d = y := by unfold cutA; omega
            rw [ex, ey] at HN
            clear ex ey
            have HB := hide ((unhide HQ).one (x := x) (y := y) (by omega) (by omega))
            go_wp2_with fail
            refine (tallyaddF_any gt p x q1 _ (unhide HO1) (adF_bd (unhide HQ)).1 (adF_bd (unhide HQ)).2 ⟨(unhide HQ).o0, by have h1 := (unhide HQ).o1; have h2 := unhide HOV; omega⟩ (by omega) (by omega) (by omega)).mono ?_
            rintro e w2 ⟨rfl, ho, hk2⟩
            replace HO1 := hide ho
            replace HK1 := hide ((unhide HK1).trans (hk2.mono fun _ _ h => h))
            clear ho hk2
            go_wp2_with fail
            refine (tallyaddO_any gt x y (adF p x q1) _ (unhide HO1) (adF_bd (unhide HB).1).1 (adF_bd (unhide HB).1).2 ⟨(unhide HB).1.o0, by have h1 := (unhide HB).1.o1; have h2 := unhide HOV; omega⟩ (by omega) (by omega) (by omega)).mono ?_
            rintro e w3 ⟨rfl, ho, hk2⟩
            replace HO1 := hide ho
            replace HK1 := hide ((unhide HK1).trans (hk2.mono fun _ _ h => h))
            clear ho hk2
            go_wp2
            go_roundg (L.length - (k + 1))
            case measure => omega
            case rel => exact ⟨unhide HK1, k + 1, y, _, by omega, rfl, by go_num, rfl, by omega, by omega, (unhide HB).2, HO1, HN⟩
    · obtain rfl : k = L.length := by omega
      have EE := hide (stret_last.symm.trans (unhide HE))
      clear HE
      go_wp2_with fail
      refine (tallyaddF_any gt p d q1 _ (unhide HO) (adF_bd (unhide HQ)).1 (adF_bd (unhide HQ)).2 ⟨(unhide HQ).o0, by have h1 := (unhide HQ).o1; have h2 := unhide HOV; omega⟩ (by omega) hpd hd).mono ?_
      rintro e w2 ⟨rfl, ho, hk2⟩
      rw [unhide EE] at ho
      have HO2 := hide ho
      have HK2 := hide ((unhide HK).trans (hk2.mono fun _ _ h => h))
      clear ho hk2 HO HK
      go_wp2
      go_end0
      exact ⟨rfl, unhide HO2, unhide HK2⟩

end Go.Proofs.Yticminoejikdfaa

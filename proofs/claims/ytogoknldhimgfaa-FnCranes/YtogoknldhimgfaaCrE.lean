/- Cranes: contracts of both DoMove. -/
import Derived.Test.YtogoknldhimgfaaCrD
namespace Go.Proofs.Ytogoknldhimgfaa
open Go.RowKit

set_option maxRecDepth 100000 in
set_option maxHeartbeats 4000000 in
theorem implDoMove_any (v : Value) (L : List CraneT) (gap a t : Int) (w : World) (h : RCrane w v L) (hn : L.length ≤ 1048576) :
    Calls Try.prog 22 #[v, .int .i64 gap, vMove a t] w (MvAns w (mvL L gap a t) (mvC L gap a t)) := by
  have hv := h
  obtain ⟨ao, cap, rfl, hl, hm, hc⟩ := h
  clear hc hl hm
  have A := Below.alloc1 w (.cells #[.int .i64 a, .int .i64 t] 42)
  have HW := hide A
  have HO := hide (ownV_alloc w #[.int .i64 a, .int .i64 t] 42)
  have Q1 := hide fun V (hV : Below w.heap.size w V) => ownCopyCrane_any ao L.length cap L V (hv.below hV) hn
  have Q2 := hide fun g V hV => moveCrane_any g L.length L gap a t V hV (Nat.le_refl _) hn
  have hML := mvL_len L gap a t
  clear A hv
  generalize mvL L gap a t = M at *
  generalize mvC L gap a t = C at *
  unfold vMove at Q2 ⊢
  go_enter Try.func22, Try.ntmps22
  go_wp2_with fail
  refine (unhide Q1 _ (unhide HW)).mono ?_
  rintro e w1 ⟨rfl, ho, hb⟩
  have hs0 := (unhide HW).size
  have hsw := (unhide HO).lt
  replace HW := hide (Below.step (unhide HW) hb)
  replace HO := hide ((unhide HO).step hb)
  have HG := hide ho
  simp only [World.size_alloc] at HG
  clear ho hb Q1
  simp only [World.size_alloc] at hs0 hsw
  have c0 := (unhide HO).cell (i := 0) rfl
  have c1 := (unhide HO).cell (i := 1) rfl
  go_wp2_with fail
  refine (unhide Q2 _ _ (unhide HG)).mono ?_
  rintro e w2 ⟨rfl, ho, hk⟩
  replace HW := hide ((unhide HW).trans (hk.below (B := w.heap.size) (unhide HW).size (fun b e => by omega)))
  replace HG := hide ho
  clear ho hk Q2 c0 c1 HO
  go_wp2
  refine bodyPost_ret (v := .tuple #[.slice (some ⟨w.heap.size + 1, 0, none⟩) L.length L.length, .int .i64 C]) (by simp [results, Try.results22, go_sem]) rfl ⟨_, _, _, rfl, ?_, unhide HW⟩
  rw [← hML]
  exact ownR_copy (unhide HG) (by omega) (by rw [hML]; exact hn)

set_option maxRecDepth 100000 in
set_option maxHeartbeats 8000000 in
theorem specDoMove_any (v : Value) (L : List CraneT) (gap a t : Int) (w : World) (h : RCrane w v L) (hn : L.length ≤ 1048576) :
    Calls Try.prog 40 #[v, .int .i64 gap, vMove a t] w (MvAns w (mvL L gap a t) (mvC L gap a t)) := by
  have A := Below.alloc1 w (.cells #[.int .i64 a, .int .i64 t] 42)
  have HW := hide A
  have HO := hide (ownV_alloc w #[.int .i64 a, .int .i64 t] 42)
  have HV := hide fun V (hV : Below w.heap.size w V) => h.below hV
  have Q1 := hide fun V (hV : Below w.heap.size w V) => l17Copy_any v L V (h.below hV) hn
  have Q2 := hide fun V (hV : Below w.heap.size w V) => specCranesOk_any v L gap V (h.below hV)
  have HP := hide (crB_iff (L := L) (gap := gap))
  obtain ⟨ao, cap, rfl, hl, hm, hc⟩ := h
  unfold maxLen at hm
  clear hc A
  generalize crB L gap = b1 at Q2 HP
  unfold vMove
  go_enter Try.func40, Try.ntmps40
  go_wp2_with fail
  refine (unhide Q1 _ (unhide HW)).mono ?_
  rintro e w1 ⟨ra, rc, rfl, hr, hb⟩
  have hs0 := (unhide HW).size
  replace HW := hide (Below.step (unhide HW) hb)
  replace HO := hide ((unhide HO).step hb)
  have HR := hide hr
  have hsw := (unhide HO).lt
  simp only [World.size_alloc] at HR
  clear hr hb
  go_wp2_with fail
  refine (unhide Q2 _ (unhide HW)).mono ?_
  rintro e w2 ⟨rfl, hb⟩
  replace HW := hide (Below.step (unhide HW) hb)
  replace HO := hide ((unhide HO).step hb)
  replace HR := hide ((unhide HR).below hb)
  clear hb Q2
  have HBAD : Hid (mvF L gap a t = 1 → MvAns w (mvL L gap a t) (mvC L gap a t) (.returned (.tuple #[.slice ra L.length rc, .int .i64 1])) w2) := fun h => by
    have e1 : mvC L gap a t = 1 := by unfold mvC; rw [h, if_neg (by omega)]
    have e2 : mvL L gap a t = L := by unfold mvL; rw [e1, if_neg (by omega)]
    rw [e1, e2]
    exact ⟨_, _, _, rfl, ((unhide HR).own (by decide)).mono (by omega), unhide HW⟩
  cases b1 with
  | false =>
    have HF := hide (unhide HBAD (mvF_bad fun h => by have := (unhide HP).2 h.1; cases this))
    clear HP HV HBAD HR
    go_wp2
    refine bodyPost_ret (v := .tuple #[.slice ra L.length rc, .int .i64 1]) (by simp [results, Try.results40, go_sem]) rfl (unhide HF)
  | true =>
  have hcp := (unhide HP).1 (by first | rfl | trivial)
  clear HP
  have hl8 := hcp.1
  have HCP := hide hcp
  have c0 := (unhide HO).cell (i := 0) rfl
  have c1 := (unhide HO).cell (i := 1) rfl
  have q0 : IntKind.i64.wrap ((L.length : Int) - 1) = (L.length : Int) - 1 := by rw [IntKind.wrap_i64]; omega
  have Q3 := hide fun V => l1In_any a 0 ((L.length : Int) - 1) V
  have HB : Hid (inB a 0 ((L.length : Int) - 1) = true ↔ 0 ≤ a ∧ a < L.length) := by show _ ↔ _; simp only [inB, Bool.and_eq_true, decide_eq_true_eq]; omega
  generalize inB a 0 ((L.length : Int) - 1) = b2 at Q3 HB
  clear hcp
  go_wp2_with fail
  refine (unhide Q3 _).mono ?_
  rintro e w9 ⟨rfl, h9⟩
  have h8 := h9.symm
  subst h8
  clear h9 Q3
  cases b2 with
  | false =>
    have HF := hide (unhide HBAD (mvF_bad fun h => by have := (unhide HB).2 h.2; cases this))
    clear HB HV HBAD HR
    go_wp2
    refine bodyPost_ret (v := .tuple #[.slice ra L.length rc, .int .i64 1]) (by simp [results, Try.results40, go_sem]) rfl (unhide HF)
  | true =>
  obtain ⟨ha0, ha1⟩ := (unhide HB).1 (by first | rfl | trivial)
  clear HB HBAD
  obtain ⟨i, rfl⟩ : ∃ i : Nat, a = i := ⟨a.toNat, by omega⟩
  have hi : i < L.length := by omega
  rcases (unhide HR).parts (by decide) with ⟨-, e, -⟩ | ⟨g, rfl, hg0, hg1, hcc, hcm, ho⟩
  · omega
  have HG := hide ho
  clear ho
  unfold maxLen at hcm
  obtain ⟨k0, k1, k2⟩ := crAt (unhide HG) hi
  have HF1 : Hid (¬ ((cr L i).2.1 ≤ t ∧ t ≤ (cr L i).2.2) → mvF L gap (i : Int) t = 2) := fun h => mvF_lim ⟨unhide HCP, ha0, ha1⟩ (by rw [Int.toNat_natCast]; exact h)
  have HF2 : Hid ((cr L i).2.1 ≤ t ∧ t ≤ (cr L i).2.2 → mvF L gap (i : Int) t = 0) := fun h => mvF_zero.2 ⟨⟨unhide HCP, ha0, ha1⟩, by rw [Int.toNat_natCast]; exact h⟩
  obtain ⟨x0, ex0⟩ : ∃ x, x = (cr L i).1 := ⟨_, rfl⟩
  obtain ⟨x1, ex1⟩ : ∃ x, x = (cr L i).2.1 := ⟨_, rfl⟩
  obtain ⟨x2, ex2⟩ : ∃ x, x = (cr L i).2.2 := ⟨_, rfl⟩
  rw [← ex0] at k0
  rw [← ex1] at k1 HF1 HF2
  rw [← ex2] at k2 HF1 HF2
  have Q4 := hide fun V => l1In_any t x1 x2 V
  have HB : Hid (inB t x1 x2 = true ↔ x1 ≤ t ∧ t ≤ x2) := by show _ ↔ _; simp only [inB, Bool.and_eq_true, decide_eq_true_eq]
  generalize inB t x1 x2 = b3 at Q4 HB
  clear ex0 ex1 ex2 ha0
  go_upto_region 4 with (fail)
  refine wp_region_quiet_lit (by kernel_rfl) (by kernel_rfl) ?_
  repeat (go_big_quiet_step (fail))
  go_big_quiet_want
  go_big_quiet_op
  go_big_quiet_call (exact Calls.quiet_of_same (unhide Q4 _))
  repeat (go_big_quiet_step (fail))
  refine wpQuiet_nil ?_
  intro w3 hw'
  obtain ⟨nq, hw''⟩ := hw'
  have hb : Below w2.heap.size w2 w3 := by rw [hw'']; exact below_drewN (Below.refl _ _) nq
  clear hw'' k0 k1 k2 c0 c1
  replace HW := hide (Below.step (unhide HW) hb)
  replace HO := hide ((unhide HO).step hb)
  replace HR := hide ((unhide HR).below hb)
  replace HG := hide ((unhide HG).step hb)
  clear hb
  cases b3 with
  | false =>
    have HF : Hid (MvAns w (mvL L gap (i : Int) t) (mvC L gap (i : Int) t) (.returned (.tuple #[.slice (some ⟨g, 0, none⟩) L.length rc, .int .i64 2])) w3) := by
      have h := unhide HF1 fun h => by have := (unhide HB).2 h; cases this
      have e1 : mvC L gap (i : Int) t = 2 := by unfold mvC; rw [h, if_neg (by omega)]
      have e2 : mvL L gap (i : Int) t = L := by unfold mvL; rw [e1, if_neg (by omega)]
      show MvAns _ _ _ _ _
      rw [e1, e2]
      exact ⟨_, _, _, rfl, ((unhide HR).own (by decide)).mono (by omega), unhide HW⟩
    clear HF1 HF2 HB HV HR HG
    go_wp2
    refine bodyPost_ret (v := .tuple #[.slice (some ⟨g, 0, none⟩) L.length rc, .int .i64 2]) (by simp [results, Try.results40, go_sem]) rfl (unhide HF)
  | true =>
    have HZ := hide (unhide HF2 ((unhide HB).1 (by first | rfl | trivial)))
    clear HF1 HF2 HB
    have c0 := (unhide HO).cell (i := 0) rfl
    have c1 := (unhide HO).cell (i := 1) rfl
    obtain ⟨k0, -, -⟩ := crAt (unhide HG) hi
    have kf := (unhide HG).frozen
    have HR2 := hide (cr_row (unhide HR) hi t)
    have HW2 := hide ((unhide HW).trans (((Kept.refl (fun b => b = g) w3).setCell (p := ⟨g, i * 3, none⟩) rfl (.int .i64 t)).below (B := w.heap.size) (unhide HW).size (fun b e => by omega)))
    have Q5 := hide fun V hV => specCranesOk_any (.slice (some ⟨g, 0, none⟩) L.length rc) (mvS L i t) gap V hV
    have HP := hide (crB_iff (L := mvS L i t) (gap := gap))
    generalize crB (mvS L i t) gap = b5 at Q5 HP
    clear HR HG HW HO
    go_wp2_with fail
    refine (unhide Q5 _ ((unhide HR2).recs (by decide))).mono ?_
    rintro e w4 ⟨rfl, hb⟩
    replace HR2 := hide ((unhide HR2).below hb)
    replace HW2 := hide (Below.step (unhide HW2) hb)
    clear hb Q5 k0 kf c0 c1
    cases b5 with
    | true =>
      have HF : Hid (MvAns w (mvL L gap (i : Int) t) (mvC L gap (i : Int) t) (.returned (.tuple #[.slice (some ⟨g, 0, none⟩) L.length rc, .int .i64 0])) w4) := by
        have e1 : mvC L gap (i : Int) t = 0 := by unfold mvC; rw [if_pos (unhide HZ), Int.toNat_natCast, if_pos ((unhide HP).1 (by first | rfl | trivial))]
        have e2 : mvL L gap (i : Int) t = mvS L i t := by unfold mvL; rw [if_pos e1, Int.toNat_natCast]
        show MvAns _ _ _ _ _
        rw [e1, e2]
        exact ⟨_, _, _, rfl, ((unhide HR2).own (by decide)).mono (by omega), unhide HW2⟩
      clear HP HV HR2 HZ Q1
      go_wp2
      refine bodyPost_ret (v := .tuple #[.slice (some ⟨g, 0, none⟩) L.length rc, .int .i64 0]) (by simp [results, Try.results40, go_sem]) rfl (unhide HF)
    | false =>
      have e1 : mvC L gap (i : Int) t = 3 := by unfold mvC; rw [if_pos (unhide HZ), Int.toNat_natCast, if_neg fun h => by have := (unhide HP).2 h; cases this]
      have e2 : mvL L gap (i : Int) t = L := by unfold mvL; rw [e1, if_neg (by omega)]
      have HE1 := hide e1
      have HE2 := hide e2
      clear HP HV HR2 HZ e1 e2
      go_wp2_with fail
      refine (unhide Q1 _ (unhide HW2)).mono ?_
      rintro e w5 ⟨sa, sc, rfl, hr, hb⟩
      have hsz2 := (unhide HW2).size
      have HF : Hid (MvAns w (mvL L gap (i : Int) t) (mvC L gap (i : Int) t) (.returned (.tuple #[.slice sa L.length sc, .int .i64 3])) w5) := by
        show MvAns _ _ _ _ _
        rw [unhide HE1, unhide HE2]
        exact ⟨_, _, _, rfl, (hr.own (by decide)).mono (by omega), Below.step (unhide HW2) hb⟩
      clear hr hb Q1 HE1 HE2
      go_wp2
      refine bodyPost_ret (v := .tuple #[.slice sa L.length sc, .int .i64 3]) (by simp [results, Try.results40, go_sem]) rfl (unhide HF)

end Go.Proofs.Ytogoknldhimgfaa

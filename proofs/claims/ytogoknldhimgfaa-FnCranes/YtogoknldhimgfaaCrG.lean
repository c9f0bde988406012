/- Cranes: contracts of both PushMove. Written by wip/mkcrg.py. -/
import Derived.Test.YtogoknldhimgfaaCrF
namespace Go.Proofs.Ytogoknldhimgfaa
open Go.RowKit

def PsAns (w : World) (M : List CraneT) (C : Bool) (e : Ending) (w' : World) : Prop := ∃ a n c, e = .returned (.tuple #[.slice a n c, .bool C]) ∧ OwnR 3 eCrane w.heap.size w' (.slice a n c) M ∧ Below w.heap.size w w'
theorem psV_no {L : List CraneT} {gap a t : Int} (h : ¬ (mvF L gap a t = 0 ∧ CrP (psE L gap a.toNat t) gap)) : psV L gap a t = (L, false) := by unfold psV; rw [if_neg h]
theorem psV_yes {L : List CraneT} {gap a t : Int} (h : mvF L gap a t = 0 ∧ CrP (psE L gap a.toNat t) gap) : psV L gap a t = (psE L gap a.toNat t, true) := by unfold psV; rw [if_pos h]

set_option maxRecDepth 100000 in
set_option maxHeartbeats 8000000 in
theorem implPushMove_any (v : Value) (L : List CraneT) (gap a t : Int) (w : World) (h : RCrane w v L) (hn : L.length ≤ 1048576) :
    Calls Try.prog 24 #[v, .int .i64 gap, vMove a t] w (PsAns w (psV L gap a t).1 (psV L gap a t).2) := by
  have hv := h
  obtain ⟨ao, cap, rfl, hl, hm, hc⟩ := h
  clear hc hl hm
  have A := Below.alloc1 w (.cells #[.int .i64 a, .int .i64 t] 42)
  have HW := hide A
  have HO := hide (ownV_alloc w #[.int .i64 a, .int .i64 t] 42)
  have Q1 := hide fun V (hV : Below w.heap.size w V) => ownCopyCrane_any ao L.length cap L V (hv.below hV) hn
  have Q2 := hide fun g V (hV : OwnV V g (recCells 3 eCrane L)) => moveFault_any (some ⟨g, 0, none⟩) L.length L gap a t V (OwnV.recsIn hV (Nat.le_refl _) (by unfold maxLen; omega))
  clear A hv
  unfold vMove at Q2 ⊢
  by_cases hz : mvF L gap a t = 0
  case neg =>
    have HV := hide (psV_no (L := L) (gap := gap) (a := a) (t := t) fun h => hz h.1)
    have d1 : (mvF L gap a t != 0) = true := by simpa using hz
    generalize mvF L gap a t = Fc at *
    generalize psV L gap a t = V at *
    clear hz
    go_enter Try.func24, Try.ntmps24
    go_wp2_with fail
    refine (unhide Q1 _ (unhide HW)).mono ?_
    rintro e w1 ⟨rfl, ho, hb⟩
    have hs0 := (unhide HW).size
    replace HW := hide (Below.step (unhide HW) hb)
    replace HO := hide ((unhide HO).step hb)
    have HG := hide ho
    simp only [World.size_alloc] at HG
    clear ho hb
    simp only [World.size_alloc] at hs0
    have c0 := (unhide HO).cell (i := 0) rfl
    have c1 := (unhide HO).cell (i := 1) rfl
    go_wp2_with fail
    refine (unhide Q2 _ _ (unhide HG)).mono ?_
    rintro e w2 ⟨rfl, hb⟩
    replace HW := hide (Below.step (unhide HW) hb)
    replace HG := hide ((unhide HG).step hb)
    clear hb Q2 c0 c1 HO Q1
    go_wp2
    refine bodyPost_ret (v := .tuple #[.slice (some ⟨w.heap.size + 1, 0, none⟩) L.length L.length, .bool false]) (by simp [results, Try.results24, go_sem]) rfl ?_
    show PsAns _ _ _ _ _
    rw [unhide HV]
    exact ⟨_, _, _, rfl, ownR_copy (unhide HG) (by omega) hn, unhide HW⟩
  case pos =>
    obtain ⟨⟨-, ha0, ha1⟩, -⟩ := mvF_zero.1 hz
    obtain ⟨i, rfl⟩ : ∃ i : Nat, a = i := ⟨a.toNat, by omega⟩
    have HV1 : Hid (CrP (psE L gap i t) gap → psV L gap (i : Int) t = (psE L gap i t, true)) := fun h => psV_yes ⟨hz, by rw [Int.toNat_natCast]; exact h⟩
    have HV0 : Hid (¬ CrP (psE L gap i t) gap → psV L gap (i : Int) t = (L, false)) := fun h => psV_no fun h' => h (by have := h'.2; rw [Int.toNat_natCast] at this; exact this)
    have Q3 := hide fun g V hV => push_any g L.length i L gap t V hV hz
    rw [hz] at Q2
    generalize psV L gap (i : Int) t = V at *
    generalize psE L gap i t = E at *
    unfold PuAns at Q3
    unfold vMove at Q3
    clear hz ha0 ha1
    go_enter Try.func24, Try.ntmps24
    go_wp2_with fail
    refine (unhide Q1 _ (unhide HW)).mono ?_
    rintro e w1 ⟨rfl, ho, hb⟩
    have hs0 := (unhide HW).size
    replace HW := hide (Below.step (unhide HW) hb)
    replace HO := hide ((unhide HO).step hb)
    have HG := hide ho
    simp only [World.size_alloc] at HG
    clear ho hb
    simp only [World.size_alloc] at hs0
    have c0 := (unhide HO).cell (i := 0) rfl
    have c1 := (unhide HO).cell (i := 1) rfl
    go_wp2_with fail
    refine (unhide Q2 _ _ (unhide HG)).mono ?_
    rintro e w2 ⟨rfl, hb⟩
    replace HW := hide (Below.step (unhide HW) hb)
    replace HG := hide ((unhide HG).step hb)
    replace HO := hide ((unhide HO).step hb)
    clear hb Q2 c0 c1
    have c0 := (unhide HO).cell (i := 0) rfl
    have c1 := (unhide HO).cell (i := 1) rfl
    go_wp2_with fail
    refine (unhide Q3 _ _ (unhide HG)).mono ?_
    rintro e w3 ⟨rfl, ⟨M, ho, hMl, hME⟩, hk⟩
    replace HW := hide ((unhide HW).trans (hk.below (B := w.heap.size) (unhide HW).size (fun b e => by omega)))
    replace HG := hide ho
    have HM := hide hME
    have HML := hide hMl
    clear ho hk Q3 c0 c1 HO hME hMl
    by_cases hE : CrP E gap
    · have d1 : decide (CrP E gap) = true := decide_eq_true hE
      have HV := hide (unhide HV1 hE)
      have HMM := hide (unhide HM hE)
      generalize decide (CrP E gap) = bb at *
      subst d1
      clear hE HV1 HV0 HM Q1
      go_wp2
      refine bodyPost_ret (v := .tuple #[.slice (some ⟨w.heap.size + 1, 0, none⟩) L.length L.length, .bool true]) (by simp [results, Try.results24, go_sem]) rfl ?_
      show PsAns _ _ _ _ _
      rw [unhide HV, ← unhide HMM, ← unhide HML]
      exact ⟨_, _, _, rfl, ownR_copy (unhide HG) (by omega) (by rw [unhide HML]; exact hn), unhide HW⟩
    · have d1 : decide (CrP E gap) = false := decide_eq_false hE
      have HV := hide (unhide HV0 hE)
      generalize decide (CrP E gap) = bb at *
      subst d1
      clear hE HV1 HV0 HM HG
      go_wp2_with fail
      refine (unhide Q1 _ (unhide HW)).mono ?_
      rintro e w4 ⟨rfl, ho, hb⟩
      have hs4 := (unhide HW).size
      have HG := hide ho
      replace HW := hide (Below.step (unhide HW) hb)
      clear ho hb Q1
      go_wp2
      refine bodyPost_ret (v := .tuple #[.slice (some ⟨w3.heap.size, 0, none⟩) L.length L.length, .bool false]) (by simp [results, Try.results24, go_sem]) rfl ?_
      show PsAns _ _ _ _ _
      rw [unhide HV]
      exact ⟨_, _, _, rfl, ownR_copy (unhide HG) (by omega) hn, unhide HW⟩

theorem RowB.ownV {α : Type} [Inhabited α] {T : TypeId} {n : Nat} {enc : α → Nat → Value} {B : Nat} {w : World} {g m cap : Nat} {L : List α} (h : RowB T n enc B w (some ⟨g, 0, none⟩) m cap L) (hn : 0 < n) : OwnV w g (recCells n enc L) := ((h.mono (Nat.zero_le _)).ownG hn).1
/-- What is held while the specification pushes. -/
structure PsT (w wr : World) (gb g m cap : Nat) (a t : Int) (M : List CraneT) : Prop where
  below : Below w.heap.size w wr
  box : OwnV wr gb [.int .i64 a, .int .i64 t]
  row : RowB 45 3 eCrane w.heap.size wr (some ⟨g, 0, none⟩) m cap M
  ap : w.heap.size ≤ gb ∧ gb < g
theorem PsT.step {w wr w2 : World} {gb g m cap : Nat} {a t : Int} {M : List CraneT} (h : PsT w wr gb g m cap a t M) (hb : Below wr.heap.size wr w2) : PsT w w2 gb g m cap a t M := ⟨Below.step h.below hb, h.box.step hb, h.row.below hb, h.ap⟩
theorem PsT.store {w wr : World} {gb g m cap : Nat} {a t : Int} {M : List CraneT} (h : PsT w wr gb g m cap a t M) {i : Nat} (hi : i < M.length) (x : Int) : PsT w (wr.setCell ⟨g, i * 3, none⟩ (.int .i64 x)) gb g m cap a t (mvS M i x) := by
  obtain ⟨a1, a2⟩ := h.ap
  exact ⟨h.below.trans (((Kept.refl (fun b => b = g) wr).setCell (p := ⟨g, i * 3, none⟩) rfl (.int .i64 x)).below (B := w.heap.size) h.below.size (fun b e => by omega)), h.box.other (a := ⟨g, i * 3, none⟩) (by show gb ≠ g; omega) _, cr_row h.row hi x, h.ap⟩
/-- How far a push can go. -/
theorem shL_bd {s : Int} {L : List CraneT} {gap : Int} {a : Nat} {t : Int} (hs : s = 1 ∨ s = -1) (ha : a < L.length) (h : CrP L gap) (ht : 0 ≤ t ∧ t ≤ 1000) : ∀ k, k ≤ pN s a L.length → -(20 * (k : Int)) ≤ (cr (shL s L gap a t k) (pI s a k)).1 ∧ (cr (shL s L gap a t k) (pI s a k)).1 ≤ 1000 + 20 * (k : Int) := by
  intro k
  induction k with
  | zero =>
    intro _
    have e0 : pI s a 0 = a := by unfold pI; simp
    rw [e0]
    simp only [shL, mvS]
    rw [cr_set ha, if_pos rfl]
    dsimp only
    omega
  | succ k ih =>
    intro hk
    have hi := ih (by omega)
    have hg := h.2.1
    have hlt := (pI_lt (L := L) hs ha hk).1
    have ho : cr (shL s L gap a t k) (pI s a (k + 1)) = cr L (pI s a (k + 1)) := shL_out hs ha k (by omega) _ hlt (fun j hj he => by have := pI_inj hs ha hk (by omega) he; omega)
    have hb := crG_small (h.2.2 _ hlt).1
    simp only [shL]
    split
    · rw [cr_set (by rw [shL_len]; exact hlt), if_pos rfl]
      dsimp only
      rcases hs with rfl | rfl <;> (push_cast; omega)
    · rw [ho]; push_cast; omega
theorem pN_small {s : Int} {a n : Nat} (ha : a < n) (hn : n ≤ 8) : pN s a n ≤ 8 := by unfold pN; split <;> omega

set_option maxRecDepth 100000 in
set_option maxHeartbeats 32000000 in
theorem specPushMove_any (v : Value) (L : List CraneT) (gap a t : Int) (w : World) (h : RCrane w v L) (hn : L.length ≤ 1048576) :
    Calls Try.prog 44 #[v, .int .i64 gap, vMove a t] w (PsAns w (psV L gap a t).1 (psV L gap a t).2) := by
  have A := Below.alloc1 w (.cells #[.int .i64 a, .int .i64 t] 42)
  have HW := hide A
  have HO := hide (ownV_alloc w #[.int .i64 a, .int .i64 t] 42)
  have HV := hide fun V (hV : Below w.heap.size w V) => h.below hV
  have Q1 := hide fun V (hV : Below w.heap.size w V) => l17Copy_any v L V (h.below hV) hn
  have Q2 := hide fun V (hV : Below w.heap.size w V) => specCranesOk_any v L gap V (h.below hV)
  have HP := hide (crB_iff (L := L) (gap := gap))
  obtain ⟨ao, cap, rfl, hl, hm, hc⟩ := h
  have HC := hide hc
  unfold maxLen at hm
  clear hc A
  generalize crB L gap = b1 at Q2 HP
  unfold vMove
  go_enter Try.func44, Try.ntmps44
  go_wp2_with fail
  refine (unhide Q1 _ (unhide HW)).mono ?_
  rintro e w1 ⟨ra, rc, rfl, hr, hb⟩
  have hs0 := (unhide HW).size
  replace HW := hide (Below.step (unhide HW) hb)
  replace HO := hide ((unhide HO).step hb)
  have HR := hide hr
  have hsw := (unhide HO).lt
  simp only [World.size_alloc] at HR
  clear hr hb
  have HNOT : Hid (mvF L gap a t ≠ 0 → psV L gap a t = (L, false)) := fun h => psV_no fun h' => h h'.1
  go_upto_region 2 with (fail)
  have k0 := (unhide HO).cell (i := 0) rfl
  have k1 := (unhide HO).cell (i := 1) rfl
  have Q2g := hide fun z' : Gr w1 => unhide Q2 z'.val (Below.step (unhide HW) z'.ok)
  cases b1 with
  | false =>
    have j0 := fun x' : Gr w1 => gr_cell (k0) x'
    have j1 := fun x' : Gr w1 => gr_cell (k1) x'
    have gsome := gr_some w1
    refine wp_region_grown (by kernel_rfl) (by kernel_rfl) ?_
    repeat (go_big_quiet_step (fail))
    go_big_quiet_want
    go_big_quiet_op
    go_big_quiet_call (exact calls_grown (unhide Q2g _))
    repeat (go_big_quiet_step (fail))
    refine wpQuiet_nil ?_
    intro w2 hw1
    obtain ⟨z', hz'⟩ := hw1
    have hb : Below w1.heap.size w1 w2 := hz' ▸ z'.ok
    clear hz' z' gsome j0 j1
    replace HW := hide (Below.step (unhide HW) hb)
    replace HO := hide ((unhide HO).step hb)
    replace HR := hide ((unhide HR).below hb)
    clear hb
    have HF := hide (unhide HNOT (by rw [mvF_bad fun h => by have := (unhide HP).2 h.1; cases this]; omega))
    clear HNOT HP HV
    go_wp2
    refine bodyPost_ret (v := .tuple #[.slice ra L.length rc, .bool false]) (by simp [results, Try.results44, go_sem]) rfl ?_
    show PsAns _ _ _ _ _
    rw [unhide HF]
    exact ⟨_, _, _, rfl, ((unhide HR).own (by decide)).mono (by omega), unhide HW⟩
  | true =>
  have hcp := (unhide HP).1 (by first | rfl | trivial)
  clear HP
  have hl8 := hcp.1
  have hgp := hcp.2.1
  have HCP := hide hcp
  have q0 : IntKind.i64.wrap ((L.length : Int) - 1) = (L.length : Int) - 1 := by rw [IntKind.wrap_i64]; omega
  have Q3 := hide fun V => (l1In_any a 0 ((L.length : Int) - 1) V).mono fun e w' h => (⟨h.1, h.2 ▸ Below.refl _ _⟩ : e = _ ∧ Below V.heap.size V w')
  have HB : Hid (inB a 0 ((L.length : Int) - 1) = true ↔ 0 ≤ a ∧ a < L.length) := by show _ ↔ _; simp only [inB, Bool.and_eq_true, decide_eq_true_eq]; omega
  generalize inB a 0 ((L.length : Int) - 1) = b2 at Q3 HB
  clear hcp
  cases b2 with
  | false =>
    have j0 := fun x' : Gr w1 => gr_cell (k0) x'
    have j1 := fun x' : Gr w1 => gr_cell (k1) x'
    have gsome := gr_some w1
    refine wp_region_grown (by kernel_rfl) (by kernel_rfl) ?_
    repeat (go_big_quiet_step (fail))
    go_big_quiet_want
    go_big_quiet_op
    go_big_quiet_call (exact calls_grown (unhide Q2g _))
    repeat (go_big_quiet_step (fail))
    go_big_quiet_want
    go_big_quiet_op
    go_big_quiet_call (exact calls_grown (unhide Q3 _))
    repeat (go_big_quiet_step (fail))
    refine wpQuiet_nil ?_
    intro w2 hw1
    obtain ⟨z', hz'⟩ := hw1
    have hb : Below w1.heap.size w1 w2 := hz' ▸ z'.ok
    clear hz' z' gsome j0 j1
    replace HW := hide (Below.step (unhide HW) hb)
    replace HO := hide ((unhide HO).step hb)
    replace HR := hide ((unhide HR).below hb)
    clear hb
    have HF := hide (unhide HNOT (by rw [mvF_bad fun h => by have := (unhide HB).2 h.2; cases this]; omega))
    clear HNOT HV HB
    go_wp2
    refine bodyPost_ret (v := .tuple #[.slice ra L.length rc, .bool false]) (by simp [results, Try.results44, go_sem]) rfl ?_
    show PsAns _ _ _ _ _
    rw [unhide HF]
    exact ⟨_, _, _, rfl, ((unhide HR).own (by decide)).mono (by omega), unhide HW⟩
  | true =>
  obtain ⟨ha0, ha1⟩ := (unhide HB).1 (by first | rfl | trivial)
  clear HB
  obtain ⟨i, rfl⟩ : ∃ i : Nat, a = i := ⟨a.toNat, by omega⟩
  have hi : i < L.length := by omega
  rcases (unhide HR).parts (by decide) with ⟨-, e, -⟩ | ⟨g, rfl, hg0, hg1, hcc, hcm, -⟩
  · omega
  unfold maxLen at hcm
  obtain ⟨-, k2, k3⟩ := crAt ((unhide HR).ownV (by decide)) hi
  have HF1 : Hid (¬ ((cr L i).2.1 ≤ t ∧ t ≤ (cr L i).2.2) → mvF L gap (i : Int) t = 2) := fun h => mvF_lim ⟨unhide HCP, ha0, ha1⟩ (by rw [Int.toNat_natCast]; exact h)
  have HF2 : Hid ((cr L i).2.1 ≤ t ∧ t ≤ (cr L i).2.2 → mvF L gap (i : Int) t = 0 ∧ 0 ≤ t ∧ t ≤ 1000) := fun h => ⟨mvF_zero.2 ⟨⟨unhide HCP, ha0, ha1⟩, by rw [Int.toNat_natCast]; exact h⟩, by have := ((unhide HCP).2.2 i hi).1; unfold CrG at this; omega⟩
  obtain ⟨x1, ex1⟩ : ∃ x, x = (cr L i).2.1 := ⟨_, rfl⟩
  obtain ⟨x2, ex2⟩ : ∃ x, x = (cr L i).2.2 := ⟨_, rfl⟩
  rw [← ex1] at k2 HF1 HF2
  rw [← ex2] at k3 HF1 HF2
  have Q4 := hide fun V => (l1In_any t x1 x2 V).mono fun e w' h => (⟨h.1, h.2 ▸ Below.refl _ _⟩ : e = _ ∧ Below V.heap.size V w')
  have HB : Hid (inB t x1 x2 = true ↔ x1 ≤ t ∧ t ≤ x2) := by show _ ↔ _; simp only [inB, Bool.and_eq_true, decide_eq_true_eq]
  generalize inB t x1 x2 = b3 at Q4 HB
  clear ex1 ex2 ha0
  cases b3 with
  | false =>
    have j0 := fun x' : Gr w1 => gr_cell (k0) x'
    have j1 := fun x' : Gr w1 => gr_cell (k1) x'
    have j2 := fun x' : Gr w1 => gr_cell (k2) x'
    have j3 := fun x' : Gr w1 => gr_cell (k3) x'
    have gsome := gr_some w1
    refine wp_region_grown (by kernel_rfl) (by kernel_rfl) ?_
    repeat (go_big_quiet_step (fail))
    go_big_quiet_want
    go_big_quiet_op
    go_big_quiet_call (exact calls_grown (unhide Q2g _))
    repeat (go_big_quiet_step (fail))
    go_big_quiet_want
    go_big_quiet_op
    go_big_quiet_call (exact calls_grown (unhide Q3 _))
    repeat (go_big_quiet_step (fail))
    go_big_quiet_want
    go_big_quiet_op
    go_big_quiet_call (exact calls_grown (unhide Q4 _))
    repeat (go_big_quiet_step (fail))
    refine wpQuiet_nil ?_
    intro w2 hw1
    obtain ⟨z', hz'⟩ := hw1
    have hb : Below w1.heap.size w1 w2 := hz' ▸ z'.ok
    clear hz' z' gsome j0 j1 j2 j3
    replace HW := hide (Below.step (unhide HW) hb)
    replace HO := hide ((unhide HO).step hb)
    replace HR := hide ((unhide HR).below hb)
    clear hb
    have HF := hide (unhide HNOT (by rw [unhide HF1 fun h => by have := (unhide HB).2 h; cases this]; omega))
    clear HNOT HV HB HF1 HF2
    go_wp2
    refine bodyPost_ret (v := .tuple #[.slice (some ⟨g, 0, none⟩) L.length rc, .bool false]) (by simp [results, Try.results44, go_sem]) rfl ?_
    show PsAns _ _ _ _ _
    rw [unhide HF]
    exact ⟨_, _, _, rfl, ((unhide HR).own (by decide)).mono (by omega), unhide HW⟩
  | true =>
  obtain ⟨hz, ht0, ht1⟩ := unhide HF2 ((unhide HB).1 (by first | rfl | trivial))
  have HZ := hide hz
  clear HF1 HF2 HB HNOT hz
  have j0 := fun x' : Gr w1 => gr_cell (k0) x'
  have j1 := fun x' : Gr w1 => gr_cell (k1) x'
  have j2 := fun x' : Gr w1 => gr_cell (k2) x'
  have j3 := fun x' : Gr w1 => gr_cell (k3) x'
  have gsome := gr_some w1
  refine wp_region_grown (by kernel_rfl) (by kernel_rfl) ?_
  repeat (go_big_quiet_step (fail))
  go_big_quiet_want
  go_big_quiet_op
  go_big_quiet_call (exact calls_grown (unhide Q2g _))
  repeat (go_big_quiet_step (fail))
  go_big_quiet_want
  go_big_quiet_op
  go_big_quiet_call (exact calls_grown (unhide Q3 _))
  repeat (go_big_quiet_step (fail))
  go_big_quiet_want
  go_big_quiet_op
  go_big_quiet_call (exact calls_grown (unhide Q4 _))
  repeat (go_big_quiet_step (fail))
  refine wpQuiet_nil ?_
  intro w2 hw1
  obtain ⟨z', hz'⟩ := hw1
  have hb : Below w1.heap.size w1 w2 := hz' ▸ z'.ok
  clear hz' z' gsome j0 j1 j2 j3
  replace HW := hide (Below.step (unhide HW) hb)
  replace HO := hide ((unhide HO).step hb)
  replace HR := hide ((unhide HR).below hb)
  clear hb
  clear k0 k1 k2 k3 Q2g Q2 Q3 Q4
  obtain ⟨gb, egb⟩ : ∃ b, b = w.heap.size := ⟨_, rfl⟩
  have HT0 : Hid (PsT w w2 gb g L.length rc (i : Int) t L) := ⟨unhide HW, by rw [egb]; exact unhide HO, (unhide HR).mono (by omega), by omega⟩
  rw [← egb]
  have hgb : ¬ gb = g := by omega
  clear HW HO HR egb
  obtain ⟨b, o, x0, y1, y2, rfl, hca, -, -, EXA⟩ := recCraneAt (unhide HC) hi
  have EX : Hid ((cr L i).1 = x0) := by show _ = _; rw [show cr L i = (x0, y1, y2) from unhide EXA]
  clear EXA HC
  have c0 := (unhide HT0).box.cell (i := 0) rfl
  have c1 := (unhide HT0).box.cell (i := 1) rfl
  obtain ⟨k0, -, -⟩ := crAt ((unhide HT0).row.ownV (by decide)) hi
  have kf := ((unhide HT0).row.ownV (by decide)).frozen
  have HT1 := hide ((unhide HT0).store hi t)
  have hili : (i : Int) < (L.length : Int) := by omega
  have hib : IntKind.i64.wrap ((i : Int) + 1) = (i : Int) + 1 := by rw [IntKind.wrap_i64]; omega
  have hib2 : IntKind.i64.wrap ((i : Int) - 1) = (i : Int) - 1 := by rw [IntKind.wrap_i64]; omega
  have HQE := hide fun V hV => specCranesOk_any (.slice (some ⟨g, 0, none⟩) L.length rc) (psE L gap i t) gap V hV
  have HPE := hide (crB_iff (L := psE L gap i t) (gap := gap))
  have HV1 : Hid (CrP (psE L gap i t) gap → psV L gap (i : Int) t = (psE L gap i t, true)) := fun h => psV_yes ⟨unhide HZ, by rw [Int.toNat_natCast]; exact h⟩
  have HV0 : Hid (¬ CrP (psE L gap i t) gap → psV L gap (i : Int) t = (L, false)) := fun h => psV_no fun h' => h (by have := h'.2; rw [Int.toNat_natCast] at this; exact this)
  generalize crB (psE L gap i t) gap = be at HQE HPE
  clear HT0 HZ
  by_cases hgt : x0 < t
  · have HPS : Hid (psE L gap i t = shL 1 L gap i t (pN 1 i L.length)) := by show _ = _; unfold psE psS; rw [unhide EX, if_neg (by omega), if_pos hgt]
    have dgt : decide (x0 < t) = true := decide_eq_true hgt
    have dlt : decide (t < x0) = false := decide_eq_false (by omega)
    clear hgt
    go_wp2
    clear c0 c1 k0 kf
    have HT := HT1
    clear HT1
    have HT2 : Hid (PsT w _ gb g L.length rc (i : Int) t (shL (1) L gap i t 0)) := unhide HT
    clear HT
    have HZI : Hid ((i : Int) + 1 = (i : Int) + (1) * (((0 : Nat) : Int) + 1)) := by show _ = _; omega
    go_loopg [9] (pN (1) i L.length) (fun gg zv wr => ∃ (k : Nat) (z : Int), k ≤ pN (1) i L.length ∧ gg = pN (1) i L.length - k ∧ zv = .int .i64 z ∧ Hid (z = (i : Int) + (1) * ((k : Int) + 1)) ∧ Hid (PsT w wr gb g L.length rc (i : Int) t (shL (1) L gap i t k)))
    case atStart => exact ⟨0, _, Nat.zero_le _, rfl, rfl, HZI, HT2⟩
    case round =>
      clear HT2 HZI
      obtain ⟨k, z, hk, rfl, rfl, HZ, HT⟩ := hrel
      have hz := unhide HZ
      have hpn := pN_small (s := 1) hi hl8.2
      have HPN : Hid (pN (1) i L.length = L.length - 1 - i) := by show _ = _; unfold pN; rw [if_pos rfl]
      have c0 := (unhide HT).box.cell (i := 0) rfl
      have c1 := (unhide HT).box.cell (i := 1) rfl
      have ca := wcell3 hca (unhide HT).below
      by_cases hfst : k + 1 ≤ pN (1) i L.length
      · have hq := pI_lt (L := L) (a := i) (s := 1) (Or.inl rfl) hi hfst
        have hp := pI_lt (L := L) (a := i) (s := 1) (Or.inl rfl) hi (show k ≤ pN (1) i L.length by omega)
        have hbd := shL_bd (t := t) (Or.inl rfl) hi (unhide HCP) ⟨ht0, ht1⟩ k (by omega)
        have hoq : cr (shL (1) L gap i t k) (pI (1) i (k + 1)) = cr L (pI (1) i (k + 1)) := shL_out (Or.inl rfl) hi k (by omega) _ hq.1 (fun j hj he => by have := pI_inj (L := L) (Or.inl rfl) hi hfst (by omega) he; omega)
        have hyq := crG_small ((unhide HCP).2.2 _ hq.1).1
        rw [← hoq] at hyq
        have hl := shL_len (1) L gap i t k
        have HS1 : Hid (0 < (1) * ((cr (shL (1) L gap i t k) (pI (1) i k)).1 + (1) * gap - (cr (shL (1) L gap i t k) (pI (1) i (k + 1))).1) → shL (1) L gap i t (k + 1) = mvS (shL (1) L gap i t k) (pI (1) i (k + 1)) ((cr (shL (1) L gap i t k) (pI (1) i k)).1 + (1) * gap)) := fun h => by simp only [shL]; rw [if_pos h]; rfl
        have HS0 : Hid (¬ 0 < (1) * ((cr (shL (1) L gap i t k) (pI (1) i k)).1 + (1) * gap - (cr (shL (1) L gap i t k) (pI (1) i (k + 1))).1) → shL (1) L gap i t (k + 1) = shL (1) L gap i t k) := fun h => by simp only [shL]; rw [if_neg h]
        obtain ⟨p, ep⟩ : ∃ p, p = pI (1) i k := ⟨_, rfl⟩
        obtain ⟨q, eq⟩ : ∃ q, q = pI (1) i (k + 1) := ⟨_, rfl⟩
        rw [← ep] at hp hbd HS1 HS0
        rw [← eq] at hq hyq HS1 HS0
        have hzq : z = (q : Int) := by rw [hz, hq.2]; push_cast; rfl
        have HZQ : Hid ((q : Int) = (i : Int) + (1) * ((k : Int) + 1)) := by show _ = _; rw [← hzq]; exact hz
        subst hzq
        have hqp : (q : Int) = p + 1 := by have h1 := hp.2; have h2 := hq.2; push_cast at h1 h2; omega
        have hpl := hp.1
        have hql := hq.1
        have hpi : (p : Int) < L.length := by omega
        have hqi : (q : Int) < L.length := by omega
        have df : decide ((q : Int) < (L.length : Int)) = true := by rw [decide_eq_true_eq]; omega
        have dfN : decide (q < L.length) = true := by rw [decide_eq_true_eq]; omega
        have wpq : IntKind.i64.wrap ((q : Int) - 1) = (p : Int) := by rw [IntKind.wrap_i64]; omega
        obtain ⟨M, eM⟩ : ∃ M, M = shL (1) L gap i t k := ⟨_, rfl⟩
        rw [← eM] at hbd hyq hl HS1 HS0 HT
        have HLE := hide hl
        clear hz hoq ep eq hp hq eM hl HZ hqp
        obtain ⟨m0, -, -⟩ := crAt ((unhide HT).row.ownV (by decide)) (i := p) (by have := unhide HLE; omega)
        obtain ⟨n0, -, -⟩ := crAt ((unhide HT).row.ownV (by decide)) (i := q) (by have := unhide HLE; omega)
        generalize hyp' : (cr M p).1 = yp at *
        generalize hyq' : (cr M q).1 = yq at *
        have EYP := hide hyp'
        have EYQ := hide hyq'
        clear hyp' hyq'
        obtain ⟨nr, enr⟩ : ∃ x, x = yp + gap := ⟨_, rfl⟩
        have wnr : IntKind.i64.wrap (yp + gap) = nr := by rw [← enr, IntKind.wrap_i64]; omega
        have enr2 : yp + (1) * gap = nr := by omega
        rw [enr2] at HS1 HS0
        have HNR := hide enr
        have hnr : -2000 ≤ nr ∧ nr ≤ 2000 := by omega
        clear enr enr2
        go_upto_region 6 with (fail)
        refine wp_region_quiet_lit (by kernel_rfl) (by kernel_rfl) ?_
        repeat (go_big_quiet_step (fail))
        refine wpQuiet_nil ?_
        intro wq hw'
        obtain ⟨nq, hw''⟩ := hw'
        have hb : Below wr.heap.size wr wq := by rw [hw'']; exact below_drewN (Below.refl _ _) nq
        clear hw''
        replace HT := hide ((unhide HT).step hb)
        clear hb
        clear c0 c1 ca df dfN m0 n0
        go_wp2
        obtain ⟨m0, -, -⟩ := crAt ((unhide HT).row.ownV (by decide)) (i := p) (by have := unhide HLE; omega)
        rw [unhide EYP] at m0
        obtain ⟨n0, -, -⟩ := crAt ((unhide HT).row.ownV (by decide)) (i := q) (by have := unhide HLE; omega)
        rw [unhide EYQ] at n0
        have HZN : Hid ((q : Int) + 1 = (i : Int) + (1) * (((k + 1 : Nat) : Int) + 1)) := by show _ = _; rw [unhide HZQ]; push_cast; omega
        by_cases hlt : yq < nr
        · have dl : decide (yq < nr) = true := decide_eq_true hlt
          have HSN := hide (unhide HS1 (by omega))
          clear hlt HS1 HS0
          go_upto_region 8 with (fail)
          refine wp_region_quiet_lit (by kernel_rfl) (by kernel_rfl) ?_
          repeat (go_big_quiet_step (fail))
          refine wpQuiet_nil ?_
          intro wz hw'
          obtain ⟨nq, hw''⟩ := hw'
          have hb : Below wq.heap.size wq wz := by rw [hw'']; exact below_drewN (Below.refl _ _) nq
          clear hw''
          replace HT := hide ((unhide HT).step hb)
          clear hb
          clear dl m0 n0
          obtain ⟨m0, -, -⟩ := crAt ((unhide HT).row.ownV (by decide)) (i := p) (by have := unhide HLE; omega)
          rw [unhide EYP] at m0
          obtain ⟨n0, -, -⟩ := crAt ((unhide HT).row.ownV (by decide)) (i := q) (by have := unhide HLE; omega)
          rw [unhide EYQ] at n0
          have kf := ((unhide HT).row.ownV (by decide)).frozen
          have HT2 := hide ((unhide HT).store (i := q) (by have := unhide HLE; omega) nr)
          rw [← unhide HSN] at HT2
          clear HT HSN
          go_wp2
          go_roundg (pN (1) i L.length - (k + 1))
          case measure => omega
          case rel => exact ⟨k + 1, _, hfst, rfl, rfl, HZN, HT2⟩
        · have dl : decide (yq < nr) = false := decide_eq_false hlt
          have HSN := hide (unhide HS0 (by omega))
          rw [← unhide HSN] at HT
          clear hlt HS1 HS0 HSN
          go_upto_region 8 with (fail)
          refine wp_region_quiet_lit (by kernel_rfl) (by kernel_rfl) ?_
          repeat (go_big_quiet_step (fail))
          refine wpQuiet_nil ?_
          intro wz hw'
          obtain ⟨nq, hw''⟩ := hw'
          have hb : Below wq.heap.size wq wz := by rw [hw'']; exact below_drewN (Below.refl _ _) nq
          clear hw''
          replace HT := hide ((unhide HT).step hb)
          clear hb
          clear dl m0 n0
          go_wp2
          go_roundg (pN (1) i L.length - (k + 1))
          case measure => omega
          case rel => exact ⟨k + 1, _, hfst, rfl, rfl, HZN, HT⟩
      · have ek : k = pN (1) i L.length := by omega
        have df : decide (z < (L.length : Int)) = false := by rw [decide_eq_false_iff_not]; have := unhide HPN; omega
        have HEE : Hid (shL (1) L gap i t k = psE L gap i t) := by show _ = _; rw [unhide HPS, ← ek]
        rw [unhide HEE] at HT
        clear hz
        go_upto_region 6 with (fail)
        refine wp_region_quiet_lit (by kernel_rfl) (by kernel_rfl) ?_
        repeat (go_big_quiet_step (fail))
        refine wpQuiet_nil ?_
        intro wq hw'
        obtain ⟨nq, hw''⟩ := hw'
        have hb : Below wr.heap.size wr wq := by rw [hw'']; exact below_drewN (Below.refl _ _) nq
        clear hw''
        replace HT := hide ((unhide HT).step hb)
        clear hb
        clear c0 c1 ca df hfst HZ HPN HEE ek
        have c0 := (unhide HT).box.cell (i := 0) rfl
        have c1 := (unhide HT).box.cell (i := 1) rfl
        go_wp2
        clear c0 c1
        have HZI : Hid (((i : Int) - 1) = ((i : Int) - 1)) := rfl
        go_loopg [10] 0 (fun gg zv wr => ∃ z : Int, gg = 0 ∧ zv = .int .i64 z ∧ Hid (z = ((i : Int) - 1)) ∧ Hid (PsT w wr gb g L.length rc (i : Int) t (psE L gap i t)))
        case atStart => exact ⟨_, rfl, rfl, HZI, HT⟩
        case round =>
          clear HT HZI
          obtain ⟨z, rfl, rfl, HZ, HT⟩ := hrel
          have c0 := (unhide HT).box.cell (i := 0) rfl
          have c1 := (unhide HT).box.cell (i := 1) rfl
          have ca := wcell3 hca (unhide HT).below
          by_cases hfst : 0 ≤ z
          · have df : decide (0 ≤ z) = true := decide_eq_true hfst
            go_upto_region 11 with (fail)
            refine wp_region_quiet_lit (by kernel_rfl) (by kernel_rfl) ?_
            repeat (go_big_quiet_step (fail))
            refine wpQuiet_nil ?_
            intro wq hw'
            obtain ⟨nq, hw''⟩ := hw'
            have hb : Below wr.heap.size wr wq := by rw [hw'']; exact below_drewN (Below.refl _ _) nq
            clear hw''
            replace HT := hide ((unhide HT).step hb)
            clear hb
            clear c0 c1 ca df hfst HZ
            go_wp2_with fail
            refine (unhide HQE _ ((unhide HT).row.recs (by decide))).mono ?_
            rintro e w5 ⟨rfl, hb⟩
            replace HT := hide ((unhide HT).step hb)
            clear hb HQE
            cases be with
            | true =>
              have HF := hide (unhide HV1 ((unhide HPE).1 (by first | rfl | trivial)))
              clear HV1 HV0 HPE Q1 HV
              go_wp2
              refine bodyPost_ret (v := .tuple #[.slice (some ⟨g, 0, none⟩) L.length rc, .bool true]) (by simp [results, Try.results44, go_sem]) rfl ?_
              show PsAns _ _ _ _ _
              rw [unhide HF]
              exact ⟨_, _, _, rfl, (unhide HT).row.own (by decide), (unhide HT).below⟩
            | false =>
              have HF := hide (unhide HV0 fun h => by have := (unhide HPE).2 h; cases this)
              clear HV1 HV0 HPE HV
              go_wp2_with fail
              refine (unhide Q1 _ (unhide HT).below).mono ?_
              rintro e w6 ⟨sa, sc, rfl, hr, hb⟩
              have HW := hide (Below.step (unhide HT).below hb)
              have hs6 := (unhide HT).below.size
              have HR := hide hr
              clear hr hb Q1 HT
              go_wp2
              refine bodyPost_ret (v := .tuple #[.slice sa L.length sc, .bool false]) (by simp [results, Try.results44, go_sem]) rfl ?_
              show PsAns _ _ _ _ _
              rw [unhide HF]
              exact ⟨_, _, _, rfl, ((unhide HR).own (by decide)).mono (by omega), unhide HW⟩
          · have df : decide (0 ≤ z) = false := decide_eq_false hfst
            go_upto_region 11 with (fail)
            refine wp_region_quiet_lit (by kernel_rfl) (by kernel_rfl) ?_
            repeat (go_big_quiet_step (fail))
            refine wpQuiet_nil ?_
            intro wq hw'
            obtain ⟨nq, hw''⟩ := hw'
            have hb : Below wr.heap.size wr wq := by rw [hw'']; exact below_drewN (Below.refl _ _) nq
            clear hw''
            replace HT := hide ((unhide HT).step hb)
            clear hb
            clear c0 c1 ca df hfst HZ
            go_wp2_with fail
            refine (unhide HQE _ ((unhide HT).row.recs (by decide))).mono ?_
            rintro e w5 ⟨rfl, hb⟩
            replace HT := hide ((unhide HT).step hb)
            clear hb HQE
            cases be with
            | true =>
              have HF := hide (unhide HV1 ((unhide HPE).1 (by first | rfl | trivial)))
              clear HV1 HV0 HPE Q1 HV
              go_wp2
              refine bodyPost_ret (v := .tuple #[.slice (some ⟨g, 0, none⟩) L.length rc, .bool true]) (by simp [results, Try.results44, go_sem]) rfl ?_
              show PsAns _ _ _ _ _
              rw [unhide HF]
              exact ⟨_, _, _, rfl, (unhide HT).row.own (by decide), (unhide HT).below⟩
            | false =>
              have HF := hide (unhide HV0 fun h => by have := (unhide HPE).2 h; cases this)
              clear HV1 HV0 HPE HV
              go_wp2_with fail
              refine (unhide Q1 _ (unhide HT).below).mono ?_
              rintro e w6 ⟨sa, sc, rfl, hr, hb⟩
              have HW := hide (Below.step (unhide HT).below hb)
              have hs6 := (unhide HT).below.size
              have HR := hide hr
              clear hr hb Q1 HT
              go_wp2
              refine bodyPost_ret (v := .tuple #[.slice sa L.length sc, .bool false]) (by simp [results, Try.results44, go_sem]) rfl ?_
              show PsAns _ _ _ _ _
              rw [unhide HF]
              exact ⟨_, _, _, rfl, ((unhide HR).own (by decide)).mono (by omega), unhide HW⟩
  · by_cases hlt0 : t < x0
    · have HPS : Hid (psE L gap i t = shL (-1) L gap i t (pN (-1) i L.length)) := by show _ = _; unfold psE psS; rw [unhide EX, if_neg (by omega), if_neg hgt]
      have dgt : decide (x0 < t) = false := decide_eq_false hgt
      have dlt : decide (t < x0) = true := decide_eq_true hlt0
      clear hgt hlt0
      go_wp2
      clear c0 c1 k0 kf
      have HT := HT1
      clear HT1
      have HZI : Hid (((i : Int) + 1) = ((i : Int) + 1)) := rfl
      go_loopg [9] 0 (fun gg zv wr => ∃ z : Int, gg = 0 ∧ zv = .int .i64 z ∧ Hid (z = ((i : Int) + 1)) ∧ Hid (PsT w wr gb g L.length rc (i : Int) t (mvS L i t)))
      case atStart => exact ⟨_, rfl, rfl, HZI, HT⟩
      case round =>
        clear HT HZI
        obtain ⟨z, rfl, rfl, HZ, HT⟩ := hrel
        have c0 := (unhide HT).box.cell (i := 0) rfl
        have c1 := (unhide HT).box.cell (i := 1) rfl
        have ca := wcell3 hca (unhide HT).below
        by_cases hfst : z < (L.length : Int)
        · have df : decide (z < (L.length : Int)) = true := decide_eq_true hfst
          go_upto_region 6 with (fail)
          refine wp_region_quiet_lit (by kernel_rfl) (by kernel_rfl) ?_
          repeat (go_big_quiet_step (fail))
          refine wpQuiet_nil ?_
          intro wq hw'
          obtain ⟨nq, hw''⟩ := hw'
          have hb : Below wr.heap.size wr wq := by rw [hw'']; exact below_drewN (Below.refl _ _) nq
          clear hw''
          replace HT := hide ((unhide HT).step hb)
          clear hb
          clear c0 c1 ca df hfst HZ
          have c0 := (unhide HT).box.cell (i := 0) rfl
          have c1 := (unhide HT).box.cell (i := 1) rfl
          go_wp2
          clear c0 c1
          have HT2 : Hid (PsT w _ gb g L.length rc (i : Int) t (shL (-1) L gap i t 0)) := unhide HT
          clear HT
          have HZI : Hid ((i : Int) - 1 = (i : Int) + (-1) * (((0 : Nat) : Int) + 1)) := by show _ = _; omega
          go_loopg [10] (pN (-1) i L.length) (fun gg zv wr => ∃ (k : Nat) (z : Int), k ≤ pN (-1) i L.length ∧ gg = pN (-1) i L.length - k ∧ zv = .int .i64 z ∧ Hid (z = (i : Int) + (-1) * ((k : Int) + 1)) ∧ Hid (PsT w wr gb g L.length rc (i : Int) t (shL (-1) L gap i t k)))
          case atStart => exact ⟨0, _, Nat.zero_le _, rfl, rfl, HZI, HT2⟩
          case round =>
            clear HT2 HZI
            obtain ⟨k, z, hk, rfl, rfl, HZ, HT⟩ := hrel
            have hz := unhide HZ
            have hpn := pN_small (s := -1) hi hl8.2
            have HPN : Hid (pN (-1) i L.length = i) := by show _ = _; unfold pN; rw [if_neg (by omega)]
            have c0 := (unhide HT).box.cell (i := 0) rfl
            have c1 := (unhide HT).box.cell (i := 1) rfl
            have ca := wcell3 hca (unhide HT).below
            by_cases hfst : k + 1 ≤ pN (-1) i L.length
            · have hq := pI_lt (L := L) (a := i) (s := -1) (Or.inr rfl) hi hfst
              have hp := pI_lt (L := L) (a := i) (s := -1) (Or.inr rfl) hi (show k ≤ pN (-1) i L.length by omega)
              have hbd := shL_bd (t := t) (Or.inr rfl) hi (unhide HCP) ⟨ht0, ht1⟩ k (by omega)
              have hoq : cr (shL (-1) L gap i t k) (pI (-1) i (k + 1)) = cr L (pI (-1) i (k + 1)) := shL_out (Or.inr rfl) hi k (by omega) _ hq.1 (fun j hj he => by have := pI_inj (L := L) (Or.inr rfl) hi hfst (by omega) he; omega)
              have hyq := crG_small ((unhide HCP).2.2 _ hq.1).1
              rw [← hoq] at hyq
              have hl := shL_len (-1) L gap i t k
              have HS1 : Hid (0 < (-1) * ((cr (shL (-1) L gap i t k) (pI (-1) i k)).1 + (-1) * gap - (cr (shL (-1) L gap i t k) (pI (-1) i (k + 1))).1) → shL (-1) L gap i t (k + 1) = mvS (shL (-1) L gap i t k) (pI (-1) i (k + 1)) ((cr (shL (-1) L gap i t k) (pI (-1) i k)).1 + (-1) * gap)) := fun h => by simp only [shL]; rw [if_pos h]; rfl
              have HS0 : Hid (¬ 0 < (-1) * ((cr (shL (-1) L gap i t k) (pI (-1) i k)).1 + (-1) * gap - (cr (shL (-1) L gap i t k) (pI (-1) i (k + 1))).1) → shL (-1) L gap i t (k + 1) = shL (-1) L gap i t k) := fun h => by simp only [shL]; rw [if_neg h]
              obtain ⟨p, ep⟩ : ∃ p, p = pI (-1) i k := ⟨_, rfl⟩
              obtain ⟨q, eq⟩ : ∃ q, q = pI (-1) i (k + 1) := ⟨_, rfl⟩
              rw [← ep] at hp hbd HS1 HS0
              rw [← eq] at hq hyq HS1 HS0
              have hzq : z = (q : Int) := by rw [hz, hq.2]; push_cast; rfl
              have HZQ : Hid ((q : Int) = (i : Int) + (-1) * ((k : Int) + 1)) := by show _ = _; rw [← hzq]; exact hz
              subst hzq
              have hqp : (q : Int) = p - 1 := by have h1 := hp.2; have h2 := hq.2; push_cast at h1 h2; omega
              have hpl := hp.1
              have hql := hq.1
              have hpi : (p : Int) < L.length := by omega
              have hqi : (q : Int) < L.length := by omega
              have df : decide (0 ≤ (q : Int)) = true := by rw [decide_eq_true_eq]; omega
              have dfN : decide (q < L.length) = true := by rw [decide_eq_true_eq]; omega
              have wpq : IntKind.i64.wrap ((q : Int) + 1) = (p : Int) := by rw [IntKind.wrap_i64]; omega
              obtain ⟨M, eM⟩ : ∃ M, M = shL (-1) L gap i t k := ⟨_, rfl⟩
              rw [← eM] at hbd hyq hl HS1 HS0 HT
              have HLE := hide hl
              clear hz hoq ep eq hp hq eM hl HZ hqp
              obtain ⟨m0, -, -⟩ := crAt ((unhide HT).row.ownV (by decide)) (i := p) (by have := unhide HLE; omega)
              obtain ⟨n0, -, -⟩ := crAt ((unhide HT).row.ownV (by decide)) (i := q) (by have := unhide HLE; omega)
              generalize hyp' : (cr M p).1 = yp at *
              generalize hyq' : (cr M q).1 = yq at *
              have EYP := hide hyp'
              have EYQ := hide hyq'
              clear hyp' hyq'
              obtain ⟨nr, enr⟩ : ∃ x, x = yp - gap := ⟨_, rfl⟩
              have wnr : IntKind.i64.wrap (yp - gap) = nr := by rw [← enr, IntKind.wrap_i64]; omega
              have enr2 : yp + (-1) * gap = nr := by omega
              rw [enr2] at HS1 HS0
              have HNR := hide enr
              have hnr : -2000 ≤ nr ∧ nr ≤ 2000 := by omega
              clear enr enr2
              go_upto_region 11 with (fail)
              refine wp_region_quiet_lit (by kernel_rfl) (by kernel_rfl) ?_
              repeat (go_big_quiet_step (fail))
              refine wpQuiet_nil ?_
              intro wq hw'
              obtain ⟨nq, hw''⟩ := hw'
              have hb : Below wr.heap.size wr wq := by rw [hw'']; exact below_drewN (Below.refl _ _) nq
              clear hw''
              replace HT := hide ((unhide HT).step hb)
              clear hb
              clear c0 c1 ca df dfN m0 n0
              go_wp2
              obtain ⟨m0, -, -⟩ := crAt ((unhide HT).row.ownV (by decide)) (i := p) (by have := unhide HLE; omega)
              rw [unhide EYP] at m0
              obtain ⟨n0, -, -⟩ := crAt ((unhide HT).row.ownV (by decide)) (i := q) (by have := unhide HLE; omega)
              rw [unhide EYQ] at n0
              have HZN : Hid ((q : Int) - 1 = (i : Int) + (-1) * (((k + 1 : Nat) : Int) + 1)) := by show _ = _; rw [unhide HZQ]; push_cast; omega
              by_cases hlt : nr < yq
              · have dl : decide (nr < yq) = true := decide_eq_true hlt
                have HSN := hide (unhide HS1 (by omega))
                clear hlt HS1 HS0
                go_upto_region 13 with (fail)
                refine wp_region_quiet_lit (by kernel_rfl) (by kernel_rfl) ?_
                repeat (go_big_quiet_step (fail))
                refine wpQuiet_nil ?_
                intro wz hw'
                obtain ⟨nq, hw''⟩ := hw'
                have hb : Below wq.heap.size wq wz := by rw [hw'']; exact below_drewN (Below.refl _ _) nq
                clear hw''
                replace HT := hide ((unhide HT).step hb)
                clear hb
                clear dl m0 n0
                obtain ⟨m0, -, -⟩ := crAt ((unhide HT).row.ownV (by decide)) (i := p) (by have := unhide HLE; omega)
                rw [unhide EYP] at m0
                obtain ⟨n0, -, -⟩ := crAt ((unhide HT).row.ownV (by decide)) (i := q) (by have := unhide HLE; omega)
                rw [unhide EYQ] at n0
                have kf := ((unhide HT).row.ownV (by decide)).frozen
                have HT2 := hide ((unhide HT).store (i := q) (by have := unhide HLE; omega) nr)
                rw [← unhide HSN] at HT2
                clear HT HSN
                go_wp2
                go_roundg (pN (-1) i L.length - (k + 1))
                case measure => omega
                case rel => exact ⟨k + 1, _, hfst, rfl, rfl, HZN, HT2⟩
              · have dl : decide (nr < yq) = false := decide_eq_false hlt
                have HSN := hide (unhide HS0 (by omega))
                rw [← unhide HSN] at HT
                clear hlt HS1 HS0 HSN
                go_upto_region 13 with (fail)
                refine wp_region_quiet_lit (by kernel_rfl) (by kernel_rfl) ?_
                repeat (go_big_quiet_step (fail))
                refine wpQuiet_nil ?_
                intro wz hw'
                obtain ⟨nq, hw''⟩ := hw'
                have hb : Below wq.heap.size wq wz := by rw [hw'']; exact below_drewN (Below.refl _ _) nq
                clear hw''
                replace HT := hide ((unhide HT).step hb)
                clear hb
                clear dl m0 n0
                go_wp2
                go_roundg (pN (-1) i L.length - (k + 1))
                case measure => omega
                case rel => exact ⟨k + 1, _, hfst, rfl, rfl, HZN, HT⟩
            · have ek : k = pN (-1) i L.length := by omega
              have df : decide (0 ≤ z) = false := by rw [decide_eq_false_iff_not]; have := unhide HPN; omega
              have HEE : Hid (shL (-1) L gap i t k = psE L gap i t) := by show _ = _; rw [unhide HPS, ← ek]
              rw [unhide HEE] at HT
              clear hz
              go_upto_region 11 with (fail)
              refine wp_region_quiet_lit (by kernel_rfl) (by kernel_rfl) ?_
              repeat (go_big_quiet_step (fail))
              refine wpQuiet_nil ?_
              intro wq hw'
              obtain ⟨nq, hw''⟩ := hw'
              have hb : Below wr.heap.size wr wq := by rw [hw'']; exact below_drewN (Below.refl _ _) nq
              clear hw''
              replace HT := hide ((unhide HT).step hb)
              clear hb
              clear c0 c1 ca df hfst HZ HPN HEE ek
              go_wp2_with fail
              refine (unhide HQE _ ((unhide HT).row.recs (by decide))).mono ?_
              rintro e w5 ⟨rfl, hb⟩
              replace HT := hide ((unhide HT).step hb)
              clear hb HQE
              cases be with
              | true =>
                have HF := hide (unhide HV1 ((unhide HPE).1 (by first | rfl | trivial)))
                clear HV1 HV0 HPE Q1 HV
                go_wp2
                refine bodyPost_ret (v := .tuple #[.slice (some ⟨g, 0, none⟩) L.length rc, .bool true]) (by simp [results, Try.results44, go_sem]) rfl ?_
                show PsAns _ _ _ _ _
                rw [unhide HF]
                exact ⟨_, _, _, rfl, (unhide HT).row.own (by decide), (unhide HT).below⟩
              | false =>
                have HF := hide (unhide HV0 fun h => by have := (unhide HPE).2 h; cases this)
                clear HV1 HV0 HPE HV
                go_wp2_with fail
                refine (unhide Q1 _ (unhide HT).below).mono ?_
                rintro e w6 ⟨sa, sc, rfl, hr, hb⟩
                have HW := hide (Below.step (unhide HT).below hb)
                have hs6 := (unhide HT).below.size
                have HR := hide hr
                clear hr hb Q1 HT
                go_wp2
                refine bodyPost_ret (v := .tuple #[.slice sa L.length sc, .bool false]) (by simp [results, Try.results44, go_sem]) rfl ?_
                show PsAns _ _ _ _ _
                rw [unhide HF]
                exact ⟨_, _, _, rfl, ((unhide HR).own (by decide)).mono (by omega), unhide HW⟩
        · have df : decide (z < (L.length : Int)) = false := decide_eq_false hfst
          go_upto_region 6 with (fail)
          refine wp_region_quiet_lit (by kernel_rfl) (by kernel_rfl) ?_
          repeat (go_big_quiet_step (fail))
          refine wpQuiet_nil ?_
          intro wq hw'
          obtain ⟨nq, hw''⟩ := hw'
          have hb : Below wr.heap.size wr wq := by rw [hw'']; exact below_drewN (Below.refl _ _) nq
          clear hw''
          replace HT := hide ((unhide HT).step hb)
          clear hb
          clear c0 c1 ca df hfst HZ
          have c0 := (unhide HT).box.cell (i := 0) rfl
          have c1 := (unhide HT).box.cell (i := 1) rfl
          go_wp2
          clear c0 c1
          have HT2 : Hid (PsT w _ gb g L.length rc (i : Int) t (shL (-1) L gap i t 0)) := unhide HT
          clear HT
          have HZI : Hid ((i : Int) - 1 = (i : Int) + (-1) * (((0 : Nat) : Int) + 1)) := by show _ = _; omega
          go_loopg [10] (pN (-1) i L.length) (fun gg zv wr => ∃ (k : Nat) (z : Int), k ≤ pN (-1) i L.length ∧ gg = pN (-1) i L.length - k ∧ zv = .int .i64 z ∧ Hid (z = (i : Int) + (-1) * ((k : Int) + 1)) ∧ Hid (PsT w wr gb g L.length rc (i : Int) t (shL (-1) L gap i t k)))
          case atStart => exact ⟨0, _, Nat.zero_le _, rfl, rfl, HZI, HT2⟩
          case round =>
            clear HT2 HZI
            obtain ⟨k, z, hk, rfl, rfl, HZ, HT⟩ := hrel
            have hz := unhide HZ
            have hpn := pN_small (s := -1) hi hl8.2
            have HPN : Hid (pN (-1) i L.length = i) := by show _ = _; unfold pN; rw [if_neg (by omega)]
            have c0 := (unhide HT).box.cell (i := 0) rfl
            have c1 := (unhide HT).box.cell (i := 1) rfl
            have ca := wcell3 hca (unhide HT).below
            by_cases hfst : k + 1 ≤ pN (-1) i L.length
            · have hq := pI_lt (L := L) (a := i) (s := -1) (Or.inr rfl) hi hfst
              have hp := pI_lt (L := L) (a := i) (s := -1) (Or.inr rfl) hi (show k ≤ pN (-1) i L.length by omega)
              have hbd := shL_bd (t := t) (Or.inr rfl) hi (unhide HCP) ⟨ht0, ht1⟩ k (by omega)
              have hoq : cr (shL (-1) L gap i t k) (pI (-1) i (k + 1)) = cr L (pI (-1) i (k + 1)) := shL_out (Or.inr rfl) hi k (by omega) _ hq.1 (fun j hj he => by have := pI_inj (L := L) (Or.inr rfl) hi hfst (by omega) he; omega)
              have hyq := crG_small ((unhide HCP).2.2 _ hq.1).1
              rw [← hoq] at hyq
              have hl := shL_len (-1) L gap i t k
              have HS1 : Hid (0 < (-1) * ((cr (shL (-1) L gap i t k) (pI (-1) i k)).1 + (-1) * gap - (cr (shL (-1) L gap i t k) (pI (-1) i (k + 1))).1) → shL (-1) L gap i t (k + 1) = mvS (shL (-1) L gap i t k) (pI (-1) i (k + 1)) ((cr (shL (-1) L gap i t k) (pI (-1) i k)).1 + (-1) * gap)) := fun h => by simp only [shL]; rw [if_pos h]; rfl
              have HS0 : Hid (¬ 0 < (-1) * ((cr (shL (-1) L gap i t k) (pI (-1) i k)).1 + (-1) * gap - (cr (shL (-1) L gap i t k) (pI (-1) i (k + 1))).1) → shL (-1) L gap i t (k + 1) = shL (-1) L gap i t k) := fun h => by simp only [shL]; rw [if_neg h]
              obtain ⟨p, ep⟩ : ∃ p, p = pI (-1) i k := ⟨_, rfl⟩
              obtain ⟨q, eq⟩ : ∃ q, q = pI (-1) i (k + 1) := ⟨_, rfl⟩
              rw [← ep] at hp hbd HS1 HS0
              rw [← eq] at hq hyq HS1 HS0
              have hzq : z = (q : Int) := by rw [hz, hq.2]; push_cast; rfl
              have HZQ : Hid ((q : Int) = (i : Int) + (-1) * ((k : Int) + 1)) := by show _ = _; rw [← hzq]; exact hz
              subst hzq
              have hqp : (q : Int) = p - 1 := by have h1 := hp.2; have h2 := hq.2; push_cast at h1 h2; omega
              have hpl := hp.1
              have hql := hq.1
              have hpi : (p : Int) < L.length := by omega
              have hqi : (q : Int) < L.length := by omega
              have df : decide (0 ≤ (q : Int)) = true := by rw [decide_eq_true_eq]; omega
              have dfN : decide (q < L.length) = true := by rw [decide_eq_true_eq]; omega
              have wpq : IntKind.i64.wrap ((q : Int) + 1) = (p : Int) := by rw [IntKind.wrap_i64]; omega
              obtain ⟨M, eM⟩ : ∃ M, M = shL (-1) L gap i t k := ⟨_, rfl⟩
              rw [← eM] at hbd hyq hl HS1 HS0 HT
              have HLE := hide hl
              clear hz hoq ep eq hp hq eM hl HZ hqp
              obtain ⟨m0, -, -⟩ := crAt ((unhide HT).row.ownV (by decide)) (i := p) (by have := unhide HLE; omega)
              obtain ⟨n0, -, -⟩ := crAt ((unhide HT).row.ownV (by decide)) (i := q) (by have := unhide HLE; omega)
              generalize hyp' : (cr M p).1 = yp at *
              generalize hyq' : (cr M q).1 = yq at *
              have EYP := hide hyp'
              have EYQ := hide hyq'
              clear hyp' hyq'
              obtain ⟨nr, enr⟩ : ∃ x, x = yp - gap := ⟨_, rfl⟩
              have wnr : IntKind.i64.wrap (yp - gap) = nr := by rw [← enr, IntKind.wrap_i64]; omega
              have enr2 : yp + (-1) * gap = nr := by omega
              rw [enr2] at HS1 HS0
              have HNR := hide enr
              have hnr : -2000 ≤ nr ∧ nr ≤ 2000 := by omega
              clear enr enr2
              go_upto_region 11 with (fail)
              refine wp_region_quiet_lit (by kernel_rfl) (by kernel_rfl) ?_
              repeat (go_big_quiet_step (fail))
              refine wpQuiet_nil ?_
              intro wq hw'
              obtain ⟨nq, hw''⟩ := hw'
              have hb : Below wr.heap.size wr wq := by rw [hw'']; exact below_drewN (Below.refl _ _) nq
              clear hw''
              replace HT := hide ((unhide HT).step hb)
              clear hb
              clear c0 c1 ca df dfN m0 n0
              go_wp2
              obtain ⟨m0, -, -⟩ := crAt ((unhide HT).row.ownV (by decide)) (i := p) (by have := unhide HLE; omega)
              rw [unhide EYP] at m0
              obtain ⟨n0, -, -⟩ := crAt ((unhide HT).row.ownV (by decide)) (i := q) (by have := unhide HLE; omega)
              rw [unhide EYQ] at n0
              have HZN : Hid ((q : Int) - 1 = (i : Int) + (-1) * (((k + 1 : Nat) : Int) + 1)) := by show _ = _; rw [unhide HZQ]; push_cast; omega
              by_cases hlt : nr < yq
              · have dl : decide (nr < yq) = true := decide_eq_true hlt
                have HSN := hide (unhide HS1 (by omega))
                clear hlt HS1 HS0
                go_upto_region 13 with (fail)
                refine wp_region_quiet_lit (by kernel_rfl) (by kernel_rfl) ?_
                repeat (go_big_quiet_step (fail))
                refine wpQuiet_nil ?_
                intro wz hw'
                obtain ⟨nq, hw''⟩ := hw'
                have hb : Below wq.heap.size wq wz := by rw [hw'']; exact below_drewN (Below.refl _ _) nq
                clear hw''
                replace HT := hide ((unhide HT).step hb)
                clear hb
                clear dl m0 n0
                obtain ⟨m0, -, -⟩ := crAt ((unhide HT).row.ownV (by decide)) (i := p) (by have := unhide HLE; omega)
                rw [unhide EYP] at m0
                obtain ⟨n0, -, -⟩ := crAt ((unhide HT).row.ownV (by decide)) (i := q) (by have := unhide HLE; omega)
                rw [unhide EYQ] at n0
                have kf := ((unhide HT).row.ownV (by decide)).frozen
                have HT2 := hide ((unhide HT).store (i := q) (by have := unhide HLE; omega) nr)
                rw [← unhide HSN] at HT2
                clear HT HSN
                go_wp2
                go_roundg (pN (-1) i L.length - (k + 1))
                case measure => omega
                case rel => exact ⟨k + 1, _, hfst, rfl, rfl, HZN, HT2⟩
              · have dl : decide (nr < yq) = false := decide_eq_false hlt
                have HSN := hide (unhide HS0 (by omega))
                rw [← unhide HSN] at HT
                clear hlt HS1 HS0 HSN
                go_upto_region 13 with (fail)
                refine wp_region_quiet_lit (by kernel_rfl) (by kernel_rfl) ?_
                repeat (go_big_quiet_step (fail))
                refine wpQuiet_nil ?_
                intro wz hw'
                obtain ⟨nq, hw''⟩ := hw'
                have hb : Below wq.heap.size wq wz := by rw [hw'']; exact below_drewN (Below.refl _ _) nq
                clear hw''
                replace HT := hide ((unhide HT).step hb)
                clear hb
                clear dl m0 n0
                go_wp2
                go_roundg (pN (-1) i L.length - (k + 1))
                case measure => omega
                case rel => exact ⟨k + 1, _, hfst, rfl, rfl, HZN, HT⟩
            · have ek : k = pN (-1) i L.length := by omega
              have df : decide (0 ≤ z) = false := by rw [decide_eq_false_iff_not]; have := unhide HPN; omega
              have HEE : Hid (shL (-1) L gap i t k = psE L gap i t) := by show _ = _; rw [unhide HPS, ← ek]
              rw [unhide HEE] at HT
              clear hz
              go_upto_region 11 with (fail)
              refine wp_region_quiet_lit (by kernel_rfl) (by kernel_rfl) ?_
              repeat (go_big_quiet_step (fail))
              refine wpQuiet_nil ?_
              intro wq hw'
              obtain ⟨nq, hw''⟩ := hw'
              have hb : Below wr.heap.size wr wq := by rw [hw'']; exact below_drewN (Below.refl _ _) nq
              clear hw''
              replace HT := hide ((unhide HT).step hb)
              clear hb
              clear c0 c1 ca df hfst HZ HPN HEE ek
              go_wp2_with fail
              refine (unhide HQE _ ((unhide HT).row.recs (by decide))).mono ?_
              rintro e w5 ⟨rfl, hb⟩
              replace HT := hide ((unhide HT).step hb)
              clear hb HQE
              cases be with
              | true =>
                have HF := hide (unhide HV1 ((unhide HPE).1 (by first | rfl | trivial)))
                clear HV1 HV0 HPE Q1 HV
                go_wp2
                refine bodyPost_ret (v := .tuple #[.slice (some ⟨g, 0, none⟩) L.length rc, .bool true]) (by simp [results, Try.results44, go_sem]) rfl ?_
                show PsAns _ _ _ _ _
                rw [unhide HF]
                exact ⟨_, _, _, rfl, (unhide HT).row.own (by decide), (unhide HT).below⟩
              | false =>
                have HF := hide (unhide HV0 fun h => by have := (unhide HPE).2 h; cases this)
                clear HV1 HV0 HPE HV
                go_wp2_with fail
                refine (unhide Q1 _ (unhide HT).below).mono ?_
                rintro e w6 ⟨sa, sc, rfl, hr, hb⟩
                have HW := hide (Below.step (unhide HT).below hb)
                have hs6 := (unhide HT).below.size
                have HR := hide hr
                clear hr hb Q1 HT
                go_wp2
                refine bodyPost_ret (v := .tuple #[.slice sa L.length sc, .bool false]) (by simp [results, Try.results44, go_sem]) rfl ?_
                show PsAns _ _ _ _ _
                rw [unhide HF]
                exact ⟨_, _, _, rfl, ((unhide HR).own (by decide)).mono (by omega), unhide HW⟩
    · have HPS : Hid (psE L gap i t = mvS L i t) := by show _ = _; unfold psE; rw [unhide EX, if_pos (by omega)]
      have dgt : decide (x0 < t) = false := decide_eq_false hgt
      have dlt : decide (t < x0) = false := decide_eq_false hlt0
      clear hgt hlt0
      rw [← unhide HPS] at HT1
      go_wp2
      clear c0 c1 k0 kf
      have HT := HT1
      clear HT1
      have HZI : Hid (((i : Int) + 1) = ((i : Int) + 1)) := rfl
      go_loopg [9] 0 (fun gg zv wr => ∃ z : Int, gg = 0 ∧ zv = .int .i64 z ∧ Hid (z = ((i : Int) + 1)) ∧ Hid (PsT w wr gb g L.length rc (i : Int) t (psE L gap i t)))
      case atStart => exact ⟨_, rfl, rfl, HZI, HT⟩
      case round =>
        clear HT HZI
        obtain ⟨z, rfl, rfl, HZ, HT⟩ := hrel
        have c0 := (unhide HT).box.cell (i := 0) rfl
        have c1 := (unhide HT).box.cell (i := 1) rfl
        have ca := wcell3 hca (unhide HT).below
        by_cases hfst : z < (L.length : Int)
        · have df : decide (z < (L.length : Int)) = true := decide_eq_true hfst
          go_upto_region 6 with (fail)
          refine wp_region_quiet_lit (by kernel_rfl) (by kernel_rfl) ?_
          repeat (go_big_quiet_step (fail))
          refine wpQuiet_nil ?_
          intro wq hw'
          obtain ⟨nq, hw''⟩ := hw'
          have hb : Below wr.heap.size wr wq := by rw [hw'']; exact below_drewN (Below.refl _ _) nq
          clear hw''
          replace HT := hide ((unhide HT).step hb)
          clear hb
          clear c0 c1 ca df hfst HZ
          have c0 := (unhide HT).box.cell (i := 0) rfl
          have c1 := (unhide HT).box.cell (i := 1) rfl
          go_wp2
          clear c0 c1
          have HZI : Hid (((i : Int) - 1) = ((i : Int) - 1)) := rfl
          go_loopg [10] 0 (fun gg zv wr => ∃ z : Int, gg = 0 ∧ zv = .int .i64 z ∧ Hid (z = ((i : Int) - 1)) ∧ Hid (PsT w wr gb g L.length rc (i : Int) t (psE L gap i t)))
          case atStart => exact ⟨_, rfl, rfl, HZI, HT⟩
          case round =>
            clear HT HZI
            obtain ⟨z, rfl, rfl, HZ, HT⟩ := hrel
            have c0 := (unhide HT).box.cell (i := 0) rfl
            have c1 := (unhide HT).box.cell (i := 1) rfl
            have ca := wcell3 hca (unhide HT).below
            by_cases hfst : 0 ≤ z
            · have df : decide (0 ≤ z) = true := decide_eq_true hfst
              go_upto_region 11 with (fail)
              refine wp_region_quiet_lit (by kernel_rfl) (by kernel_rfl) ?_
              repeat (go_big_quiet_step (fail))
              refine wpQuiet_nil ?_
              intro wq hw'
              obtain ⟨nq, hw''⟩ := hw'
              have hb : Below wr.heap.size wr wq := by rw [hw'']; exact below_drewN (Below.refl _ _) nq
              clear hw''
              replace HT := hide ((unhide HT).step hb)
              clear hb
              clear c0 c1 ca df hfst HZ
              go_wp2_with fail
              refine (unhide HQE _ ((unhide HT).row.recs (by decide))).mono ?_
              rintro e w5 ⟨rfl, hb⟩
              replace HT := hide ((unhide HT).step hb)
              clear hb HQE
              cases be with
              | true =>
                have HF := hide (unhide HV1 ((unhide HPE).1 (by first | rfl | trivial)))
                clear HV1 HV0 HPE Q1 HV
                go_wp2
                refine bodyPost_ret (v := .tuple #[.slice (some ⟨g, 0, none⟩) L.length rc, .bool true]) (by simp [results, Try.results44, go_sem]) rfl ?_
                show PsAns _ _ _ _ _
                rw [unhide HF]
                exact ⟨_, _, _, rfl, (unhide HT).row.own (by decide), (unhide HT).below⟩
              | false =>
                have HF := hide (unhide HV0 fun h => by have := (unhide HPE).2 h; cases this)
                clear HV1 HV0 HPE HV
                go_wp2_with fail
                refine (unhide Q1 _ (unhide HT).below).mono ?_
                rintro e w6 ⟨sa, sc, rfl, hr, hb⟩
                have HW := hide (Below.step (unhide HT).below hb)
                have hs6 := (unhide HT).below.size
                have HR := hide hr
                clear hr hb Q1 HT
                go_wp2
                refine bodyPost_ret (v := .tuple #[.slice sa L.length sc, .bool false]) (by simp [results, Try.results44, go_sem]) rfl ?_
                show PsAns _ _ _ _ _
                rw [unhide HF]
                exact ⟨_, _, _, rfl, ((unhide HR).own (by decide)).mono (by omega), unhide HW⟩
            · have df : decide (0 ≤ z) = false := decide_eq_false hfst
              go_upto_region 11 with (fail)
              refine wp_region_quiet_lit (by kernel_rfl) (by kernel_rfl) ?_
              repeat (go_big_quiet_step (fail))
              refine wpQuiet_nil ?_
              intro wq hw'
              obtain ⟨nq, hw''⟩ := hw'
              have hb : Below wr.heap.size wr wq := by rw [hw'']; exact below_drewN (Below.refl _ _) nq
              clear hw''
              replace HT := hide ((unhide HT).step hb)
              clear hb
              clear c0 c1 ca df hfst HZ
              go_wp2_with fail
              refine (unhide HQE _ ((unhide HT).row.recs (by decide))).mono ?_
              rintro e w5 ⟨rfl, hb⟩
              replace HT := hide ((unhide HT).step hb)
              clear hb HQE
              cases be with
              | true =>
                have HF := hide (unhide HV1 ((unhide HPE).1 (by first | rfl | trivial)))
                clear HV1 HV0 HPE Q1 HV
                go_wp2
                refine bodyPost_ret (v := .tuple #[.slice (some ⟨g, 0, none⟩) L.length rc, .bool true]) (by simp [results, Try.results44, go_sem]) rfl ?_
                show PsAns _ _ _ _ _
                rw [unhide HF]
                exact ⟨_, _, _, rfl, (unhide HT).row.own (by decide), (unhide HT).below⟩
              | false =>
                have HF := hide (unhide HV0 fun h => by have := (unhide HPE).2 h; cases this)
                clear HV1 HV0 HPE HV
                go_wp2_with fail
                refine (unhide Q1 _ (unhide HT).below).mono ?_
                rintro e w6 ⟨sa, sc, rfl, hr, hb⟩
                have HW := hide (Below.step (unhide HT).below hb)
                have hs6 := (unhide HT).below.size
                have HR := hide hr
                clear hr hb Q1 HT
                go_wp2
                refine bodyPost_ret (v := .tuple #[.slice sa L.length sc, .bool false]) (by simp [results, Try.results44, go_sem]) rfl ?_
                show PsAns _ _ _ _ _
                rw [unhide HF]
                exact ⟨_, _, _, rfl, ((unhide HR).own (by decide)).mono (by omega), unhide HW⟩
        · have df : decide (z < (L.length : Int)) = false := decide_eq_false hfst
          go_upto_region 6 with (fail)
          refine wp_region_quiet_lit (by kernel_rfl) (by kernel_rfl) ?_
          repeat (go_big_quiet_step (fail))
          refine wpQuiet_nil ?_
          intro wq hw'
          obtain ⟨nq, hw''⟩ := hw'
          have hb : Below wr.heap.size wr wq := by rw [hw'']; exact below_drewN (Below.refl _ _) nq
          clear hw''
          replace HT := hide ((unhide HT).step hb)
          clear hb
          clear c0 c1 ca df hfst HZ
          have c0 := (unhide HT).box.cell (i := 0) rfl
          have c1 := (unhide HT).box.cell (i := 1) rfl
          go_wp2
          clear c0 c1
          have HZI : Hid (((i : Int) - 1) = ((i : Int) - 1)) := rfl
          go_loopg [10] 0 (fun gg zv wr => ∃ z : Int, gg = 0 ∧ zv = .int .i64 z ∧ Hid (z = ((i : Int) - 1)) ∧ Hid (PsT w wr gb g L.length rc (i : Int) t (psE L gap i t)))
          case atStart => exact ⟨_, rfl, rfl, HZI, HT⟩
          case round =>
            clear HT HZI
            obtain ⟨z, rfl, rfl, HZ, HT⟩ := hrel
            have c0 := (unhide HT).box.cell (i := 0) rfl
            have c1 := (unhide HT).box.cell (i := 1) rfl
            have ca := wcell3 hca (unhide HT).below
            by_cases hfst : 0 ≤ z
            · have df : decide (0 ≤ z) = true := decide_eq_true hfst
              go_upto_region 11 with (fail)
              refine wp_region_quiet_lit (by kernel_rfl) (by kernel_rfl) ?_
              repeat (go_big_quiet_step (fail))
              refine wpQuiet_nil ?_
              intro wq hw'
              obtain ⟨nq, hw''⟩ := hw'
              have hb : Below wr.heap.size wr wq := by rw [hw'']; exact below_drewN (Below.refl _ _) nq
              clear hw''
              replace HT := hide ((unhide HT).step hb)
              clear hb
              clear c0 c1 ca df hfst HZ
              go_wp2_with fail
              refine (unhide HQE _ ((unhide HT).row.recs (by decide))).mono ?_
              rintro e w5 ⟨rfl, hb⟩
              replace HT := hide ((unhide HT).step hb)
              clear hb HQE
              cases be with
              | true =>
                have HF := hide (unhide HV1 ((unhide HPE).1 (by first | rfl | trivial)))
                clear HV1 HV0 HPE Q1 HV
                go_wp2
                refine bodyPost_ret (v := .tuple #[.slice (some ⟨g, 0, none⟩) L.length rc, .bool true]) (by simp [results, Try.results44, go_sem]) rfl ?_
                show PsAns _ _ _ _ _
                rw [unhide HF]
                exact ⟨_, _, _, rfl, (unhide HT).row.own (by decide), (unhide HT).below⟩
              | false =>
                have HF := hide (unhide HV0 fun h => by have := (unhide HPE).2 h; cases this)
                clear HV1 HV0 HPE HV
                go_wp2_with fail
                refine (unhide Q1 _ (unhide HT).below).mono ?_
                rintro e w6 ⟨sa, sc, rfl, hr, hb⟩
                have HW := hide (Below.step (unhide HT).below hb)
                have hs6 := (unhide HT).below.size
                have HR := hide hr
                clear hr hb Q1 HT
                go_wp2
                refine bodyPost_ret (v := .tuple #[.slice sa L.length sc, .bool false]) (by simp [results, Try.results44, go_sem]) rfl ?_
                show PsAns _ _ _ _ _
                rw [unhide HF]
                exact ⟨_, _, _, rfl, ((unhide HR).own (by decide)).mono (by omega), unhide HW⟩
            · have df : decide (0 ≤ z) = false := decide_eq_false hfst
              go_upto_region 11 with (fail)
              refine wp_region_quiet_lit (by kernel_rfl) (by kernel_rfl) ?_
              repeat (go_big_quiet_step (fail))
              refine wpQuiet_nil ?_
              intro wq hw'
              obtain ⟨nq, hw''⟩ := hw'
              have hb : Below wr.heap.size wr wq := by rw [hw'']; exact below_drewN (Below.refl _ _) nq
              clear hw''
              replace HT := hide ((unhide HT).step hb)
              clear hb
              clear c0 c1 ca df hfst HZ
              go_wp2_with fail
              refine (unhide HQE _ ((unhide HT).row.recs (by decide))).mono ?_
              rintro e w5 ⟨rfl, hb⟩
              replace HT := hide ((unhide HT).step hb)
              clear hb HQE
              cases be with
              | true =>
                have HF := hide (unhide HV1 ((unhide HPE).1 (by first | rfl | trivial)))
                clear HV1 HV0 HPE Q1 HV
                go_wp2
                refine bodyPost_ret (v := .tuple #[.slice (some ⟨g, 0, none⟩) L.length rc, .bool true]) (by simp [results, Try.results44, go_sem]) rfl ?_
                show PsAns _ _ _ _ _
                rw [unhide HF]
                exact ⟨_, _, _, rfl, (unhide HT).row.own (by decide), (unhide HT).below⟩
              | false =>
                have HF := hide (unhide HV0 fun h => by have := (unhide HPE).2 h; cases this)
                clear HV1 HV0 HPE HV
                go_wp2_with fail
                refine (unhide Q1 _ (unhide HT).below).mono ?_
                rintro e w6 ⟨sa, sc, rfl, hr, hb⟩
                have HW := hide (Below.step (unhide HT).below hb)
                have hs6 := (unhide HT).below.size
                have HR := hide hr
                clear hr hb Q1 HT
                go_wp2
                refine bodyPost_ret (v := .tuple #[.slice sa L.length sc, .bool false]) (by simp [results, Try.results44, go_sem]) rfl ?_
                show PsAns _ _ _ _ _
                rw [unhide HF]
                exact ⟨_, _, _, rfl, ((unhide HR).own (by decide)).mono (by omega), unhide HW⟩

end Go.Proofs.Ytogoknldhimgfaa

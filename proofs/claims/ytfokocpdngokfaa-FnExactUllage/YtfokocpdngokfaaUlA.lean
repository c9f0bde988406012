/- Contracts of both Ullage. Written by wip/mkul.py. -/
import Derived.Test.YtfokocpdngokfaaEnE
namespace Go.Proofs.Ytfokocpdngokfaa
open Go.RowKit

def ulG (C : List Int) (k : Nat) : Prop := (0 ≤ C.getD k 0 ∧ C.getD k 0 ≤ 100000) ∧ (0 < k → C.getD k 0 < C.getD (k - 1) 0)
instance (C : List Int) (k : Nat) : Decidable (ulG C k) := by unfold ulG; infer_instance
def Ull (C : List Int) : Prop := 2 ≤ C.length ∧ C.length ≤ 30 ∧ ∀ k, k < C.length → ulG C k
instance (C : List Int) : Decidable (Ull C) := by unfold Ull; infer_instance
def ulOk (C : List Int) (s : Int) : Prop := Ull C ∧ 0 ≤ s ∧ s ≤ 100 * ((C.length : Int) - 1)
instance (C : List Int) (s : Int) : Decidable (ulOk C s) := by unfold ulOk; infer_instance
def ulV (C : List Int) (s : Int) : Int × Bool := if ulOk C s then (C.getD (s / 100).toNat 0 - (s % 100) * (C.getD (s / 100).toNat 0 - C.getD (min ((s / 100).toNat + 1) (C.length - 1)) 0) / 100, true) else (0, false)
theorem ulV_not {C : List Int} {s : Int} (h : ¬ ulOk C s) : ulV C s = (0, false) := if_neg h
def ahd (C : List Int) (k : Nat) : Int := if k = 0 then 100001 else C.getD (k - 1) 0
theorem ahd_succ (C : List Int) (k : Nat) : ahd C (k + 1) = C.getD k 0 := by unfold ahd; rw [if_neg (by omega)]; rfl
theorem ahd_bd {C : List Int} {k : Nat} (h : ∀ r, r < k → ulG C r) : 0 ≤ ahd C k ∧ ahd C k ≤ 100001 := by
  unfold ahd
  split
  · omega
  · have := (h (k - 1) (by omega)).1
    omega
theorem ahd_iff {C : List Int} {k : Nat} (h : ∀ r, r < k → ulG C r) : inB (C.getD k 0) 0 (ahd C k - 1) = true ↔ ulG C k := by
  have hb := ahd_bd h
  unfold ulG
  simp only [inB, Bool.and_eq_true, decide_eq_true_eq]
  unfold ahd at *
  by_cases hk : k = 0
  · subst hk
    simp only [if_true]
    omega
  · rw [if_neg hk] at *
    omega
theorem ul_dec {C : List Int} (h : ∀ k, k < C.length → ulG C k) : ∀ (k j : Nat), k + j < C.length → C.getD (k + j) 0 ≤ C.getD k 0
  | k, 0, _ => Int.le_refl _
  | k, j + 1, hj => by
    have h1 := ul_dec h k j (by omega)
    have h2 := (h (k + (j + 1)) hj).2 (by omega)
    rw [show k + (j + 1) - 1 = k + j by omega] at h2
    omega
/-- What the reckoning needs, in numbers. -/
theorem ul_at {w : World} {v : Value} {C : List Int} {s : Int} (h : IntsIn w v C) (hb : ulOk C s) :
    ∃ (b o K U : Nat) (cap : Nat) (x y D pd : Int), v = .slice (some ⟨b, o, none⟩) C.length cap ∧ (K : Int) = s / 100 ∧ D = s % 100 ∧ K < C.length ∧ U < C.length ∧ ((K : Int) + 1 ≤ (C.length : Int) - 1 → U = K + 1) ∧ ((C.length : Int) - 1 < (K : Int) + 1 → (U : Int) = (C.length : Int) - 1) ∧ (D ≠ 0 → U = K + 1) ∧
      w.cell? ⟨b, o + K, none⟩ = some (.int .i64 x) ∧ w.cell? ⟨b, o + U, none⟩ = some (.int .i64 y) ∧ 0 ≤ x ∧ x ≤ 100000 ∧ 0 ≤ y ∧ y ≤ x ∧ pd = D * (x - y) ∧ 0 ≤ pd ∧ pd ≤ 10000000 ∧ ulV C s = (x - pd / 100, true) := by
  obtain ⟨⟨h1, h2, h3⟩, h4, h5⟩ := hb
  obtain ⟨ao, cap, rfl, hl, hm, hc⟩ := h
  obtain ⟨b, o, rfl, -⟩ := hc 0 (by omega)
  have hK : (s / 100).toNat < C.length := by omega
  have hU : min ((s / 100).toNat + 1) (C.length - 1) < C.length := by omega
  obtain ⟨b1, o1, e1, c1⟩ := hc _ hK
  obtain ⟨b2, o2, e2, c2⟩ := hc _ hU
  simp only [Option.some.injEq, Addr.mk.injEq, and_true] at e1 e2
  obtain ⟨rfl, rfl⟩ := e1
  obtain ⟨rfl, rfl⟩ := e2
  have hle : C.getD (min ((s / 100).toNat + 1) (C.length - 1)) 0 ≤ C.getD (s / 100).toNat 0 := by
    have := ul_dec h3 (s / 100).toNat (min ((s / 100).toNat + 1) (C.length - 1) - (s / 100).toNat) (by omega)
    rwa [show (s / 100).toNat + (min ((s / 100).toNat + 1) (C.length - 1) - (s / 100).toNat) = min ((s / 100).toNat + 1) (C.length - 1) by omega] at this
  have hx := (h3 _ hK).1
  have hy := (h3 _ hU).1
  have p0 : 0 ≤ (s % 100) * (C.getD (s / 100).toNat 0 - C.getD (min ((s / 100).toNat + 1) (C.length - 1)) 0) := Int.mul_nonneg (by omega) (by omega)
  have p1 : (s % 100) * (C.getD (s / 100).toNat 0 - C.getD (min ((s / 100).toNat + 1) (C.length - 1)) 0) ≤ 100 * 100000 := Int.mul_le_mul (by omega) (by omega) (by omega) (by omega)
  exact ⟨b, o, (s / 100).toNat, min ((s / 100).toNat + 1) (C.length - 1), cap, _, _, s % 100, _, rfl, by omega, rfl, hK, hU, by omega, by omega, by omega, c1, c2, hx.1, hx.2, hy.1, hle, rfl, p0, by omega, by rw [ulV, if_pos ⟨⟨h1, h2, h3⟩, h4, h5⟩]⟩

set_option maxRecDepth 10000 in
set_option maxHeartbeats 4000000 in
theorem ullagesOk_any (v : Value) (C : List Int) (w : World) (h : IntsIn w v C) :
    Calls Try.prog 48 #[v] w fun e w' => e = .returned (.bool (decide (Ull C))) ∧ Below w.heap.size w w' := by
  obtain ⟨ao, cap, rfl, hl, hm, hc⟩ := h
  unfold maxLen at hm
  have HC := hide hc
  clear hc
  have HQ0 := hide fun V => within_any (C.length : Int) 2 30 V
  cases h0 : inB (C.length : Int) 2 30 with
  | false =>
    rw [h0] at HQ0
    have HF : Hid (decide (Ull C) = false) := decide_eq_false fun h => by
      have h1 := h.1
      have h2 := h.2.1
      simp [inB] at h0
      omega
    clear h0
    go_enter Try.func48, Try.ntmps48
    go_wp2_with fail
    refine (unhide HQ0 _).mono ?_
    rintro e w' ⟨rfl, h9⟩
    have h8 := h9.symm
    subst h8
    clear h9
    go_wp2
    go_ret
    exact ⟨ret_bool (unhide HF).symm, Below.refl _ _⟩
  | true =>
  rw [h0] at HQ0
  have hlen : 2 ≤ C.length ∧ C.length ≤ 30 := by simp [inB] at h0; omega
  clear h0
  go_enter Try.func48, Try.ntmps48
  go_wp2_with fail
  refine (unhide HQ0 _).mono ?_
  rintro e w' ⟨rfl, h9⟩
  have h8 := h9.symm
  subst h8
  clear h9
  go_wp2
  go_loopg [3, 12] C.length (fun g a i wr => Hid (Below w.heap.size w wr) ∧ ∃ k : Nat, k ≤ C.length ∧ g = C.length - k ∧ i = .int .i64 k ∧ a = .int .i64 (ahd C k) ∧ Hid (∀ r, r < k → ulG C r))
  case atStart => exact ⟨Below.refl _ _, 0, Nat.zero_le _, rfl, rfl, rfl, fun r hr => by omega⟩
  case round =>
    obtain ⟨HW, k, hk, rfl, rfl, rfl, HD⟩ := hrel
    by_cases hkn : k < C.length
    · obtain ⟨b, o, rfl, hcell⟩ := unhide HC k hkn
      have g0 := ((unhide HW).cell (lt_of_cell hcell)).trans hcell
      have hki : (k : Int) < C.length := by omega
      have hab := ahd_bd (unhide HD)
      have HI := hide (ahd_iff (unhide HD))
      have HNO : Hid (¬ ulG C k → decide (Ull C) = false) := fun h => decide_eq_false fun h' => h (h'.2.2 k hkn)
      have HYES : Hid (ulG C k → ∀ r, r < k + 1 → ulG C r) := fun h r hr => by
        by_cases e : r = k
        · rw [e]; exact h
        · exact (unhide HD) r (by omega)
      have EA : Hid (ahd C (k + 1) = C.getD k 0) := ahd_succ C k
      generalize C.getD k 0 = x at HI EA g0
      generalize ahd C k = A at *
      obtain ⟨hA0, hA1⟩ := hab
      have HQ := hide fun V => within_any x 0 (A - 1) V
      clear hcell HQ0
      cases h1 : inB x 0 (A - 1) with
      | false =>
        rw [h1] at HQ HI
        go_wp2_with fail
        refine (unhide HQ _).mono ?_
        rintro e w' ⟨rfl, h9⟩
        have h8 := h9.symm
        subst h8
        clear h9
        go_wp2
        go_ret
        exact ⟨ret_bool (unhide HNO (fun h => by have := (unhide HI).2 h; cases this)).symm, unhide HW⟩
      | true =>
        rw [h1] at HQ HI
        go_wp2_with fail
        refine (unhide HQ _).mono ?_
        rintro e w' ⟨rfl, h9⟩
        have h8 := h9.symm
        subst h8
        clear h9
        go_wp2
        go_roundg (C.length - (k + 1))
        case measure => omega
        case rel => exact ⟨unhide HW, k + 1, by omega, rfl, by go_num, by rw [unhide EA], unhide HYES ((unhide HI).1 (by first | rfl | trivial))⟩
    · have HF : Hid (decide (Ull C) = true) := decide_eq_true ⟨hlen.1, hlen.2, fun r hr => (unhide HD) r (by omega)⟩
      go_wp2
      go_ret
      exact ⟨ret_bool (unhide HF).symm, unhide HW⟩

set_option maxRecDepth 1000000 in
set_option maxHeartbeats 4000000 in
theorem specUllage_any (v : Value) (C : List Int) (s : Int) (w : World) (h : IntsIn w v C) :
    Calls Try.prog 34 #[v, .int .i64 s] w fun e w' => e = .returned (.tuple #[.int .i64 (ulV C s).1, .bool (ulV C s).2]) ∧ Below w.heap.size w w' := by
  have HV := hide h
  have HAT := hide fun hb => ul_at (s := s) h hb
  obtain ⟨ao, cap, rfl, hl, hm, hc⟩ := h
  unfold maxLen at hm
  have HC := hide hc
  clear hc
  have HW := hide (Below.refl w.heap.size w)
  have QL := hide fun V => l1In_any (C.length : Int) 2 30 V
  have QA := hide fun V (hV : Below w.heap.size w V) => l3AllE_any _ C V ((unhide HV).below hV)
  have QS := hide fun V => l1In_any s 0 (100 * ((C.length : Int) - 1)) V
  have HNOT : Hid ((inB (C.length : Int) 2 30 && (decide (allC C) && inB s 0 (100 * ((C.length : Int) - 1)))) = false → ulV C s = (0, false)) := fun h => ulV_not fun hb => by
    obtain ⟨⟨h1, h2, h3⟩, h4, h5⟩ := hb
    have e1 : inB (C.length : Int) 2 30 = true := by simp [inB]; omega
    have e2 : decide (allC C) = true := decide_eq_true fun i hi => (h3 i hi).1
    have e3 : inB s 0 (100 * ((C.length : Int) - 1)) = true := by simp [inB]; omega
    rw [e1, e2, e3] at h
    cases h
  have HALL : Hid (decide (allC C) = true → allC C) := of_decide_eq_true
  have HSB : Hid (inB s 0 (100 * ((C.length : Int) - 1)) = true → 0 ≤ s ∧ s ≤ 100 * ((C.length : Int) - 1)) := inB_true
  have HLB : Hid (inB (C.length : Int) 2 30 = true → 2 ≤ C.length ∧ C.length ≤ 30) := fun e => by simp [inB] at e; omega
  generalize inB (C.length : Int) 2 30 = b1 at QL HNOT HLB
  generalize decide (allC C) = b2 at QA HNOT HALL
  generalize inB s 0 (100 * ((C.length : Int) - 1)) = b3 at QS HNOT HSB
  go_enter Try.func34, Try.ntmps34
  go_wp2_with fail
  refine (unhide QL _).mono ?_
  rintro e w9 ⟨rfl, h9⟩
  have h8 := h9.symm
  subst h8
  clear h9
  cases b1 with
  | false =>
    have HF := hide (unhide HNOT (by first | rfl | simp))
    go_wp2
    refine bodyPost_ret (v := .tuple #[.int .i64 0, .bool false]) (by simp [results, Try.results34, go_sem]) rfl ⟨ret_burn (unhide HF), unhide HW⟩
  | true =>
  obtain ⟨hlo, hhi⟩ := unhide HLB (by first | rfl | trivial)
  go_wp2_with fail
  refine (unhide QA _ (unhide HW)).mono ?_
  rintro e w1 ⟨rfl, hb⟩
  replace HW := hide (Below.step (unhide HW) hb)
  clear hb
  cases b2 with
  | false =>
    have HF := hide (unhide HNOT (by first | rfl | simp))
    go_wp2
    refine bodyPost_ret (v := .tuple #[.int .i64 0, .bool false]) (by simp [results, Try.results34, go_sem]) rfl ⟨ret_burn (unhide HF), unhide HW⟩
  | true =>
  have q10 : IntKind.i64.wrap (100 * ((C.length : Int) - 1)) = 100 * ((C.length : Int) - 1) := by rw [IntKind.wrap_i64]; omega
  go_wp2_with fail
  refine (unhide QS _).mono ?_
  rintro e w9 ⟨rfl, h9⟩
  have h8 := h9.symm
  subst h8
  clear h9
  cases b3 with
  | false =>
    have HF := hide (unhide HNOT (by first | rfl | simp))
    go_wp2
    refine bodyPost_ret (v := .tuple #[.int .i64 0, .bool false]) (by simp [results, Try.results34, go_sem]) rfl ⟨ret_burn (unhide HF), unhide HW⟩
  | true =>
  have HA := hide (unhide HALL (by first | rfl | trivial))
  obtain ⟨hs0, hs1⟩ := unhide HSB (by first | rfl | trivial)
  clear HALL HSB HLB HNOT QL QA QS HV
  go_wp2
  go_loopg [6] C.length (fun g i wr => Hid (Below w.heap.size w wr) ∧ ∃ k : Nat, k ≤ C.length ∧ 1 ≤ k ∧ g = C.length + 1 - k ∧ i = .int .i64 k ∧ Hid (∀ r, r < k → ulG C r))
  case atStart => exact ⟨unhide HW, 1, by omega, Nat.le_refl _, rfl, rfl, fun r hr => ⟨unhide HA r (by omega), fun h => by omega⟩⟩
  case round =>
    clear HW
    obtain ⟨HW, k, hk, hk1, rfl, rfl, HD⟩ := hrel
    by_cases hkn : k < C.length
    · obtain ⟨b, o, rfl, hcell⟩ := unhide HC k hkn
      obtain ⟨b', o', e', hcell'⟩ := unhide HC (k - 1) (by omega)
      simp only [Option.some.injEq, Addr.mk.injEq, and_true] at e'
      obtain ⟨rfl, rfl⟩ := e'
      have g0 := ((unhide HW).cell (lt_of_cell hcell)).trans hcell
      have g1 := ((unhide HW).cell (lt_of_cell hcell')).trans hcell'
      obtain ⟨j, ej⟩ : ∃ j, j = k - 1 := ⟨_, rfl⟩
      rw [← ej] at g1
      have hki : (k : Int) < C.length := by omega
      have hj : ((k : Int) - 1) = (j : Int) := by omega
      have hji : (j : Int) < C.length := by omega
      have EG : Hid (C.getD k 0 < C.getD j 0 → ulG C k) := fun h => ⟨unhide HA k hkn, fun _ => by rw [← ej]; exact h⟩
      have EN : Hid (¬ C.getD k 0 < C.getD j 0 → ulV C s = (0, false)) := fun h => ulV_not fun hb => by
        have := (hb.1.2.2 k hkn).2 (by omega)
        rw [← ej] at this
        exact h this
      have HYES : Hid (ulG C k → ∀ r, r < k + 1 → ulG C r) := fun h r hr => by
        by_cases e : r = k
        · rw [e]; exact h
        · exact (unhide HD) r (by omega)
      generalize C.getD k 0 = x at EG EN g0
      generalize C.getD j 0 = y at EG EN g1
      clear hcell hcell' ej HAT HC HA HD
      by_cases hxy : x < y
      · have hd : decide (y ≤ x) = false := decide_eq_false (by omega)
        have H1 := hide (unhide HYES (unhide EG hxy))
        clear EG EN HYES
        go_wp2
        go_quiet (fail)
        go_wp2
        go_roundg (C.length + 1 - (k + 1))
        case measure => omega
        case rel => exact ⟨below_drewN (unhide HW) _, k + 1, by omega, by omega, rfl, by go_num, unhide H1⟩
      · have hd : decide (y ≤ x) = true := decide_eq_true (by omega)
        have HF := hide (unhide EN hxy)
        clear EG EN HYES
        go_wp2
        go_quiet (fail)
        go_wp2
        refine bodyPost_ret (v := .tuple #[.int .i64 0, .bool false]) (by simp [results, Try.results34, go_sem]) rfl ⟨ret_burn (unhide HF), below_drewN (unhide HW) _⟩
    · have hok : ulOk C s := ⟨⟨hlo, hhi, fun r hr => unhide HD r (by omega)⟩, hs0, hs1⟩
      have hki : ¬ (k : Int) < C.length := by omega
      clear HC HA HD
      obtain ⟨b, o, K, U, cap', x, y, D, pd, ev, eK, eD, hK, hU, hU1, hU2, hDU, c1, c2, x0, x1, y0, y1, epd, pd0, pd1, eB⟩ := unhide HAT hok
      simp only [Value.slice.injEq] at ev
      obtain ⟨rfl, -, rfl⟩ := ev
      have g1 := ((unhide HW).cell (lt_of_cell c1)).trans c1
      have g2 := ((unhide HW).cell (lt_of_cell c2)).trans c2
      have HF := hide eB
      clear eB
      have k1 : s.tdiv 100 = (K : Int) := by rw [Int.tdiv_eq_ediv_of_nonneg hs0]; omega
      have k2 : s.tmod 100 = D := by rw [Int.tmod_eq_emod_of_nonneg hs0]; omega
      have k3 : s / 100 = (K : Int) := by omega
      have k4 : s % 100 = D := by omega
      have D0 : 0 ≤ D := by omega
      have D9 : D ≤ 99 := by omega
      have hKi : (K : Int) < C.length := by omega
      have hUi : (U : Int) < C.length := by omega
      have p1 : IntKind.i64.wrap (D * (x - y)) = pd := by rw [← epd, IntKind.wrap_i64]; omega
      have p6 : pd.tdiv 100 = pd / 100 := Int.tdiv_eq_ediv_of_nonneg pd0
      have HE := hide epd
      clear HAT hok c1 c2 eK eD
      by_cases hD : D = 0
      · have e2 : pd = 0 := by rw [epd, hD, Int.zero_mul]
        have HF2 : Hid (ulV C s = (x, true)) := by show _ = _; rw [unhide HF, e2]; simp
        have HD0 := hide hD
        have d0 : (D == 0) = true := by rw [hD]; rfl
        clear epd e2 hD HF p1 p6 hDU hU1 hU2
        go_wp2
        refine bodyPost_ret (v := .tuple #[.int .i64 x, .bool true]) (by simp [results, Try.results34, go_sem]) rfl ⟨ret_burn (unhide HF2), unhide HW⟩
      · have e1 := hDU hD
        subst e1
        have d0 : (D == 0) = false := by simpa using hD
        clear epd hD
        have hKi2 : (K : Int) + 1 < C.length := by omega
        go_wp2
        go_quiet (fail)
        go_wp2
        refine bodyPost_ret (v := .tuple #[.int .i64 (x - pd / 100), .bool true]) (by simp [results, Try.results34, go_sem]) rfl ⟨ret_burn (unhide HF), below_drewN (unhide HW) _⟩

set_option maxRecDepth 1000000 in
set_option maxHeartbeats 4000000 in
theorem implUllage_any (v : Value) (C : List Int) (s : Int) (w : World) (h : IntsIn w v C) :
    Calls Try.prog 16 #[v, .int .i64 s] w fun e w' => e = .returned (.tuple #[.int .i64 (ulV C s).1, .bool (ulV C s).2]) ∧ Below w.heap.size w w' := by
  have HV := hide h
  have HAT := hide fun hb => ul_at (s := s) h hb
  obtain ⟨ao, cap, rfl, hl, hm, hc⟩ := h
  unfold maxLen at hm
  clear hc
  have HW := hide (Below.refl w.heap.size w)
  have QC := hide fun V (hV : Below w.heap.size w V) => ullagesOk_any _ C V ((unhide HV).below hV)
  have QS := hide fun V => within_any s 0 (((C.length : Int) - 1) * 100) V
  have HNOT : Hid ((decide (Ull C) && inB s 0 (((C.length : Int) - 1) * 100)) = false → ulV C s = (0, false)) := fun h => ulV_not fun hb => by
    obtain ⟨h3, h4, h5⟩ := hb
    have e2 : decide (Ull C) = true := decide_eq_true h3
    have e3 : inB s 0 (((C.length : Int) - 1) * 100) = true := by simp [inB]; omega
    rw [e2, e3] at h
    cases h
  have HYES : Hid (decide (Ull C) = true → inB s 0 (((C.length : Int) - 1) * 100) = true → ulOk C s) := fun e2 e3 => by
    have h3 := of_decide_eq_true e2
    simp [inB] at e3
    exact ⟨h3, by omega, by omega⟩
  have HLB : Hid (decide (Ull C) = true → 2 ≤ C.length ∧ C.length ≤ 30) := fun e => by have := of_decide_eq_true e; exact ⟨this.1, this.2.1⟩
  generalize decide (Ull C) = b2 at QC HNOT HYES HLB
  generalize inB s 0 (((C.length : Int) - 1) * 100) = b3 at QS HNOT HYES
  go_enter Try.func16, Try.ntmps16
  go_wp2_with fail
  refine (unhide QC _ (unhide HW)).mono ?_
  rintro e w1 ⟨rfl, hb⟩
  replace HW := hide (Below.step (unhide HW) hb)
  clear hb
  cases b2 with
  | false =>
    have HF := hide (unhide HNOT (by first | rfl | simp))
    go_wp2
    refine bodyPost_ret (v := .tuple #[.int .i64 0, .bool false]) (by simp [results, Try.results16, go_sem]) rfl ⟨ret_burn (unhide HF), unhide HW⟩
  | true =>
  obtain ⟨hlo, hhi⟩ := unhide HLB (by first | rfl | trivial)
  have q10 : IntKind.i64.wrap (((C.length : Int) - 1) * 100) = ((C.length : Int) - 1) * 100 := by rw [IntKind.wrap_i64]; omega
  go_wp2_with fail
  refine (unhide QS _).mono ?_
  rintro e w9 ⟨rfl, h9⟩
  have h8 := h9.symm
  subst h8
  clear h9
  cases b3 with
  | false =>
    have HF := hide (unhide HNOT (by first | rfl | simp))
    go_wp2
    refine bodyPost_ret (v := .tuple #[.int .i64 0, .bool false]) (by simp [results, Try.results16, go_sem]) rfl ⟨ret_burn (unhide HF), unhide HW⟩
  | true =>
  have hok := unhide HYES (by first | rfl | trivial) (by first | rfl | trivial)
  obtain ⟨b, o, K, U, cap', x, y, D, pd, ev, eK, eD, hK, hU, hU1, hU2, hDU, c1, c2, x0, x1, y0, y1, epd, pd0, pd1, eB⟩ := unhide HAT hok
  simp only [Value.slice.injEq] at ev
  obtain ⟨rfl, -, rfl⟩ := ev
  have g1 := ((unhide HW).cell (lt_of_cell c1)).trans c1
  have g2 := ((unhide HW).cell (lt_of_cell c2)).trans c2
  have HF := hide eB
  clear eB
  obtain ⟨hs0, hs1⟩ := hok.2
  have k1 : s.tdiv 100 = (K : Int) := by rw [Int.tdiv_eq_ediv_of_nonneg hs0]; omega
  have k2 : s.tmod 100 = D := by rw [Int.tmod_eq_emod_of_nonneg hs0]; omega
  have k3 : s / 100 = (K : Int) := by omega
  have k4 : s % 100 = D := by omega
  have D0 : 0 ≤ D := by omega
  have D9 : D ≤ 99 := by omega
  have hKi : (K : Int) < C.length := by omega
  have hUi : (U : Int) < C.length := by omega
  have p1 : IntKind.i64.wrap (D * (x - y)) = pd := by rw [← epd, IntKind.wrap_i64]; omega
  have p6 : pd.tdiv 100 = pd / 100 := Int.tdiv_eq_ediv_of_nonneg pd0
  have HE := hide epd
  clear HAT HYES HNOT HLB hok c1 c2 eK eD
  clear epd
  by_cases hc : (K : Int) + 1 ≤ (C.length : Int) - 1
  · have e1 := hU1 hc
    subst e1
    have hKi2 : (K : Int) + 1 < C.length := by omega
    go_wp2
    all_goals
      first
      | (exfalso; omega)
      | (go_quiet (fail)
         go_wp2
         refine bodyPost_ret (v := .tuple #[.int .i64 (x - pd / 100), .bool true]) (by simp [results, Try.results16, go_sem]) rfl ⟨ret_burn (unhide HF), below_drewN (unhide HW) _⟩)
  · have e1 := hU2 (by omega)
    have E1 := hide e1
    clear e1 hU1 hU2 hDU
    go_wp2
    all_goals
      first
      | (exfalso; omega)
      | (rw [← unhide E1]
         go_quiet (fail)
         go_wp2
         refine bodyPost_ret (v := .tuple #[.int .i64 (x - pd / 100), .bool true]) (by simp [results, Try.results16, go_sem]) rfl ⟨ret_burn (unhide HF), below_drewN (unhide HW) _⟩)

end Go.Proofs.Ytfokocpdngokfaa

/- Stowage: what stands behind a port, in numbers; the program's words for it. Written by wip/mksto2.py. -/
import Derived.Test.YtdkfleodgdpckaaStoH
import Derived.Test.YtdkfleodgdpckaaStoI
import Derived.Test.YtdkfleodgdpckaaStoU
namespace Go.Proofs.Ytdkfleodgdpckaa
open Go.RowKit

/-- A stow that is under way at port p; one that is loaded there. -/
def her1 (p : Int) (x : StowT) : Bool := inB p (frS x) (toS x)
def pla1 (p : Int) (x : StowT) : Bool := decide (frS x = p)
def hereB (L : List StowT) (p : Int) : Bool := L.all (her1 p)
def planB (L : List StowT) (p : Int) : Bool := L.all (pla1 p)
theorem hereB_all {L : List StowT} {p : Int} (h : ∀ r, r < L.length → her1 p (stO L r) = true) : hereB L p = true := all_true h
theorem hereB_bad {L : List StowT} {p : Int} {k : Nat} (hk : k < L.length) (h : her1 p (stO L k) = false) : hereB L p = false := all_false hk h
theorem planB_all {L : List StowT} {p : Int} (h : ∀ r, r < L.length → pla1 p (stO L r) = true) : planB L p = true := all_true h
theorem planB_bad {L : List StowT} {p : Int} {k : Nat} (hk : k < L.length) (h : pla1 p (stO L k) = false) : planB L p = false := all_false hk h
/-- Those of the first k that stay. -/
def stayT (L : List StowT) (p : Int) : Nat → List StowT
  | 0 => []
  | k + 1 => stayT L p k ++ (if toS (stO L k) = p then [] else [stO L k])
def stayL (L : List StowT) (p : Int) : List StowT := stayT L p L.length
theorem stayT_len (L : List StowT) (p : Int) : ∀ k, (stayT L p k).length ≤ k
  | 0 => Nat.le_refl _
  | k + 1 => by
    have := stayT_len L p k
    rw [stayT, List.length_append]
    split <;> simp <;> omega
/-- What is told behind a port. -/
def apC (H : List HatchT) (L : List StowT) (p : Int) (P : List StowT) : Int :=
  if (wellB H L && decide (P.length ≤ 40) && inB p 0 19) = false then 1 else if (hereB L p && planB P p) = false then 2 else if wellB H (stayL L p ++ P) = false then 3 else 0
def apV0 (H : List HatchT) (L : List StowT) (p : Int) (P : List StowT) : List StowT := if apC H L p P = 0 then stayL L p ++ P else L
def apV1 (H : List HatchT) (L : List StowT) (p : Int) (P : List StowT) : Int := if apC H L p P = 0 then ((shV L p).length : Int) else 0
theorem ap_not {H : List HatchT} {L : List StowT} {p : Int} {P : List StowT} {c : Int} (h : apC H L p P = c) (hc : c ≠ 0) : apV0 H L p P = L ∧ apV1 H L p P = 0 := by
  unfold apV0 apV1
  rw [h, if_neg hc, if_neg hc]
  exact ⟨rfl, rfl⟩
theorem ap_done {H : List HatchT} {L : List StowT} {p : Int} {P : List StowT} (h : apC H L p P = 0) : apV0 H L p P = stayL L p ++ P ∧ apV1 H L p P = ((shV L p).length : Int) := by
  unfold apV0 apV1
  rw [if_pos h, if_pos h]
  exact ⟨rfl, rfl⟩
theorem apC_1 {H : List HatchT} {L : List StowT} {p : Int} {P : List StowT} (h : (wellB H L && decide (P.length ≤ 40) && inB p 0 19) = false) : apC H L p P = 1 := by rw [apC, if_pos h]
theorem apC_2 {H : List HatchT} {L : List StowT} {p : Int} {P : List StowT} (h : (wellB H L && decide (P.length ≤ 40) && inB p 0 19) = true) (h2 : (hereB L p && planB P p) = false) : apC H L p P = 2 := by rw [apC, if_neg (by rw [h]; decide), if_pos h2]
theorem apC_3 {H : List HatchT} {L : List StowT} {p : Int} {P : List StowT} (h : (wellB H L && decide (P.length ≤ 40) && inB p 0 19) = true) (h2 : (hereB L p && planB P p) = true) (h3 : wellB H (stayL L p ++ P) = false) : apC H L p P = 3 := by rw [apC, if_neg (by rw [h]; decide), if_neg (by rw [h2]; decide), if_pos h3]
theorem apC_0 {H : List HatchT} {L : List StowT} {p : Int} {P : List StowT} (h : (wellB H L && decide (P.length ≤ 40) && inB p 0 19) = true) (h2 : (hereB L p && planB P p) = true) (h3 : wellB H (stayL L p ++ P) = true) : apC H L p P = 0 := by rw [apC, if_neg (by rw [h]; decide), if_neg (by rw [h2]; decide), if_neg (by rw [h3]; decide)]
theorem apV0_len (H : List HatchT) (L : List StowT) (p : Int) (P : List StowT) : (apV0 H L p P).length ≤ 40 ∨ (apV0 H L p P).length ≤ L.length := by
  by_cases h : apC H L p P = 0
  · left
    have hd := (ap_done h).1
    have hw : wellB H (stayL L p ++ P) = true := by
      unfold apC at h
      split at h
      · omega
      · split at h
        · omega
        · split at h
          · omega
          next h3 => simpa using h3
    rw [hd]
    exact (wellB_iff.1 hw).2.1
  · right
    rw [(ap_not rfl h).1]
    exact Nat.le_refl _

set_option maxRecDepth 10000 in
set_option maxHeartbeats 1600000 in
theorem ownCopyStow_any (ar : Option Addr) (m cr : Nat) (L : List StowT) (w : World) (h : RStow w (.slice ar m cr) L) (hm : m ≤ 1048576) :
    Calls Try.prog 63 #[.slice ar m cr] w fun e w' => e = .returned (.slice (some ⟨w.heap.size, 0, none⟩) m m) ∧ OwnV w' w.heap.size (recCells 9 eStow L) ∧ Below w.heap.size w w' := by
  have hlen : L.length = m := by
    obtain ⟨ao', cap', e, _⟩ := h
    simp only [Value.slice.injEq] at e
    exact e.2.1.symm
  have hmk := run_make_recs (P := Try.prog) 33 44 _ 9 80 Try.underlying33 Try.infoStow .i64 .i64 m (by omega) (by omega)
  obtain ⟨Z, eZ⟩ : ∃ Z, Z = (vStow ⟨#[]⟩ 0 0 false 0 0 0 0 0).cells := ⟨_, rfl⟩
  rw [← eZ] at hmk
  have hsz : (Try.prog.info? 44).map (·.size) = some 9 := by
    obtain ⟨i0, hi, hz⟩ := Option.map_eq_some_iff.1 Try.infoStow
    simp only [Prod.mk.injEq] at hz
    rw [hi, Option.map_some, hz.2.1]
  have HSRC := hide (recs_src h)
  have HCS : Hid (((recCells 9 eStow L)).length = (m * 9)) := by show _ = _; rw [recCells_length, hlen]
  have H1 : Hid (∀ v ∈ (recCells 9 eStow L), v.oneCell' = true) := fun v hv => by
    exact tyStow.cells L v hv
  have A := Below.alloc1 w (.cells (madeCells Z (m * 9)) 44)
  have HW := hide A
  have O := ownV_alloc w (madeCells Z (m * 9)) 44
  have HO := hide O
  have hzl : (madeCells Z (m * 9)).toList.length = (m * 9) := by simp [madeCells]
  have HZL := hide hzl
  have HSRC2 : Hid (0 < m → ∃ ad, ar = some ad ∧ ∀ j v, ((recCells 9 eStow L))[j]? = some v → (w.alloc (.cells (madeCells Z (m * 9)) 44)).cell? (ad.add j) = some v) := fun hp => by
    obtain ⟨ad, e, hx⟩ := unhide HSRC hp
    exact ⟨ad, e, fun j v hj => ((A.cell (lt_of_cell (hx j v hj))).trans (hx j v hj))⟩
  obtain ⟨w1, hrun, hO1, hb1⟩ := run_copy_all 33 33 44 9 Try.underlying33 hsz w.heap.size m m ar cr _ _ (unhide HO) (by rw [unhide HZL, unhide HCS]) (unhide HCS) (unhide HSRC2) (unhide H1) w.heap.size w (unhide HW) (Nat.le_refl _)
  have HO1 := hide hO1
  have HW1 := hide hb1
  clear h eZ A O hzl HSRC hsz HO HW HSRC2 H1 HCS HZL hO1 hb1 hlen
  go_enter Try.func63, Try.ntmps63
  go_wp2
  go_ret
  exact ⟨rfl, unhide HO1, unhide HW1⟩

theorem isStowedWell_any (bv lv : Value) (H : List HatchT) (L : List StowT) (w : World) (hH : RHatch w bv H) (hL : RStow w lv L) :
    Calls Try.prog 61 #[bv, lv] w fun e w' => e = .returned (.bool (wellB H L)) ∧ Below w.heap.size w w' := by
  have Q := hide (implStowCode_any bv lv H L w hH hL)
  obtain ⟨ao, cap, rfl, _⟩ := hL
  obtain ⟨ho, hcap, rfl, _⟩ := hH
  have E : Hid (wellB H L = decide ((stowC H L).1 = 0)) := rfl
  generalize stowC H L = C at *
  obtain ⟨c, k⟩ := C
  dsimp only at Q E
  by_cases hc : c = 0
  · rw [decide_eq_true hc] at E
    have d1 : (c == 0) = true := by simp [hc]
    have d2 : decide (c = 0) = true := by simp [hc]
    have HC := hide hc
    clear hc
    go_enter Try.func61, Try.ntmps61
    go_wp2_with fail
    refine (unhide Q).mono ?_
    rintro e w1 ⟨rfl, hb⟩
    have HW := hide hb
    clear hb Q
    go_wp2
    go_ret
    exact ⟨by rw [unhide E]; rfl, unhide HW⟩
  · rw [decide_eq_false hc] at E
    have d1 : (c == 0) = false := by simp [hc]
    have d2 : decide (c = 0) = false := by simp [hc]
    have HC := hide hc
    clear hc
    go_enter Try.func61, Try.ntmps61
    go_wp2_with fail
    refine (unhide Q).mono ?_
    rintro e w1 ⟨rfl, hb⟩
    have HW := hide hb
    clear hb Q
    go_wp2
    go_ret
    exact ⟨by rw [unhide E]; rfl, unhide HW⟩

set_option maxRecDepth 10000 in
set_option maxHeartbeats 3200000 in
theorem isUnderWay_any (v : Value) (L : List StowT) (p : Int) (w : World) (h : RStow w v L) :
    Calls Try.prog 64 #[v, .int .i64 p] w fun e w' => e = .returned (.bool (hereB L p)) ∧ Below w.heap.size w w' := by
  obtain ⟨ao, cap, rfl, hl, hm, hc⟩ := h
  unfold maxLen at hm
  have HC := hide hc
  clear hc
  have E1 : Hid ((∀ r, r < L.length → her1 p (stO L r) = true) → hereB L p = true) := hereB_all
  have E2 : Hid (∀ k, k < L.length → her1 p (stO L k) = false → hereB L p = false) := fun k => hereB_bad
  go_enter Try.func64, Try.ntmps64
  go_wp2
  go_loopg [9] L.length (fun g i wr => ∃ k : Nat, k ≤ L.length ∧ g = L.length - k ∧ i = .int .i64 k ∧ Hid (∀ r, r < k → her1 p (stO L r) = true) ∧ Hid (Below w.heap.size w wr))
  case atStart => exact ⟨0, Nat.zero_le _, rfl, rfl, fun r hr => by omega, Below.refl _ _⟩
  case round =>
    obtain ⟨k, hk, rfl, rfl, HA, HW⟩ := hrel
    by_cases hkn : k < L.length
    · have HAk := hide (unhide E2 k hkn)
      obtain ⟨b, o, n0, wt, cl, co, fr, to, sx, sy, sz, rfl, hc0, hc1, hc2, hc3, hc4, hc5, hc6, hc7, hc8, EX⟩ := recStowAt (unhide HC) hkn
      have g0 := ((unhide HW).cell (lt_of_cell hc0)).trans hc0
      have g1 := ((unhide HW).cell (lt_of_cell hc1)).trans hc1
      have g2 := ((unhide HW).cell (lt_of_cell hc2)).trans hc2
      have g3 := ((unhide HW).cell (lt_of_cell hc3)).trans hc3
      have g4 := ((unhide HW).cell (lt_of_cell hc4)).trans hc4
      have g5 := ((unhide HW).cell (lt_of_cell hc5)).trans hc5
      have g6 := ((unhide HW).cell (lt_of_cell hc6)).trans hc6
      have g7 := ((unhide HW).cell (lt_of_cell hc7)).trans hc7
      have g8 := ((unhide HW).cell (lt_of_cell hc8)).trans hc8
      have ESP : Hid (ssp (stO L k) = (sx, sy, sz)) := by show _ = _; unfold stO; rw [unhide EX]; rfl
      have EBX : Hid (sbx (stO L k) = (n0, wt, cl, co, fr, to)) := by show _ = _; unfold stO; rw [unhide EX]; rfl
      clear hc0 hc1 hc2 hc3 hc4 hc5 hc6 hc7 hc8
      have EO : Hid (her1 p (stO L k) = inB p fr to) := by show _ = _; unfold stO; rw [unhide EX]; rfl
      have HA1 : Hid (her1 p (stO L k) = true → ∀ r, r < k + 1 → her1 p (stO L r) = true) := fun h r hr => by
        by_cases e : r = k
        · rw [e]; exact h
        · exact unhide HA r (by omega)
      rw [unhide EO] at HAk HA1
      have hA := Below.alloc1 wr (.cells #[.string n0, .int .i64 wt, .int .i64 cl, .bool co, .int .i64 fr, .int .i64 to, .int .i64 sx, .int .i64 sy, .int .i64 sz] 44)
      have HW1 := hide (Below.step (unhide HW) hA)
      have hki : (k : Int) < L.length := by omega
      clear EX EBX ESP hA HW EO HA
      have QI := hide fun V => within_any p fr to V
      generalize inB p fr to = r at *
      go_wp2_with fail
      refine (unhide QI _).mono ?_
      rintro e w2 ⟨rfl, rfl⟩
      clear QI
      cases r with
      | false =>
        have E := hide (unhide HAk rfl)
        clear HAk HA1 E1 E2
        go_wp2
        go_ret
        exact ⟨by rw [unhide E]; rfl, unhide HW1⟩
      | true =>
        replace HA1 := hide (unhide HA1 rfl)
        clear HAk
        go_wp2
        go_roundg (L.length - (k + 1))
        case measure => omega
        case rel => exact ⟨k + 1, by omega, rfl, by go_num, unhide HA1, unhide HW1⟩
    · have hki : ¬ (k : Int) < L.length := by omega
      have hkk : k = L.length := by omega
      have E := hide (unhide E1 (by rw [← hkk]; exact unhide HA))
      clear hkk E1
      go_wp2
      go_ret
      exact ⟨by rw [unhide E]; rfl, unhide HW⟩

set_option maxRecDepth 10000 in
set_option maxHeartbeats 3200000 in
theorem isLoadedAt_any (v : Value) (L : List StowT) (p : Int) (w : World) (h : RStow w v L) :
    Calls Try.prog 65 #[v, .int .i64 p] w fun e w' => e = .returned (.bool (planB L p)) ∧ Below w.heap.size w w' := by
  obtain ⟨ao, cap, rfl, hl, hm, hc⟩ := h
  unfold maxLen at hm
  have HC := hide hc
  clear hc
  have E1 : Hid ((∀ r, r < L.length → pla1 p (stO L r) = true) → planB L p = true) := planB_all
  have E2 : Hid (∀ k, k < L.length → pla1 p (stO L k) = false → planB L p = false) := fun k => planB_bad
  go_enter Try.func65, Try.ntmps65
  go_wp2
  go_loopg [9] L.length (fun g i wr => ∃ k : Nat, k ≤ L.length ∧ g = L.length - k ∧ i = .int .i64 k ∧ Hid (∀ r, r < k → pla1 p (stO L r) = true) ∧ Hid (Below w.heap.size w wr))
  case atStart => exact ⟨0, Nat.zero_le _, rfl, rfl, fun r hr => by omega, Below.refl _ _⟩
  case round =>
    obtain ⟨k, hk, rfl, rfl, HA, HW⟩ := hrel
    by_cases hkn : k < L.length
    · have HAk := hide (unhide E2 k hkn)
      obtain ⟨b, o, n0, wt, cl, co, fr, to, sx, sy, sz, rfl, hc0, hc1, hc2, hc3, hc4, hc5, hc6, hc7, hc8, EX⟩ := recStowAt (unhide HC) hkn
      have g0 := ((unhide HW).cell (lt_of_cell hc0)).trans hc0
      have g1 := ((unhide HW).cell (lt_of_cell hc1)).trans hc1
      have g2 := ((unhide HW).cell (lt_of_cell hc2)).trans hc2
      have g3 := ((unhide HW).cell (lt_of_cell hc3)).trans hc3
      have g4 := ((unhide HW).cell (lt_of_cell hc4)).trans hc4
      have g5 := ((unhide HW).cell (lt_of_cell hc5)).trans hc5
      have g6 := ((unhide HW).cell (lt_of_cell hc6)).trans hc6
      have g7 := ((unhide HW).cell (lt_of_cell hc7)).trans hc7
      have g8 := ((unhide HW).cell (lt_of_cell hc8)).trans hc8
      have ESP : Hid (ssp (stO L k) = (sx, sy, sz)) := by show _ = _; unfold stO; rw [unhide EX]; rfl
      have EBX : Hid (sbx (stO L k) = (n0, wt, cl, co, fr, to)) := by show _ = _; unfold stO; rw [unhide EX]; rfl
      clear hc0 hc1 hc2 hc3 hc4 hc5 hc6 hc7 hc8
      have EO : Hid (pla1 p (stO L k) = decide (fr = p)) := by show _ = _; unfold stO; rw [unhide EX]; rfl
      have HA1 : Hid (pla1 p (stO L k) = true → ∀ r, r < k + 1 → pla1 p (stO L r) = true) := fun h r hr => by
        by_cases e : r = k
        · rw [e]; exact h
        · exact unhide HA r (by omega)
      rw [unhide EO] at HAk HA1
      have hA := Below.alloc1 wr (.cells #[.string n0, .int .i64 wt, .int .i64 cl, .bool co, .int .i64 fr, .int .i64 to, .int .i64 sx, .int .i64 sy, .int .i64 sz] 44)
      have HW1 := hide (Below.step (unhide HW) hA)
      have hki : (k : Int) < L.length := by omega
      clear EX EBX ESP hA HW EO HA
      by_cases hf : fr = p
      · rw [decide_eq_true hf] at HA1
        have d1 : (fr != p) = false := by simp [hf]
        have d2 : (fr == p) = true := by simp [hf]
        clear hf
        replace HA1 := hide (unhide HA1 rfl)
        clear HAk
        go_wp2
        go_roundg (L.length - (k + 1))
        case measure => omega
        case rel => exact ⟨k + 1, by omega, rfl, by go_num, unhide HA1, unhide HW1⟩
      · rw [decide_eq_false hf] at HAk
        have d1 : (fr != p) = true := by simp [hf]
        have d2 : (fr == p) = false := by simp [hf]
        clear hf
        have E := hide (unhide HAk rfl)
        clear HAk HA1 E1 E2
        go_wp2
        go_ret
        exact ⟨by rw [unhide E]; rfl, unhide HW1⟩
    · have hki : ¬ (k : Int) < L.length := by omega
      have hkk : k = L.length := by omega
      have E := hide (unhide E1 (by rw [← hkk]; exact unhide HA))
      clear hkk E1
      go_wp2
      go_ret
      exact ⟨by rw [unhide E]; rfl, unhide HW⟩

set_option maxRecDepth 10000 in
set_option maxHeartbeats 6400000 in
theorem staying_any (v : Value) (L : List StowT) (p : Int) (w : World) (h : RStow w v L) (hs : L.length ≤ 1048576) :
    Calls Try.prog 66 #[v, .int .i64 p] w fun e w' => ∃ ao m cap, e = .returned (.slice ao m cap) ∧ RowB 44 9 eStow w.heap.size w' ao m cap (stayL L p) ∧ m ≤ L.length ∧ Below w.heap.size w w' := by
  obtain ⟨ao, cap, rfl, hl, hm, hc⟩ := h
  unfold maxLen at hm
  have HC := hide hc
  clear hc
  have HN := hide (rowB_nil 44 9 eStow w.heap.size w)
  go_enter Try.func66, Try.ntmps66
  go_wp2
  go_loopg [5, 10] L.length (fun g ov kv wr => ∃ (k m c : Nat) (ro : Option Addr), k ≤ L.length ∧ g = L.length - k ∧ kv = .int .i64 k ∧ ov = .slice ro m c ∧ m ≤ k ∧ Hid (RowB 44 9 eStow w.heap.size wr ro m c (stayT L p k)) ∧ Hid (Below w.heap.size w wr))
  case atStart => exact ⟨0, 0, 0, none, Nat.zero_le _, rfl, rfl, rfl, Nat.le_refl _, unhide HN, Below.refl _ _⟩
  case round =>
    clear HN
    obtain ⟨k, m, c, ro, hk, rfl, rfl, rfl, hmk, HL, HW⟩ := hrel
    by_cases hkn : k < L.length
    · have EH : Hid (toS (stO L k) ≠ p → stayT L p (k + 1) = stayT L p k ++ [stO L k]) := fun h => by rw [stayT, if_neg h]
      have EM : Hid (toS (stO L k) = p → stayT L p (k + 1) = stayT L p k) := fun h => by rw [stayT, if_pos h, List.append_nil]
      obtain ⟨b, o, n0, wt, cl, co, fr, to, sx, sy, sz, rfl, hc0, hc1, hc2, hc3, hc4, hc5, hc6, hc7, hc8, EX⟩ := recStowAt (unhide HC) hkn
      have g0 := ((unhide HW).cell (lt_of_cell hc0)).trans hc0
      have g1 := ((unhide HW).cell (lt_of_cell hc1)).trans hc1
      have g2 := ((unhide HW).cell (lt_of_cell hc2)).trans hc2
      have g3 := ((unhide HW).cell (lt_of_cell hc3)).trans hc3
      have g4 := ((unhide HW).cell (lt_of_cell hc4)).trans hc4
      have g5 := ((unhide HW).cell (lt_of_cell hc5)).trans hc5
      have g6 := ((unhide HW).cell (lt_of_cell hc6)).trans hc6
      have g7 := ((unhide HW).cell (lt_of_cell hc7)).trans hc7
      have g8 := ((unhide HW).cell (lt_of_cell hc8)).trans hc8
      have ESP : Hid (ssp (stO L k) = (sx, sy, sz)) := by show _ = _; unfold stO; rw [unhide EX]; rfl
      have EBX : Hid (sbx (stO L k) = (n0, wt, cl, co, fr, to)) := by show _ = _; unfold stO; rw [unhide EX]; rfl
      clear hc0 hc1 hc2 hc3 hc4 hc5 hc6 hc7 hc8
      have ETO : Hid (toS (stO L k) = to) := by show _ = _; unfold toS stO; rw [unhide EX]
      have EST : Hid (stO L k = (n0, wt, cl, co, fr, to, sx, sy, sz)) := by show _ = _; unfold stO; rw [unhide EX]
      rw [unhide ETO, unhide EST] at EH
      rw [unhide ETO] at EM
      have hA := Below.alloc1 wr (.cells #[.string n0, .int .i64 wt, .int .i64 cl, .bool co, .int .i64 fr, .int .i64 to, .int .i64 sx, .int .i64 sy, .int .i64 sz] 44)
      have HX := hide (ownV_alloc wr #[.string n0, .int .i64 wt, .int .i64 cl, .bool co, .int .i64 fr, .int .i64 to, .int .i64 sx, .int .i64 sy, .int .i64 sz] 44)
      have HW1 := hide (Below.step (unhide HW) hA)
      have HL1 := hide ((unhide HL).below hA)
      have hki : (k : Int) < L.length := by omega
      clear EX EBX ESP hA HW HL ETO EST
      by_cases ht : to = p
      · have d1 : (to != p) = false := by simp [ht]
        have d2 : (to == p) = true := by simp [ht]
        replace EM := hide (unhide EM ht)
        clear EH ht
        go_wp2
        go_roundg (L.length - (k + 1))
        case measure => omega
        case rel => exact ⟨k + 1, m, c, ro, by omega, rfl, by go_num, rfl, by omega, by rw [unhide EM]; exact unhide HL1, unhide HW1⟩
      · have d1 : (to != p) = true := by simp [ht]
        have d2 : (to == p) = false := by simp [ht]
        replace EH := hide (unhide EH ht)
        clear EM ht
        obtain ⟨V1, eV⟩ : ∃ V, V = wr.alloc (.cells #[.string n0, .int .i64 wt, .int .i64 cl, .bool co, .int .i64 fr, .int .i64 to, .int .i64 sx, .int .i64 sy, .int .i64 sz] 44) := ⟨_, rfl⟩
        rw [← eV] at HX HW1 HL1
        have hA2 := Below.alloc1 V1 (.cells #[.string n0, .int .i64 wt, .int .i64 cl, .bool co, .int .i64 fr, .int .i64 to, .int .i64 sx, .int .i64 sy, .int .i64 sz] 44)
        have HG : Hid (OwnV (V1.alloc (.cells #[.string n0, .int .i64 wt, .int .i64 cl, .bool co, .int .i64 fr, .int .i64 to, .int .i64 sx, .int .i64 sy, .int .i64 sz] 44)) (wr.heap.size + 1) [.string n0, .int .i64 wt, .int .i64 cl, .bool co, .int .i64 fr, .int .i64 to, .int .i64 sx, .int .i64 sy, .int .i64 sz]) := by
          have h := ownV_alloc V1 #[.string n0, .int .i64 wt, .int .i64 cl, .bool co, .int .i64 fr, .int .i64 to, .int .i64 sx, .int .i64 sy, .int .i64 sz] 44
          rw [eV] at h ⊢
          simp only [World.size_alloc] at h
          exact h
        replace HW1 := hide (Below.step (unhide HW1) hA2)
        replace HL1 := hide ((unhide HL1).below hA2)
        have hws := (unhide HW1).size
        clear hA2
        subst eV
        go_wp2_with (at_builtin; go_must (refine wpList_appRow tyStow _ rfl _ _ rfl w.heap.size ro m c (stayT L p k) rfl (unhide HL1) hws (by omega) (wr.heap.size + 1) (n0, wt, cl, co, fr, to, sx, sy, sz) 1 rfl (unhide HG) ?_); intro g' cap' w3 hL hK hBg hat; have HL2 := hide hL; have HK := hide hK; clear hL hK hat)
        go_roundg (L.length - (k + 1))
        case measure => omega
        case rel =>
          refine ⟨k + 1, m + 1, cap', _, by omega, rfl, by go_num, rfl, by omega, ?_, onRow_below (unhide HW1) (unhide HL1) (by decide) hws (unhide HK)⟩
          rw [unhide EH]
          exact unhide HL2
    · have hki : ¬ (k : Int) < L.length := by omega
      have HL1 : Hid (RowB 44 9 eStow w.heap.size wr ro m c (stayL L p)) := by
        have h := unhide HL
        rw [show k = L.length by omega] at h
        exact h
      clear HL
      go_wp2
      go_ret
      exact ⟨ro, m, c, rfl, unhide HL1, by omega, unhide HW⟩

end Go.Proofs.Ytdkfleodgdpckaa

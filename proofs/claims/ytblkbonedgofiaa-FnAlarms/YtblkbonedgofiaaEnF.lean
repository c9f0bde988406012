/- Alarms in numbers; the specification's Alarms. Written by wip/mkal.py. -/
import Derived.Test.YtblkbonedgofiaaWalkD
import Derived.Test.YtblkbonedgofiaaRecs
import Derived.Test.YtblkbonedgofiaaExactKit
import Derived.Test.YtblkbonedgofiaaWalkC
import Derived.Test.YtblkbonedgofiaaBoA
import Derived.Test.YtblkbonedgofiaaGrow
import Derived.Test.YtblkbonedgofiaaTwoR
import Derived.Test.YtblkbonedgofiaaSgA
import Derived.Deep.QuietTactic
import Derived.BigQuiet
namespace Go.Proofs.Ytblkbonedgofiaa
open Go.RowKit

def alNext (hi lo ho x : Int) (s : Bool × Int × Int) : Bool × Int × Int :=
  (if s.1 then decide ((if x ≤ lo then s.2.2 + 1 else 0) < ho) else decide (ho ≤ (if hi ≤ x then s.2.1 + 1 else 0)), (if hi ≤ x then s.2.1 + 1 else 0), (if x ≤ lo then s.2.2 + 1 else 0))
def alS (hi lo ho : Int) (xs : List Int) : Nat → Bool × Int × Int
  | 0 => (false, 0, 0)
  | k + 1 => alNext hi lo ho (xs.getD k 0) (alS hi lo ho xs k)
def alL (hi lo ho : Int) (xs : List Int) (k : Nat) : List Bool := (List.range k).map fun i => (alS hi lo ho xs (i + 1)).1
theorem alL_len (hi lo ho : Int) (xs : List Int) (k : Nat) : (alL hi lo ho xs k).length = k := by simp [alL]
theorem alL_next (hi lo ho : Int) (xs : List Int) (k : Nat) : alL hi lo ho xs (k + 1) = alL hi lo ho xs k ++ [(alS hi lo ho xs (k + 1)).1] := by simp [alL, List.range_succ]
theorem alS_bd (hi lo ho : Int) (xs : List Int) : ∀ k, 0 ≤ (alS hi lo ho xs k).2.1 ∧ (alS hi lo ho xs k).2.1 ≤ k ∧ 0 ≤ (alS hi lo ho xs k).2.2 ∧ (alS hi lo ho xs k).2.2 ≤ k := by
  intro k
  induction k with
  | zero => simp [alS]
  | succ k ih =>
    simp only [alS, alNext]
    split <;> split <;> omega
def ruleB (hi lo ho : Int) : Bool := inB hi (-1000000) 1000000 && (inB lo (-1000000) hi && inB ho 1 100)
def alarmB (hi lo ho : Int) (xs : List Int) : Bool := ruleB hi lo ho && decide ((xs.length : Int) ≤ 500)
def alarmL (hi lo ho : Int) (xs : List Int) : List Bool := if alarmB hi lo ho xs then alL hi lo ho xs xs.length else []
theorem alarmL_len (hi lo ho : Int) (xs : List Int) : (alarmL hi lo ho xs).length ≤ 500 := by
  unfold alarmL
  split
  · next h =>
    rw [alL_len]
    unfold alarmB at h
    simp only [Bool.and_eq_true, decide_eq_true_eq] at h
    omega
  · simp
theorem Try.infoBoolE : (Try.prog.info? 4).map (fun i => (i.zero, i.size, i.bytes)) = some (some (Value.bool false), 1, 1) := by kernel_rfl
theorem ret_al {v : Value} {b b' : Bool} (h : b = b') : Ending.returned (.tuple #[v, .bool b]) = Ending.returned (.tuple #[v, .bool b']) := by rw [h]

set_option maxRecDepth 100000 in
set_option maxHeartbeats 8000000 in
theorem specAlarms_any (hi lo ho : Int) (v : Value) (xs : List Int) (w : World) (h : IntsIn w v xs) :
    Calls Try.prog 19 #[v3 (hi, lo, ho), v] w fun e w' => ∃ a n cp, e = .returned (.tuple #[.slice a n cp, .bool (alarmB hi lo ho xs)]) ∧ OwnBo w.heap.size w' (.slice a n cp) (alarmL hi lo ho xs) ∧ Below w.heap.size w w' := by
  obtain ⟨ao, cap, rfl, hl, hm, hc⟩ := h
  unfold maxLen at hm
  have HC := hide hc
  clear hc
  obtain ⟨i0, hinf, hz0, hz1, hz2⟩ := info_parts Try.infoBoolE
  have HW := hide (Below.alloc1 w (.cells #[.int .i64 hi, .int .i64 lo, .int .i64 ho] 34))
  have HB := hide (ownV_alloc w #[.int .i64 hi, .int .i64 lo, .int .i64 ho] 34)
  have Q1 := hide fun V => l1In_any hi (-1000000) 1000000 V
  have Q2 := hide fun V => l1In_any lo (-1000000) hi V
  have Q3 := hide fun V => l1In_any ho 1 100 V
  have EV : Hid (alarmB hi lo ho xs = (inB hi (-1000000) 1000000 && (inB lo (-1000000) hi && inB ho 1 100) && decide ((xs.length : Int) ≤ 500))) := rfl
  have EL : Hid (alarmL hi lo ho xs = if alarmB hi lo ho xs then alL hi lo ho xs xs.length else []) := rfl
  have HRU : Hid (inB hi (-1000000) 1000000 = true → inB lo (-1000000) hi = true → inB ho 1 100 = true → 1 ≤ ho ∧ ho ≤ 100) := fun _ _ e => by simp [inB] at e; exact e
  generalize inB hi (-1000000) 1000000 = b1 at Q1 EV HRU
  generalize inB lo (-1000000) hi = b2 at Q2 EV HRU
  generalize inB ho 1 100 = b3 at Q3 EV HRU
  unfold v3
  go_enter Try.func19, Try.ntmps19
  go_wp2_with fail
  refine (unhide Q1 _).mono ?_
  rintro e w9 ⟨rfl, h9⟩
  have h8 := h9.symm
  subst h8
  clear h9
  cases b1 with
  | false =>
    have EF : Hid (alarmB hi lo ho xs = false) := by show _ = _; rw [unhide EV]; first | rfl | simp | (simp; omega)
    go_wp2
    refine bodyPost_ret (v := .tuple #[.slice (some ⟨w.heap.size + 1, 0, none⟩) 0 0, .bool false]) (by simp [results, Try.results19, go_sem]) rfl ⟨_, _, _, by rw [unhide EF], ?_, Below.step (unhide HW) (Below.alloc1 _ _)⟩
    rw [unhide EL, unhide EF]
    exact ⟨_, 0, rfl, Nat.le_refl _, Nat.zero_le _, fun h => absurd rfl h⟩
  | true =>
  go_wp2_with fail
  refine (unhide Q2 _).mono ?_
  rintro e w9 ⟨rfl, h9⟩
  have h8 := h9.symm
  subst h8
  clear h9
  cases b2 with
  | false =>
    have EF : Hid (alarmB hi lo ho xs = false) := by show _ = _; rw [unhide EV]; first | rfl | simp | (simp; omega)
    go_wp2
    refine bodyPost_ret (v := .tuple #[.slice (some ⟨w.heap.size + 1, 0, none⟩) 0 0, .bool false]) (by simp [results, Try.results19, go_sem]) rfl ⟨_, _, _, by rw [unhide EF], ?_, Below.step (unhide HW) (Below.alloc1 _ _)⟩
    rw [unhide EL, unhide EF]
    exact ⟨_, 0, rfl, Nat.le_refl _, Nat.zero_le _, fun h => absurd rfl h⟩
  | true =>
  go_wp2_with fail
  refine (unhide Q3 _).mono ?_
  rintro e w9 ⟨rfl, h9⟩
  have h8 := h9.symm
  subst h8
  clear h9
  cases b3 with
  | false =>
    have EF : Hid (alarmB hi lo ho xs = false) := by show _ = _; rw [unhide EV]; first | rfl | simp | (simp; omega)
    go_wp2
    refine bodyPost_ret (v := .tuple #[.slice (some ⟨w.heap.size + 1, 0, none⟩) 0 0, .bool false]) (by simp [results, Try.results19, go_sem]) rfl ⟨_, _, _, by rw [unhide EF], ?_, Below.step (unhide HW) (Below.alloc1 _ _)⟩
    rw [unhide EL, unhide EF]
    exact ⟨_, 0, rfl, Nat.le_refl _, Nat.zero_le _, fun h => absurd rfl h⟩
  | true =>
  obtain ⟨hh1, hh2⟩ := unhide HRU (by first | rfl | trivial) (by first | rfl | trivial) (by first | rfl | trivial)
  by_cases h5 : 500 < (xs.length : Int)
  · have h5' : decide ((xs.length : Int) ≤ 500) = false := by rw [decide_eq_false_iff_not]; omega
    have EF : Hid (alarmB hi lo ho xs = false) := by show _ = _; rw [unhide EV]; rw [h5']; rfl
    go_wp2
    refine bodyPost_ret (v := .tuple #[.slice (some ⟨w.heap.size + 1, 0, none⟩) 0 0, .bool false]) (by simp [results, Try.results19, go_sem]) rfl ⟨_, _, _, by rw [unhide EF], ?_, Below.step (unhide HW) (Below.alloc1 _ _)⟩
    rw [unhide EL, unhide EF]
    exact ⟨_, 0, rfl, Nat.le_refl _, Nat.zero_le _, fun h => absurd rfl h⟩
  have ET : Hid (alarmB hi lo ho xs = true) := by show _ = _; rw [unhide EV, decide_eq_true (by omega)]; rfl
  have hsB := (unhide HB).lt
  obtain ⟨V, eV⟩ : ∃ z, z = w.alloc (.cells #[.int .i64 hi, .int .i64 lo, .int .i64 ho] 34) := ⟨_, rfl⟩
  rw [← eV] at HW HB hsB
  have hVs : V.heap.size = w.heap.size + 1 := by rw [eV]; simp
  have HR0 := hide (World.ownsRow_made (base := w.heap.size + 1) (e := 4) (size := 1) V #[] 0 (by omega) (Nat.zero_le _) (by simp))
  have HW1 := hide (Below.step (unhide HW) (Below.alloc1 V (.cells #[] 4)))
  have HB1 := hide ((unhide HB).step (Below.alloc1 V (.cells #[] 4)))
  rw [eV] at HR0 HW1 HB1
  have hVs2 : (w.alloc (.cells #[.int .i64 hi, .int .i64 lo, .int .i64 ho] 34)).heap.size = w.heap.size + 1 := by rw [← eV]; exact hVs
  rw [hVs2] at HR0
  go_wp2
  clear eV hVs HW HB hVs2 hsB
  clear V
  obtain ⟨gB, egB⟩ : ∃ b, b = w.heap.size := ⟨_, rfl⟩
  go_loopg [6, 7, 8, 9, 10] xs.length (fun gg ov nv av bv iv wr => ∃ k : Nat, k ≤ xs.length ∧ gg = xs.length - k ∧ iv = .int .i64 k ∧ nv = .bool (alS hi lo ho xs k).1 ∧ av = .int .i64 (alS hi lo ho xs k).2.1 ∧ bv = .int .i64 (alS hi lo ho xs k).2.2 ∧ Hid (Below w.heap.size w wr) ∧ Hid (OwnV wr w.heap.size [.int .i64 hi, .int .i64 lo, .int .i64 ho]) ∧ (∃ a n cp, ov = .slice a n cp) ∧ Hid (wr.ownsRow (w.heap.size + 1) 4 1 ov k ((alL hi lo ho xs k).map Value.bool)))
  case atStart => exact ⟨0, Nat.zero_le _, rfl, rfl, rfl, rfl, rfl, unhide HW1, unhide HB1, ⟨_, _, _, rfl⟩, unhide HR0⟩
  case round =>
    clear HW1 HB1 HR0
    obtain ⟨k, hk, rfl, rfl, rfl, rfl, rfl, HW, HB, ⟨a, n, cp, rfl⟩, HR⟩ := hrel
    obtain ⟨s0, s1, s2, s3⟩ := alS_bd hi lo ho xs k
    have hsz := (unhide HW).size
    have hbl := (unhide HB).lt
    by_cases hkn : k < xs.length
    · obtain ⟨b, o, rfl, hcell⟩ := unhide HC k hkn
      have g0 := ((unhide HW).cell (lt_of_cell hcell)).trans hcell
      have c0 := (unhide HB).cell (i := 0) rfl
      have c1 := (unhide HB).cell (i := 1) rfl
      have c2 := (unhide HB).cell (i := 2) rfl
      have hki : (k : Int) < xs.length := by omega
      have EN : Hid (alS hi lo ho xs (k + 1) = alNext hi lo ho (xs.getD k 0) (alS hi lo ho xs k)) := rfl
      have ELN := hide (alL_next hi lo ho xs k)
      have HLT := hide (unhide HR).lt
      generalize alS hi lo ho xs k = st at *
      obtain ⟨on, hc, lc⟩ := st
      generalize xs.getD k 0 = x at g0 EN
      dsimp only at s0 s1 s2 s3
      clear hcell
      by_cases hx : hi ≤ x
      · have dx : decide (x < hi) = false := by simp; omega
        by_cases lx : x ≤ lo
        · have dl : decide (lo < x) = false := by simp; omega
          cases on with
          | false =>
            by_cases hcmp : ho ≤ hc + 1
            · have dc : decide (ho ≤ hc + 1) = true := by rw [decide_eq_true_eq]; exact hcmp
              have E1 : Hid (alS hi lo ho xs (k + 1) = (true, (hc + 1), (lc + 1))) := by
                have e1 : (if hi ≤ x then hc + 1 else 0) = (hc + 1) := if_pos hx
                have e2 : (if x ≤ lo then lc + 1 else 0) = (lc + 1) := if_pos lx
                have e3 : decide (ho ≤ (hc + 1)) = true := by rw [decide_eq_true_eq]; omega
                show _ = _
                rw [unhide EN]
                unfold alNext
                dsimp only
                rw [e1, e2]
                exact congrArg (fun q => (q, (hc + 1), (lc + 1))) e3
              rw [unhide E1] at ELN
              go_wp2
              go_quiet (fail)
              go_wp2
              go_quiet (fail)
              go_wp2_with (at_builtin; refine wpList_append_lies _ rfl _ _ 38 rfl (w.heap.size + 1) 4 i0 _ 1 1 Try.underlying38 hinf hz0 hz1 hz2 rfl (by decide) _ k _ rfl (ownsRow_below (ownsRow_below (unhide HR) (below_drewN (Below.refl _ _) _)) (Below.alloc1 _ _)) ⟨wr.heap.size, 0, none⟩ 1 1 [.bool true] rfl rfl (cell_one_new _ _ _) (by simp [Value.oneCell']) (by omega) (by unfold maxLen; omega) (by omega) (by simp; omega) _ rfl ?_; intro g4 cap4 wa hown hgrow hat hlt4; have HWa := hide ((Below.step (below_drewN (unhide HW) _) (Below.alloc1 _ _)).grown hgrow (by simp; omega) (fun g hg => by have := ((unhide HLT) g hg).1; omega)); have HBa := hide (((unhide HB).step (Below.step (below_drewN (Below.refl _ _) _) (Below.alloc1 _ _))).of_block (hgrow.block _ (by simp; omega) (fun e => by have := ((unhide HLT) _ e.symm).1; omega))); have HOW := hide hown; clear hown hgrow hat)
              go_roundg (xs.length - (k + 1))
              case measure => omega
              case rel => exact ⟨k + 1, by omega, rfl, by go_num, by rw [unhide E1], by rw [unhide E1], by rw [unhide E1], unhide HWa, unhide HBa, ⟨_, _, _, rfl⟩, by rw [unhide ELN, List.map_append]; exact unhide HOW⟩
            · have dc : decide (ho ≤ hc + 1) = false := by rw [decide_eq_false_iff_not]; exact hcmp
              have E1 : Hid (alS hi lo ho xs (k + 1) = (false, (hc + 1), (lc + 1))) := by
                have e1 : (if hi ≤ x then hc + 1 else 0) = (hc + 1) := if_pos hx
                have e2 : (if x ≤ lo then lc + 1 else 0) = (lc + 1) := if_pos lx
                have e3 : decide (ho ≤ (hc + 1)) = false := by rw [decide_eq_false_iff_not]; omega
                show _ = _
                rw [unhide EN]
                unfold alNext
                dsimp only
                rw [e1, e2]
                exact congrArg (fun q => (q, (hc + 1), (lc + 1))) e3
              rw [unhide E1] at ELN
              go_wp2
              go_quiet (fail)
              go_wp2
              go_quiet (fail)
              go_wp2_with (at_builtin; refine wpList_append_lies _ rfl _ _ 38 rfl (w.heap.size + 1) 4 i0 _ 1 1 Try.underlying38 hinf hz0 hz1 hz2 rfl (by decide) _ k _ rfl (ownsRow_below (ownsRow_below (unhide HR) (below_drewN (Below.refl _ _) _)) (Below.alloc1 _ _)) ⟨wr.heap.size, 0, none⟩ 1 1 [.bool false] rfl rfl (cell_one_new _ _ _) (by simp [Value.oneCell']) (by omega) (by unfold maxLen; omega) (by omega) (by simp; omega) _ rfl ?_; intro g4 cap4 wa hown hgrow hat hlt4; have HWa := hide ((Below.step (below_drewN (unhide HW) _) (Below.alloc1 _ _)).grown hgrow (by simp; omega) (fun g hg => by have := ((unhide HLT) g hg).1; omega)); have HBa := hide (((unhide HB).step (Below.step (below_drewN (Below.refl _ _) _) (Below.alloc1 _ _))).of_block (hgrow.block _ (by simp; omega) (fun e => by have := ((unhide HLT) _ e.symm).1; omega))); have HOW := hide hown; clear hown hgrow hat)
              go_roundg (xs.length - (k + 1))
              case measure => omega
              case rel => exact ⟨k + 1, by omega, rfl, by go_num, by rw [unhide E1], by rw [unhide E1], by rw [unhide E1], unhide HWa, unhide HBa, ⟨_, _, _, rfl⟩, by rw [unhide ELN, List.map_append]; exact unhide HOW⟩
          | true =>
            by_cases hcmp : ho ≤ lc + 1
            · have dc : decide (ho ≤ lc + 1) = true := by rw [decide_eq_true_eq]; exact hcmp
              have E1 : Hid (alS hi lo ho xs (k + 1) = (false, (hc + 1), (lc + 1))) := by
                have e1 : (if hi ≤ x then hc + 1 else 0) = (hc + 1) := if_pos hx
                have e2 : (if x ≤ lo then lc + 1 else 0) = (lc + 1) := if_pos lx
                have e3 : decide ((lc + 1) < ho) = false := by rw [decide_eq_false_iff_not]; omega
                show _ = _
                rw [unhide EN]
                unfold alNext
                dsimp only
                rw [e1, e2]
                exact congrArg (fun q => (q, (hc + 1), (lc + 1))) e3
              rw [unhide E1] at ELN
              go_wp2
              go_quiet (fail)
              go_wp2
              go_quiet (fail)
              go_wp2_with (at_builtin; refine wpList_append_lies _ rfl _ _ 38 rfl (w.heap.size + 1) 4 i0 _ 1 1 Try.underlying38 hinf hz0 hz1 hz2 rfl (by decide) _ k _ rfl (ownsRow_below (ownsRow_below (unhide HR) (below_drewN (Below.refl _ _) _)) (Below.alloc1 _ _)) ⟨wr.heap.size, 0, none⟩ 1 1 [.bool false] rfl rfl (cell_one_new _ _ _) (by simp [Value.oneCell']) (by omega) (by unfold maxLen; omega) (by omega) (by simp; omega) _ rfl ?_; intro g4 cap4 wa hown hgrow hat hlt4; have HWa := hide ((Below.step (below_drewN (unhide HW) _) (Below.alloc1 _ _)).grown hgrow (by simp; omega) (fun g hg => by have := ((unhide HLT) g hg).1; omega)); have HBa := hide (((unhide HB).step (Below.step (below_drewN (Below.refl _ _) _) (Below.alloc1 _ _))).of_block (hgrow.block _ (by simp; omega) (fun e => by have := ((unhide HLT) _ e.symm).1; omega))); have HOW := hide hown; clear hown hgrow hat)
              go_roundg (xs.length - (k + 1))
              case measure => omega
              case rel => exact ⟨k + 1, by omega, rfl, by go_num, by rw [unhide E1], by rw [unhide E1], by rw [unhide E1], unhide HWa, unhide HBa, ⟨_, _, _, rfl⟩, by rw [unhide ELN, List.map_append]; exact unhide HOW⟩
            · have dc : decide (ho ≤ lc + 1) = false := by rw [decide_eq_false_iff_not]; exact hcmp
              have E1 : Hid (alS hi lo ho xs (k + 1) = (true, (hc + 1), (lc + 1))) := by
                have e1 : (if hi ≤ x then hc + 1 else 0) = (hc + 1) := if_pos hx
                have e2 : (if x ≤ lo then lc + 1 else 0) = (lc + 1) := if_pos lx
                have e3 : decide ((lc + 1) < ho) = true := by rw [decide_eq_true_eq]; omega
                show _ = _
                rw [unhide EN]
                unfold alNext
                dsimp only
                rw [e1, e2]
                exact congrArg (fun q => (q, (hc + 1), (lc + 1))) e3
              rw [unhide E1] at ELN
              go_wp2
              go_quiet (fail)
              go_wp2
              go_quiet (fail)
              go_wp2_with (at_builtin; refine wpList_append_lies _ rfl _ _ 38 rfl (w.heap.size + 1) 4 i0 _ 1 1 Try.underlying38 hinf hz0 hz1 hz2 rfl (by decide) _ k _ rfl (ownsRow_below (ownsRow_below (unhide HR) (below_drewN (Below.refl _ _) _)) (Below.alloc1 _ _)) ⟨wr.heap.size, 0, none⟩ 1 1 [.bool true] rfl rfl (cell_one_new _ _ _) (by simp [Value.oneCell']) (by omega) (by unfold maxLen; omega) (by omega) (by simp; omega) _ rfl ?_; intro g4 cap4 wa hown hgrow hat hlt4; have HWa := hide ((Below.step (below_drewN (unhide HW) _) (Below.alloc1 _ _)).grown hgrow (by simp; omega) (fun g hg => by have := ((unhide HLT) g hg).1; omega)); have HBa := hide (((unhide HB).step (Below.step (below_drewN (Below.refl _ _) _) (Below.alloc1 _ _))).of_block (hgrow.block _ (by simp; omega) (fun e => by have := ((unhide HLT) _ e.symm).1; omega))); have HOW := hide hown; clear hown hgrow hat)
              go_roundg (xs.length - (k + 1))
              case measure => omega
              case rel => exact ⟨k + 1, by omega, rfl, by go_num, by rw [unhide E1], by rw [unhide E1], by rw [unhide E1], unhide HWa, unhide HBa, ⟨_, _, _, rfl⟩, by rw [unhide ELN, List.map_append]; exact unhide HOW⟩
        · have dl : decide (lo < x) = true := by simp; omega
          cases on with
          | false =>
            by_cases hcmp : ho ≤ hc + 1
            · have dc : decide (ho ≤ hc + 1) = true := by rw [decide_eq_true_eq]; exact hcmp
              have E1 : Hid (alS hi lo ho xs (k + 1) = (true, (hc + 1), 0)) := by
                have e1 : (if hi ≤ x then hc + 1 else 0) = (hc + 1) := if_pos hx
                have e2 : (if x ≤ lo then lc + 1 else 0) = 0 := if_neg lx
                have e3 : decide (ho ≤ (hc + 1)) = true := by rw [decide_eq_true_eq]; omega
                show _ = _
                rw [unhide EN]
                unfold alNext
                dsimp only
                rw [e1, e2]
                exact congrArg (fun q => (q, (hc + 1), 0)) e3
              rw [unhide E1] at ELN
              go_wp2
              go_quiet (fail)
              go_wp2
              go_quiet (fail)
              go_wp2_with (at_builtin; refine wpList_append_lies _ rfl _ _ 38 rfl (w.heap.size + 1) 4 i0 _ 1 1 Try.underlying38 hinf hz0 hz1 hz2 rfl (by decide) _ k _ rfl (ownsRow_below (ownsRow_below (unhide HR) (below_drewN (Below.refl _ _) _)) (Below.alloc1 _ _)) ⟨wr.heap.size, 0, none⟩ 1 1 [.bool true] rfl rfl (cell_one_new _ _ _) (by simp [Value.oneCell']) (by omega) (by unfold maxLen; omega) (by omega) (by simp; omega) _ rfl ?_; intro g4 cap4 wa hown hgrow hat hlt4; have HWa := hide ((Below.step (below_drewN (unhide HW) _) (Below.alloc1 _ _)).grown hgrow (by simp; omega) (fun g hg => by have := ((unhide HLT) g hg).1; omega)); have HBa := hide (((unhide HB).step (Below.step (below_drewN (Below.refl _ _) _) (Below.alloc1 _ _))).of_block (hgrow.block _ (by simp; omega) (fun e => by have := ((unhide HLT) _ e.symm).1; omega))); have HOW := hide hown; clear hown hgrow hat)
              go_roundg (xs.length - (k + 1))
              case measure => omega
              case rel => exact ⟨k + 1, by omega, rfl, by go_num, by rw [unhide E1], by rw [unhide E1], by rw [unhide E1], unhide HWa, unhide HBa, ⟨_, _, _, rfl⟩, by rw [unhide ELN, List.map_append]; exact unhide HOW⟩
            · have dc : decide (ho ≤ hc + 1) = false := by rw [decide_eq_false_iff_not]; exact hcmp
              have E1 : Hid (alS hi lo ho xs (k + 1) = (false, (hc + 1), 0)) := by
                have e1 : (if hi ≤ x then hc + 1 else 0) = (hc + 1) := if_pos hx
                have e2 : (if x ≤ lo then lc + 1 else 0) = 0 := if_neg lx
                have e3 : decide (ho ≤ (hc + 1)) = false := by rw [decide_eq_false_iff_not]; omega
                show _ = _
                rw [unhide EN]
                unfold alNext
                dsimp only
                rw [e1, e2]
                exact congrArg (fun q => (q, (hc + 1), 0)) e3
              rw [unhide E1] at ELN
              go_wp2
              go_quiet (fail)
              go_wp2
              go_quiet (fail)
              go_wp2_with (at_builtin; refine wpList_append_lies _ rfl _ _ 38 rfl (w.heap.size + 1) 4 i0 _ 1 1 Try.underlying38 hinf hz0 hz1 hz2 rfl (by decide) _ k _ rfl (ownsRow_below (ownsRow_below (unhide HR) (below_drewN (Below.refl _ _) _)) (Below.alloc1 _ _)) ⟨wr.heap.size, 0, none⟩ 1 1 [.bool false] rfl rfl (cell_one_new _ _ _) (by simp [Value.oneCell']) (by omega) (by unfold maxLen; omega) (by omega) (by simp; omega) _ rfl ?_; intro g4 cap4 wa hown hgrow hat hlt4; have HWa := hide ((Below.step (below_drewN (unhide HW) _) (Below.alloc1 _ _)).grown hgrow (by simp; omega) (fun g hg => by have := ((unhide HLT) g hg).1; omega)); have HBa := hide (((unhide HB).step (Below.step (below_drewN (Below.refl _ _) _) (Below.alloc1 _ _))).of_block (hgrow.block _ (by simp; omega) (fun e => by have := ((unhide HLT) _ e.symm).1; omega))); have HOW := hide hown; clear hown hgrow hat)
              go_roundg (xs.length - (k + 1))
              case measure => omega
              case rel => exact ⟨k + 1, by omega, rfl, by go_num, by rw [unhide E1], by rw [unhide E1], by rw [unhide E1], unhide HWa, unhide HBa, ⟨_, _, _, rfl⟩, by rw [unhide ELN, List.map_append]; exact unhide HOW⟩
          | true =>
            by_cases hcmp : ho ≤ 0
            · exact absurd hcmp (by omega)
            · have dc : decide (ho ≤ 0) = false := by rw [decide_eq_false_iff_not]; exact hcmp
              have E1 : Hid (alS hi lo ho xs (k + 1) = (true, (hc + 1), 0)) := by
                have e1 : (if hi ≤ x then hc + 1 else 0) = (hc + 1) := if_pos hx
                have e2 : (if x ≤ lo then lc + 1 else 0) = 0 := if_neg lx
                have e3 : decide (0 < ho) = true := by rw [decide_eq_true_eq]; omega
                show _ = _
                rw [unhide EN]
                unfold alNext
                dsimp only
                rw [e1, e2]
                exact congrArg (fun q => (q, (hc + 1), 0)) e3
              rw [unhide E1] at ELN
              go_wp2
              go_quiet (fail)
              go_wp2
              go_quiet (fail)
              go_wp2_with (at_builtin; refine wpList_append_lies _ rfl _ _ 38 rfl (w.heap.size + 1) 4 i0 _ 1 1 Try.underlying38 hinf hz0 hz1 hz2 rfl (by decide) _ k _ rfl (ownsRow_below (ownsRow_below (unhide HR) (below_drewN (Below.refl _ _) _)) (Below.alloc1 _ _)) ⟨wr.heap.size, 0, none⟩ 1 1 [.bool true] rfl rfl (cell_one_new _ _ _) (by simp [Value.oneCell']) (by omega) (by unfold maxLen; omega) (by omega) (by simp; omega) _ rfl ?_; intro g4 cap4 wa hown hgrow hat hlt4; have HWa := hide ((Below.step (below_drewN (unhide HW) _) (Below.alloc1 _ _)).grown hgrow (by simp; omega) (fun g hg => by have := ((unhide HLT) g hg).1; omega)); have HBa := hide (((unhide HB).step (Below.step (below_drewN (Below.refl _ _) _) (Below.alloc1 _ _))).of_block (hgrow.block _ (by simp; omega) (fun e => by have := ((unhide HLT) _ e.symm).1; omega))); have HOW := hide hown; clear hown hgrow hat)
              go_roundg (xs.length - (k + 1))
              case measure => omega
              case rel => exact ⟨k + 1, by omega, rfl, by go_num, by rw [unhide E1], by rw [unhide E1], by rw [unhide E1], unhide HWa, unhide HBa, ⟨_, _, _, rfl⟩, by rw [unhide ELN, List.map_append]; exact unhide HOW⟩
      · have dx : decide (x < hi) = true := by simp; omega
        by_cases lx : x ≤ lo
        · have dl : decide (lo < x) = false := by simp; omega
          cases on with
          | false =>
            by_cases hcmp : ho ≤ 0
            · exact absurd hcmp (by omega)
            · have dc : decide (ho ≤ 0) = false := by rw [decide_eq_false_iff_not]; exact hcmp
              have E1 : Hid (alS hi lo ho xs (k + 1) = (false, 0, (lc + 1))) := by
                have e1 : (if hi ≤ x then hc + 1 else 0) = 0 := if_neg hx
                have e2 : (if x ≤ lo then lc + 1 else 0) = (lc + 1) := if_pos lx
                have e3 : decide (ho ≤ 0) = false := by rw [decide_eq_false_iff_not]; omega
                show _ = _
                rw [unhide EN]
                unfold alNext
                dsimp only
                rw [e1, e2]
                exact congrArg (fun q => (q, 0, (lc + 1))) e3
              rw [unhide E1] at ELN
              go_wp2
              go_quiet (fail)
              go_wp2
              go_quiet (fail)
              go_wp2_with (at_builtin; refine wpList_append_lies _ rfl _ _ 38 rfl (w.heap.size + 1) 4 i0 _ 1 1 Try.underlying38 hinf hz0 hz1 hz2 rfl (by decide) _ k _ rfl (ownsRow_below (ownsRow_below (unhide HR) (below_drewN (Below.refl _ _) _)) (Below.alloc1 _ _)) ⟨wr.heap.size, 0, none⟩ 1 1 [.bool false] rfl rfl (cell_one_new _ _ _) (by simp [Value.oneCell']) (by omega) (by unfold maxLen; omega) (by omega) (by simp; omega) _ rfl ?_; intro g4 cap4 wa hown hgrow hat hlt4; have HWa := hide ((Below.step (below_drewN (unhide HW) _) (Below.alloc1 _ _)).grown hgrow (by simp; omega) (fun g hg => by have := ((unhide HLT) g hg).1; omega)); have HBa := hide (((unhide HB).step (Below.step (below_drewN (Below.refl _ _) _) (Below.alloc1 _ _))).of_block (hgrow.block _ (by simp; omega) (fun e => by have := ((unhide HLT) _ e.symm).1; omega))); have HOW := hide hown; clear hown hgrow hat)
              go_roundg (xs.length - (k + 1))
              case measure => omega
              case rel => exact ⟨k + 1, by omega, rfl, by go_num, by rw [unhide E1], by rw [unhide E1], by rw [unhide E1], unhide HWa, unhide HBa, ⟨_, _, _, rfl⟩, by rw [unhide ELN, List.map_append]; exact unhide HOW⟩
          | true =>
            by_cases hcmp : ho ≤ lc + 1
            · have dc : decide (ho ≤ lc + 1) = true := by rw [decide_eq_true_eq]; exact hcmp
              have E1 : Hid (alS hi lo ho xs (k + 1) = (false, 0, (lc + 1))) := by
                have e1 : (if hi ≤ x then hc + 1 else 0) = 0 := if_neg hx
                have e2 : (if x ≤ lo then lc + 1 else 0) = (lc + 1) := if_pos lx
                have e3 : decide ((lc + 1) < ho) = false := by rw [decide_eq_false_iff_not]; omega
                show _ = _
                rw [unhide EN]
                unfold alNext
                dsimp only
                rw [e1, e2]
                exact congrArg (fun q => (q, 0, (lc + 1))) e3
              rw [unhide E1] at ELN
              go_wp2
              go_quiet (fail)
              go_wp2
              go_quiet (fail)
              go_wp2_with (at_builtin; refine wpList_append_lies _ rfl _ _ 38 rfl (w.heap.size + 1) 4 i0 _ 1 1 Try.underlying38 hinf hz0 hz1 hz2 rfl (by decide) _ k _ rfl (ownsRow_below (ownsRow_below (unhide HR) (below_drewN (Below.refl _ _) _)) (Below.alloc1 _ _)) ⟨wr.heap.size, 0, none⟩ 1 1 [.bool false] rfl rfl (cell_one_new _ _ _) (by simp [Value.oneCell']) (by omega) (by unfold maxLen; omega) (by omega) (by simp; omega) _ rfl ?_; intro g4 cap4 wa hown hgrow hat hlt4; have HWa := hide ((Below.step (below_drewN (unhide HW) _) (Below.alloc1 _ _)).grown hgrow (by simp; omega) (fun g hg => by have := ((unhide HLT) g hg).1; omega)); have HBa := hide (((unhide HB).step (Below.step (below_drewN (Below.refl _ _) _) (Below.alloc1 _ _))).of_block (hgrow.block _ (by simp; omega) (fun e => by have := ((unhide HLT) _ e.symm).1; omega))); have HOW := hide hown; clear hown hgrow hat)
              go_roundg (xs.length - (k + 1))
              case measure => omega
              case rel => exact ⟨k + 1, by omega, rfl, by go_num, by rw [unhide E1], by rw [unhide E1], by rw [unhide E1], unhide HWa, unhide HBa, ⟨_, _, _, rfl⟩, by rw [unhide ELN, List.map_append]; exact unhide HOW⟩
            · have dc : decide (ho ≤ lc + 1) = false := by rw [decide_eq_false_iff_not]; exact hcmp
              have E1 : Hid (alS hi lo ho xs (k + 1) = (true, 0, (lc + 1))) := by
                have e1 : (if hi ≤ x then hc + 1 else 0) = 0 := if_neg hx
                have e2 : (if x ≤ lo then lc + 1 else 0) = (lc + 1) := if_pos lx
                have e3 : decide ((lc + 1) < ho) = true := by rw [decide_eq_true_eq]; omega
                show _ = _
                rw [unhide EN]
                unfold alNext
                dsimp only
                rw [e1, e2]
                exact congrArg (fun q => (q, 0, (lc + 1))) e3
              rw [unhide E1] at ELN
              go_wp2
              go_quiet (fail)
              go_wp2
              go_quiet (fail)
              go_wp2_with (at_builtin; refine wpList_append_lies _ rfl _ _ 38 rfl (w.heap.size + 1) 4 i0 _ 1 1 Try.underlying38 hinf hz0 hz1 hz2 rfl (by decide) _ k _ rfl (ownsRow_below (ownsRow_below (unhide HR) (below_drewN (Below.refl _ _) _)) (Below.alloc1 _ _)) ⟨wr.heap.size, 0, none⟩ 1 1 [.bool true] rfl rfl (cell_one_new _ _ _) (by simp [Value.oneCell']) (by omega) (by unfold maxLen; omega) (by omega) (by simp; omega) _ rfl ?_; intro g4 cap4 wa hown hgrow hat hlt4; have HWa := hide ((Below.step (below_drewN (unhide HW) _) (Below.alloc1 _ _)).grown hgrow (by simp; omega) (fun g hg => by have := ((unhide HLT) g hg).1; omega)); have HBa := hide (((unhide HB).step (Below.step (below_drewN (Below.refl _ _) _) (Below.alloc1 _ _))).of_block (hgrow.block _ (by simp; omega) (fun e => by have := ((unhide HLT) _ e.symm).1; omega))); have HOW := hide hown; clear hown hgrow hat)
              go_roundg (xs.length - (k + 1))
              case measure => omega
              case rel => exact ⟨k + 1, by omega, rfl, by go_num, by rw [unhide E1], by rw [unhide E1], by rw [unhide E1], unhide HWa, unhide HBa, ⟨_, _, _, rfl⟩, by rw [unhide ELN, List.map_append]; exact unhide HOW⟩
        · have dl : decide (lo < x) = true := by simp; omega
          cases on with
          | false =>
            by_cases hcmp : ho ≤ 0
            · exact absurd hcmp (by omega)
            · have dc : decide (ho ≤ 0) = false := by rw [decide_eq_false_iff_not]; exact hcmp
              have E1 : Hid (alS hi lo ho xs (k + 1) = (false, 0, 0)) := by
                have e1 : (if hi ≤ x then hc + 1 else 0) = 0 := if_neg hx
                have e2 : (if x ≤ lo then lc + 1 else 0) = 0 := if_neg lx
                have e3 : decide (ho ≤ 0) = false := by rw [decide_eq_false_iff_not]; omega
                show _ = _
                rw [unhide EN]
                unfold alNext
                dsimp only
                rw [e1, e2]
                exact congrArg (fun q => (q, 0, 0)) e3
              rw [unhide E1] at ELN
              go_wp2
              go_quiet (fail)
              go_wp2
              go_quiet (fail)
              go_wp2_with (at_builtin; refine wpList_append_lies _ rfl _ _ 38 rfl (w.heap.size + 1) 4 i0 _ 1 1 Try.underlying38 hinf hz0 hz1 hz2 rfl (by decide) _ k _ rfl (ownsRow_below (ownsRow_below (unhide HR) (below_drewN (Below.refl _ _) _)) (Below.alloc1 _ _)) ⟨wr.heap.size, 0, none⟩ 1 1 [.bool false] rfl rfl (cell_one_new _ _ _) (by simp [Value.oneCell']) (by omega) (by unfold maxLen; omega) (by omega) (by simp; omega) _ rfl ?_; intro g4 cap4 wa hown hgrow hat hlt4; have HWa := hide ((Below.step (below_drewN (unhide HW) _) (Below.alloc1 _ _)).grown hgrow (by simp; omega) (fun g hg => by have := ((unhide HLT) g hg).1; omega)); have HBa := hide (((unhide HB).step (Below.step (below_drewN (Below.refl _ _) _) (Below.alloc1 _ _))).of_block (hgrow.block _ (by simp; omega) (fun e => by have := ((unhide HLT) _ e.symm).1; omega))); have HOW := hide hown; clear hown hgrow hat)
              go_roundg (xs.length - (k + 1))
              case measure => omega
              case rel => exact ⟨k + 1, by omega, rfl, by go_num, by rw [unhide E1], by rw [unhide E1], by rw [unhide E1], unhide HWa, unhide HBa, ⟨_, _, _, rfl⟩, by rw [unhide ELN, List.map_append]; exact unhide HOW⟩
          | true =>
            by_cases hcmp : ho ≤ 0
            · exact absurd hcmp (by omega)
            · have dc : decide (ho ≤ 0) = false := by rw [decide_eq_false_iff_not]; exact hcmp
              have E1 : Hid (alS hi lo ho xs (k + 1) = (true, 0, 0)) := by
                have e1 : (if hi ≤ x then hc + 1 else 0) = 0 := if_neg hx
                have e2 : (if x ≤ lo then lc + 1 else 0) = 0 := if_neg lx
                have e3 : decide (0 < ho) = true := by rw [decide_eq_true_eq]; omega
                show _ = _
                rw [unhide EN]
                unfold alNext
                dsimp only
                rw [e1, e2]
                exact congrArg (fun q => (q, 0, 0)) e3
              rw [unhide E1] at ELN
              go_wp2
              go_quiet (fail)
              go_wp2
              go_quiet (fail)
              go_wp2_with (at_builtin; refine wpList_append_lies _ rfl _ _ 38 rfl (w.heap.size + 1) 4 i0 _ 1 1 Try.underlying38 hinf hz0 hz1 hz2 rfl (by decide) _ k _ rfl (ownsRow_below (ownsRow_below (unhide HR) (below_drewN (Below.refl _ _) _)) (Below.alloc1 _ _)) ⟨wr.heap.size, 0, none⟩ 1 1 [.bool true] rfl rfl (cell_one_new _ _ _) (by simp [Value.oneCell']) (by omega) (by unfold maxLen; omega) (by omega) (by simp; omega) _ rfl ?_; intro g4 cap4 wa hown hgrow hat hlt4; have HWa := hide ((Below.step (below_drewN (unhide HW) _) (Below.alloc1 _ _)).grown hgrow (by simp; omega) (fun g hg => by have := ((unhide HLT) g hg).1; omega)); have HBa := hide (((unhide HB).step (Below.step (below_drewN (Below.refl _ _) _) (Below.alloc1 _ _))).of_block (hgrow.block _ (by simp; omega) (fun e => by have := ((unhide HLT) _ e.symm).1; omega))); have HOW := hide hown; clear hown hgrow hat)
              go_roundg (xs.length - (k + 1))
              case measure => omega
              case rel => exact ⟨k + 1, by omega, rfl, by go_num, by rw [unhide E1], by rw [unhide E1], by rw [unhide E1], unhide HWa, unhide HBa, ⟨_, _, _, rfl⟩, by rw [unhide ELN, List.map_append]; exact unhide HOW⟩
    · obtain rfl : k = xs.length := by omega
      go_wp2
      refine bodyPost_ret (v := .tuple #[.slice a n cp, .bool true]) (by simp [results, Try.results19, go_sem]) rfl ⟨_, _, _, by rw [unhide ET], ?_, unhide HW⟩
      rw [unhide EL, unhide ET, if_pos rfl]
      exact (ownsRow_ownC (unhide HR) (alL_len _ _ _ _ _)).mono (by omega)

end Go.Proofs.Ytblkbonedgofiaa

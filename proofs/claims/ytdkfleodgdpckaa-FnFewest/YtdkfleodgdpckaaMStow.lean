/- Marks of boxes and stows: contracts of the laws' own markBoxS, heldBoxS, markStowS, heldStowS. Written by wip/mksto1.py. -/
import Derived.Test.YtdkfleodgdpckaaRStow
namespace Go.Proofs.Ytdkfleodgdpckaa
open Go.RowKit

/-- The marks of BoxS, from k on. -/
def mkBox (k : Int) (q : Nat) : Value := if q % 6 = 0 then .string (mt (k + (q : Int))) else if q % 6 = 3 then .bool (decide ((k + (q : Int)) % 3 = 0)) else .int .i64 (k + (q : Int))

set_option maxRecDepth 10000 in
set_option maxHeartbeats 3200000 in
theorem markBoxS_any (g cap n : Nat) (vs : List Value) (k : Int) (w : World) (h : OwnV w g vs) (hv : n * 6 ≤ vs.length) (hn : n ≤ 1048576) (hk0 : 0 ≤ k) (hk1 : k ≤ 1152921504606846976) :
    Calls Try.prog 44 #[.slice (some ⟨g, 0, none⟩) n cap, .int .i64 k] w fun e w' => e = .returned (.int .i64 (k + 6 * (n : Int))) ∧ Kept (fun b => b = g) w w' ∧ OwnV w' g ((List.range (n * 6)).map (mkBox k)) := by
  have HM0 := hide (MarkF.start (f := mkBox k) h hv)
  clear h hv
  go_enter Try.func44, Try.ntmps44
  go_wp2
  go_loopg [1, 5] n (fun gh kv iv wr => ∃ j : Nat, j ≤ n ∧ gh = n - j ∧ iv = .int .i64 j ∧ kv = .int .i64 (k + 6 * (j : Int)) ∧ Kept (fun b => b = g) w wr ∧ MarkF (mkBox k) g (n * 6) (j * 6) wr)
  case atStart => exact ⟨0, Nat.zero_le _, rfl, rfl, by congr 1; omega, Kept.refl _ _, by rw [Nat.zero_mul]; exact unhide HM0⟩
  case round =>
    obtain ⟨j, hj, rfl, rfl, rfl, hK, hM⟩ := hrel
    clear HM0
    by_cases hjn : j < n
    · have HM := hide hM
      have HK := hide hK
      have HTX := hide fun V => markText_any (k + 6 * (j : Int)) V (by omega)
      have hjni : (j : Int) < n := by omega
      clear hM hK
      go_wp2_with fail
      refine (unhide HTX _).mono ?_
      rintro e w1 ⟨rfl, hb⟩
      have HM1 := hide ((unhide HM).grow hb)
      have HK1 := hide (Kept.trans (unhide HK) (kept_of_below hb))
      clear hb HM HK HTX
      have hf := (unhide HM1).frozen
      obtain ⟨t0', ht0⟩ := (unhide HM1).cell (q := j * 6) (by omega)
      obtain ⟨t1', ht1⟩ := (unhide HM1).cell (q := j * 6 + 1) (by omega)
      obtain ⟨t2', ht2⟩ := (unhide HM1).cell (q := j * 6 + 2) (by omega)
      obtain ⟨t3', ht3⟩ := (unhide HM1).cell (q := j * 6 + 3) (by omega)
      obtain ⟨t4', ht4⟩ := (unhide HM1).cell (q := j * 6 + 4) (by omega)
      obtain ⟨t5', ht5⟩ := (unhide HM1).cell (q := j * 6 + 5) (by omega)
      have HT : Hid (mkBox k (j * 6) = .string (mt (k + 6 * (j : Int)))) := by
        show _ = _
        unfold mkBox
        rw [if_pos (by omega)]
        congr 2
        omega
      generalize mt (k + 6 * (j : Int)) = tx at *
      obtain ⟨bb, ebb⟩ : ∃ b : Bool, b = decide ((k + 6 * (j : Int) + 1 + 1 + 1) % 3 = 0) := ⟨_, rfl⟩
      have HBB : Hid (mkBox k (j * 6 + 3) = .bool bb) := by
        show _ = _
        unfold mkBox
        rw [if_neg (by omega), if_pos (by omega), ebb]
        congr 3
        omega
      have qb1 : decide ((k + 6 * (j : Int) + 1 + 1 + 1) % 3 = 0) = bb := ebb.symm
      have qb2 : ((k + 6 * (j : Int) + 1 + 1 + 1) % 3 == 0) = bb := by rw [ebb]; rfl
      clear ebb
      go_wp2
      go_roundg (n - (j + 1))
      case measure => omega
      case rel =>
        have s0 := (unhide HM1).set (v := (.string tx)) (by omega) (unhide HT).symm
        have s1 := s0.set (v := (.int .i64 (k + 6 * (j : Int) + 1))) (by omega) (by unfold mkBox; rw [if_neg (by omega), if_neg (by omega)]; congr 1; omega)
        have s2 := s1.set (v := (.int .i64 (k + 6 * (j : Int) + 1 + 1))) (by omega) (by unfold mkBox; rw [if_neg (by omega), if_neg (by omega)]; congr 1; omega)
        have s3 := s2.set (v := (.bool bb)) (by omega) (unhide HBB).symm
        have s4 := s3.set (v := (.int .i64 (k + 6 * (j : Int) + 1 + 1 + 1 + 1))) (by omega) (by unfold mkBox; rw [if_neg (by omega), if_neg (by omega)]; congr 1; omega)
        have s5 := s4.set (v := (.int .i64 (k + 6 * (j : Int) + 1 + 1 + 1 + 1 + 1))) (by omega) (by unfold mkBox; rw [if_neg (by omega), if_neg (by omega)]; congr 1; omega)
        refine ⟨j + 1, by omega, rfl, by go_num, by congr 1; omega, (((((((unhide HK1).setCell (p := ⟨g, j * 6, none⟩) rfl _).setCell (p := ⟨g, j * 6 + 1, none⟩) rfl _).setCell (p := ⟨g, j * 6 + 2, none⟩) rfl _).setCell (p := ⟨g, j * 6 + 3, none⟩) rfl _).setCell (p := ⟨g, j * 6 + 4, none⟩) rfl _).setCell (p := ⟨g, j * 6 + 5, none⟩) rfl _), ?_⟩
        rw [show (j + 1) * 6 = j * 6 + 6 by omega]
        exact s5
    · have hjj : j = n := by omega
      subst hjj
      go_wp2
      go_ret
      exact ⟨rfl, hK, hM.done⟩

/-- The marks of StowS, from k on. -/
def mkStow (k : Int) (q : Nat) : Value := if q % 9 = 0 then .string (mt (k + (q : Int))) else if q % 9 = 3 then .bool (decide ((k + (q : Int)) % 3 = 0)) else .int .i64 (k + (q : Int))

set_option maxRecDepth 10000 in
set_option maxHeartbeats 3200000 in
theorem markStowS_any (g cap n : Nat) (vs : List Value) (k : Int) (w : World) (h : OwnV w g vs) (hv : n * 9 ≤ vs.length) (hn : n ≤ 1048576) (hk0 : 0 ≤ k) (hk1 : k ≤ 1152921504606846976) :
    Calls Try.prog 35 #[.slice (some ⟨g, 0, none⟩) n cap, .int .i64 k] w fun e w' => e = .returned (.int .i64 (k + 9 * (n : Int))) ∧ Kept (fun b => b = g) w w' ∧ OwnV w' g ((List.range (n * 9)).map (mkStow k)) := by
  have HM0 := hide (MarkF.start (f := mkStow k) h hv)
  clear h hv
  go_enter Try.func35, Try.ntmps35
  go_wp2
  go_loopg [1, 5] n (fun gh kv iv wr => ∃ j : Nat, j ≤ n ∧ gh = n - j ∧ iv = .int .i64 j ∧ kv = .int .i64 (k + 9 * (j : Int)) ∧ Kept (fun b => b = g) w wr ∧ MarkF (mkStow k) g (n * 9) (j * 9) wr)
  case atStart => exact ⟨0, Nat.zero_le _, rfl, rfl, by congr 1; omega, Kept.refl _ _, by rw [Nat.zero_mul]; exact unhide HM0⟩
  case round =>
    obtain ⟨j, hj, rfl, rfl, rfl, hK, hM⟩ := hrel
    clear HM0
    by_cases hjn : j < n
    · have HM := hide hM
      have HK := hide hK
      have HTX := hide fun V => markText_any (k + 9 * (j : Int)) V (by omega)
      have hjni : (j : Int) < n := by omega
      clear hM hK
      go_wp2_with fail
      refine (unhide HTX _).mono ?_
      rintro e w1 ⟨rfl, hb⟩
      have HM1 := hide ((unhide HM).grow hb)
      have HK1 := hide (Kept.trans (unhide HK) (kept_of_below hb))
      clear hb HM HK HTX
      have hf := (unhide HM1).frozen
      obtain ⟨t0', ht0⟩ := (unhide HM1).cell (q := j * 9) (by omega)
      obtain ⟨t1', ht1⟩ := (unhide HM1).cell (q := j * 9 + 1) (by omega)
      obtain ⟨t2', ht2⟩ := (unhide HM1).cell (q := j * 9 + 2) (by omega)
      obtain ⟨t3', ht3⟩ := (unhide HM1).cell (q := j * 9 + 3) (by omega)
      obtain ⟨t4', ht4⟩ := (unhide HM1).cell (q := j * 9 + 4) (by omega)
      obtain ⟨t5', ht5⟩ := (unhide HM1).cell (q := j * 9 + 5) (by omega)
      obtain ⟨t6', ht6⟩ := (unhide HM1).cell (q := j * 9 + 6) (by omega)
      obtain ⟨t7', ht7⟩ := (unhide HM1).cell (q := j * 9 + 7) (by omega)
      obtain ⟨t8', ht8⟩ := (unhide HM1).cell (q := j * 9 + 8) (by omega)
      have HT : Hid (mkStow k (j * 9) = .string (mt (k + 9 * (j : Int)))) := by
        show _ = _
        unfold mkStow
        rw [if_pos (by omega)]
        congr 2
        omega
      generalize mt (k + 9 * (j : Int)) = tx at *
      obtain ⟨bb, ebb⟩ : ∃ b : Bool, b = decide ((k + 9 * (j : Int) + 1 + 1 + 1) % 3 = 0) := ⟨_, rfl⟩
      have HBB : Hid (mkStow k (j * 9 + 3) = .bool bb) := by
        show _ = _
        unfold mkStow
        rw [if_neg (by omega), if_pos (by omega), ebb]
        congr 3
        omega
      have qb1 : decide ((k + 9 * (j : Int) + 1 + 1 + 1) % 3 = 0) = bb := ebb.symm
      have qb2 : ((k + 9 * (j : Int) + 1 + 1 + 1) % 3 == 0) = bb := by rw [ebb]; rfl
      clear ebb
      go_wp2
      go_roundg (n - (j + 1))
      case measure => omega
      case rel =>
        have s0 := (unhide HM1).set (v := (.string tx)) (by omega) (unhide HT).symm
        have s1 := s0.set (v := (.int .i64 (k + 9 * (j : Int) + 1))) (by omega) (by unfold mkStow; rw [if_neg (by omega), if_neg (by omega)]; congr 1; omega)
        have s2 := s1.set (v := (.int .i64 (k + 9 * (j : Int) + 1 + 1))) (by omega) (by unfold mkStow; rw [if_neg (by omega), if_neg (by omega)]; congr 1; omega)
        have s3 := s2.set (v := (.bool bb)) (by omega) (unhide HBB).symm
        have s4 := s3.set (v := (.int .i64 (k + 9 * (j : Int) + 1 + 1 + 1 + 1))) (by omega) (by unfold mkStow; rw [if_neg (by omega), if_neg (by omega)]; congr 1; omega)
        have s5 := s4.set (v := (.int .i64 (k + 9 * (j : Int) + 1 + 1 + 1 + 1 + 1))) (by omega) (by unfold mkStow; rw [if_neg (by omega), if_neg (by omega)]; congr 1; omega)
        have s6 := s5.set (v := (.int .i64 (k + 9 * (j : Int) + 1 + 1 + 1 + 1 + 1 + 1))) (by omega) (by unfold mkStow; rw [if_neg (by omega), if_neg (by omega)]; congr 1; omega)
        have s7 := s6.set (v := (.int .i64 (k + 9 * (j : Int) + 1 + 1 + 1 + 1 + 1 + 1 + 1))) (by omega) (by unfold mkStow; rw [if_neg (by omega), if_neg (by omega)]; congr 1; omega)
        have s8 := s7.set (v := (.int .i64 (k + 9 * (j : Int) + 1 + 1 + 1 + 1 + 1 + 1 + 1 + 1))) (by omega) (by unfold mkStow; rw [if_neg (by omega), if_neg (by omega)]; congr 1; omega)
        refine ⟨j + 1, by omega, rfl, by go_num, by congr 1; omega, ((((((((((unhide HK1).setCell (p := ⟨g, j * 9, none⟩) rfl _).setCell (p := ⟨g, j * 9 + 1, none⟩) rfl _).setCell (p := ⟨g, j * 9 + 2, none⟩) rfl _).setCell (p := ⟨g, j * 9 + 3, none⟩) rfl _).setCell (p := ⟨g, j * 9 + 4, none⟩) rfl _).setCell (p := ⟨g, j * 9 + 5, none⟩) rfl _).setCell (p := ⟨g, j * 9 + 6, none⟩) rfl _).setCell (p := ⟨g, j * 9 + 7, none⟩) rfl _).setCell (p := ⟨g, j * 9 + 8, none⟩) rfl _), ?_⟩
        rw [show (j + 1) * 9 = j * 9 + 9 by omega]
        exact s8
    · have hjj : j = n := by omega
      subst hjj
      go_wp2
      go_ret
      exact ⟨rfl, hK, hM.done⟩

set_option maxRecDepth 10000 in
set_option maxHeartbeats 3200000 in
theorem heldStowS_any (g cap n : Nat) (k : Int) (w : World) (h : OwnV w g ((List.range (n * 9)).map (mkStow k))) (hn : n ≤ 1048576) (hk0 : 0 ≤ k) (hk1 : k ≤ 1152921504606846976) :
    Calls Try.prog 40 #[.slice (some ⟨g, 0, none⟩) n cap, .int .i64 k] w fun e w' => e = .returned (.int .i64 (k + 9 * (n : Int))) ∧ Below w.heap.size w w' := by
  have H := hide h
  clear h
  go_enter Try.func40, Try.ntmps40
  go_wp2
  go_loopg [1, 5] n (fun gh kv iv wr => Below w.heap.size w wr ∧ ∃ j : Nat, j ≤ n ∧ gh = n - j ∧ iv = .int .i64 j ∧ kv = .int .i64 (k + 9 * (j : Int)))
  case atStart => exact ⟨Below.refl _ _, 0, Nat.zero_le _, rfl, rfl, by congr 1; omega⟩
  case round =>
    obtain ⟨hW, j, hj, rfl, rfl, rfl⟩ := hrel
    by_cases hjn : j < n
    · have hO := OwnV.step (unhide H) hW
      obtain ⟨bb, ebb⟩ : ∃ b : Bool, b = decide ((k + 9 * (j : Int) + 1 + 1 + 1) % 3 = 0) := ⟨_, rfl⟩
      have HBB : Hid (mkStow k (j * 9 + 3) = .bool bb) := by
        show _ = _
        unfold mkStow
        rw [if_neg (by omega), if_pos (by omega), ebb]
        congr 3
        omega
      have qb1 : decide ((k + 9 * (j : Int) + 1 + 1 + 1) % 3 = 0) = bb := ebb.symm
      have qb2 : ((k + 9 * (j : Int) + 1 + 1 + 1) % 3 == 0) = bb := by rw [ebb]; rfl
      clear ebb
      have c0 : wr.cell? ⟨g, j * 9, none⟩ = some (.string (mt (k + 9 * (j : Int)))) := by rw [hO.cell (i := j * 9) (v := mkStow k (j * 9)) (by simp [show j * 9 < n * 9 by omega])]; unfold mkStow; rw [if_pos (by omega)]; congr 3; omega
      have c1 : wr.cell? ⟨g, j * 9 + 1, none⟩ = some (.int .i64 (k + 9 * (j : Int) + 1)) := by rw [hO.cell (i := j * 9 + 1) (v := mkStow k (j * 9 + 1)) (by simp [show j * 9 + 1 < n * 9 by omega])]; unfold mkStow; rw [if_neg (by omega), if_neg (by omega)]; congr 2; omega
      have c2 : wr.cell? ⟨g, j * 9 + 2, none⟩ = some (.int .i64 (k + 9 * (j : Int) + 1 + 1)) := by rw [hO.cell (i := j * 9 + 2) (v := mkStow k (j * 9 + 2)) (by simp [show j * 9 + 2 < n * 9 by omega])]; unfold mkStow; rw [if_neg (by omega), if_neg (by omega)]; congr 2; omega
      have c3 : wr.cell? ⟨g, j * 9 + 3, none⟩ = some (.bool bb) := by rw [hO.cell (i := j * 9 + 3) (v := mkStow k (j * 9 + 3)) (by simp [show j * 9 + 3 < n * 9 by omega])]; rw [unhide HBB]
      have c4 : wr.cell? ⟨g, j * 9 + 4, none⟩ = some (.int .i64 (k + 9 * (j : Int) + 1 + 1 + 1 + 1)) := by rw [hO.cell (i := j * 9 + 4) (v := mkStow k (j * 9 + 4)) (by simp [show j * 9 + 4 < n * 9 by omega])]; unfold mkStow; rw [if_neg (by omega), if_neg (by omega)]; congr 2; omega
      have c5 : wr.cell? ⟨g, j * 9 + 5, none⟩ = some (.int .i64 (k + 9 * (j : Int) + 1 + 1 + 1 + 1 + 1)) := by rw [hO.cell (i := j * 9 + 5) (v := mkStow k (j * 9 + 5)) (by simp [show j * 9 + 5 < n * 9 by omega])]; unfold mkStow; rw [if_neg (by omega), if_neg (by omega)]; congr 2; omega
      have c6 : wr.cell? ⟨g, j * 9 + 6, none⟩ = some (.int .i64 (k + 9 * (j : Int) + 1 + 1 + 1 + 1 + 1 + 1)) := by rw [hO.cell (i := j * 9 + 6) (v := mkStow k (j * 9 + 6)) (by simp [show j * 9 + 6 < n * 9 by omega])]; unfold mkStow; rw [if_neg (by omega), if_neg (by omega)]; congr 2; omega
      have c7 : wr.cell? ⟨g, j * 9 + 7, none⟩ = some (.int .i64 (k + 9 * (j : Int) + 1 + 1 + 1 + 1 + 1 + 1 + 1)) := by rw [hO.cell (i := j * 9 + 7) (v := mkStow k (j * 9 + 7)) (by simp [show j * 9 + 7 < n * 9 by omega])]; unfold mkStow; rw [if_neg (by omega), if_neg (by omega)]; congr 2; omega
      have c8 : wr.cell? ⟨g, j * 9 + 8, none⟩ = some (.int .i64 (k + 9 * (j : Int) + 1 + 1 + 1 + 1 + 1 + 1 + 1 + 1)) := by rw [hO.cell (i := j * 9 + 8) (v := mkStow k (j * 9 + 8)) (by simp [show j * 9 + 8 < n * 9 by omega])]; unfold mkStow; rw [if_neg (by omega), if_neg (by omega)]; congr 2; omega
      have HO := hide hO
      have HW := hide hW
      have S1 := hide fun x' : Gr wr => markText_any (k + 9 * (j : Int)) x'.val (by omega)
      have hjni : (j : Int) < n := by omega
      clear hO hW
      generalize mt (k + 9 * (j : Int)) = tx at *
      have rT := fun x' : Gr wr => gr_cell c0 x'
      have gsome := gr_some wr
      go_wp2
      refine wp_region_grown (by kernel_rfl) (by kernel_rfl) ?_
      repeat (go_big_quiet_step (fail))
      go_big_quiet_want
      go_big_quiet_op
      go_big_quiet_call (exact calls_grown (unhide S1 _))
      repeat (go_big_quiet_step (fail))
      refine wpQuiet_nil ?_
      intro w1 hw1
      obtain ⟨z', hz⟩ := hw1
      have hb : Below wr.heap.size wr w1 := hz ▸ z'.ok
      have HW1 := hide (Below.step (unhide HW) hb)
      clear hz gsome rT S1 hb HW HO c1 c2 c3 c4 c5 c6 c7 c8
      have hO := OwnV.step (unhide H) (unhide HW1)
      have c1 : w1.cell? ⟨g, j * 9 + 1, none⟩ = some (.int .i64 (k + 9 * (j : Int) + 1)) := by rw [hO.cell (i := j * 9 + 1) (v := mkStow k (j * 9 + 1)) (by simp [show j * 9 + 1 < n * 9 by omega])]; unfold mkStow; rw [if_neg (by omega), if_neg (by omega)]; congr 2; omega
      have c2 : w1.cell? ⟨g, j * 9 + 2, none⟩ = some (.int .i64 (k + 9 * (j : Int) + 1 + 1)) := by rw [hO.cell (i := j * 9 + 2) (v := mkStow k (j * 9 + 2)) (by simp [show j * 9 + 2 < n * 9 by omega])]; unfold mkStow; rw [if_neg (by omega), if_neg (by omega)]; congr 2; omega
      have c3 : w1.cell? ⟨g, j * 9 + 3, none⟩ = some (.bool bb) := by rw [hO.cell (i := j * 9 + 3) (v := mkStow k (j * 9 + 3)) (by simp [show j * 9 + 3 < n * 9 by omega])]; rw [unhide HBB]
      have c4 : w1.cell? ⟨g, j * 9 + 4, none⟩ = some (.int .i64 (k + 9 * (j : Int) + 1 + 1 + 1 + 1)) := by rw [hO.cell (i := j * 9 + 4) (v := mkStow k (j * 9 + 4)) (by simp [show j * 9 + 4 < n * 9 by omega])]; unfold mkStow; rw [if_neg (by omega), if_neg (by omega)]; congr 2; omega
      have c5 : w1.cell? ⟨g, j * 9 + 5, none⟩ = some (.int .i64 (k + 9 * (j : Int) + 1 + 1 + 1 + 1 + 1)) := by rw [hO.cell (i := j * 9 + 5) (v := mkStow k (j * 9 + 5)) (by simp [show j * 9 + 5 < n * 9 by omega])]; unfold mkStow; rw [if_neg (by omega), if_neg (by omega)]; congr 2; omega
      have c6 : w1.cell? ⟨g, j * 9 + 6, none⟩ = some (.int .i64 (k + 9 * (j : Int) + 1 + 1 + 1 + 1 + 1 + 1)) := by rw [hO.cell (i := j * 9 + 6) (v := mkStow k (j * 9 + 6)) (by simp [show j * 9 + 6 < n * 9 by omega])]; unfold mkStow; rw [if_neg (by omega), if_neg (by omega)]; congr 2; omega
      have c7 : w1.cell? ⟨g, j * 9 + 7, none⟩ = some (.int .i64 (k + 9 * (j : Int) + 1 + 1 + 1 + 1 + 1 + 1 + 1)) := by rw [hO.cell (i := j * 9 + 7) (v := mkStow k (j * 9 + 7)) (by simp [show j * 9 + 7 < n * 9 by omega])]; unfold mkStow; rw [if_neg (by omega), if_neg (by omega)]; congr 2; omega
      have c8 : w1.cell? ⟨g, j * 9 + 8, none⟩ = some (.int .i64 (k + 9 * (j : Int) + 1 + 1 + 1 + 1 + 1 + 1 + 1 + 1)) := by rw [hO.cell (i := j * 9 + 8) (v := mkStow k (j * 9 + 8)) (by simp [show j * 9 + 8 < n * 9 by omega])]; unfold mkStow; rw [if_neg (by omega), if_neg (by omega)]; congr 2; omega
      clear hO
      go_wp2
      go_roundg (n - (j + 1))
      case measure => omega
      case rel => exact ⟨unhide HW1, j + 1, by omega, rfl, by go_num, by congr 1; omega⟩
    · have hjj : j = n := by omega
      subst hjj
      go_wp2
      go_ret
      exact ⟨rfl, hW⟩

end Go.Proofs.Ytdkfleodgdpckaa

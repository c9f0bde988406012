/- Frames: the program's ReadReport. Written by wip/mkfm2.py. -/
import Derived.Test.YtkjikjeecjendaaFmG
namespace Go.Proofs.Ytkjikjeecjendaa
open Go.RowKit

/-- What ReadReport tells of a frame, in numbers. -/
def readC (L : List Byte) : Int :=
  if L.length ≠ 16 then 1
  else if numB (cutB L 14 16) ≠ crcL (L.take 14) then 2
  else if (L.getD 13 default).val ≠ 0 ∨ repBOf L = false then 3 else 0
def readV (L : List Byte) : Value := if readC L = 0 then repOf L else vReport 0 0 0 0 0 0
theorem readC_len {L : List Byte} (h : L.length ≠ 16) : readC L = 1 := by unfold readC; rw [if_pos h]
theorem readC_chk {L : List Byte} (h : L.length = 16) (h' : numB (cutB L 14 16) ≠ crcL (L.take 14)) : readC L = 2 := by unfold readC; rw [if_neg (by omega), if_pos h']
theorem readC_bad {L : List Byte} (h : L.length = 16) (h' : numB (cutB L 14 16) = crcL (L.take 14)) (h3 : (L.getD 13 default).val ≠ 0 ∨ repBOf L = false) : readC L = 3 := by unfold readC; rw [if_neg (by omega), if_neg (by omega), if_pos h3]
theorem readC_ok {L : List Byte} (h : L.length = 16) (h' : numB (cutB L 14 16) = crcL (L.take 14)) (h3 : (L.getD 13 default).val = 0) (h4 : repBOf L = true) : readC L = 0 := by unfold readC; rw [if_neg (by omega), if_neg (by omega), if_neg (fun h => h.elim (fun x => x h3) (fun x => by rw [h4] at x; cases x))]
theorem readV_not {L : List Byte} {c : Int} (h : readC L = c) (hc : c ≠ 0) : readV L = vReport 0 0 0 0 0 0 := by unfold readV; rw [h, if_neg hc]
theorem readV_ok {L : List Byte} (h : readC L = 0) : readV L = repOf L := by unfold readV; rw [if_pos h]

set_option maxRecDepth 10000 in
set_option maxHeartbeats 1600000 in
theorem implReadReport_any (v : Value) (L : List Byte) (w : World) (h : ByIn w v L) :
    Calls Try.prog 18 #[v] w fun e w' => e = .returned (.tuple #[readV L, .int .i64 (readC L)]) ∧ Below w.heap.size w w' := by
  have h0 := h
  obtain ⟨ao, cap, rfl, hlc, hm, hc⟩ := h
  unfold maxLen at hm
  have HB := hide (Below.alloc1 w (.cells #[.int .i64 0, .int .i64 0, .int .i64 0, .int .i64 0, .int .i64 0, .int .i64 0] 25))
  have HO := hide (ownV_alloc w #[.int .i64 0, .int .i64 0, .int .i64 0, .int .i64 0, .int .i64 0, .int .i64 0] 25)
  by_cases hl : L.length = 16
  case neg =>
    have HN := hide (readC_len hl)
    have hne : ((L.length : Int) != 16) = true := by rw [bne_iff_ne]; omega
    clear hc h0
    generalize L.length = m at *
    clear hl
    go_enter Try.func18, Try.ntmps18
    go_wp2
    refine bodyPost_ret (v := .tuple #[vReport 0 0 0 0 0 0, .int .i64 1]) (by simp [results, Try.results18, go_sem, vReport]) rfl ⟨by rw [readV_not (unhide HN) (by omega), unhide HN], ?_⟩
    first | exact unhide HB | exact ((((((unhide HB).setCell (Nat.le_refl _) _).setCell (Nat.le_refl _) _).setCell (Nat.le_refl _) _).setCell (Nat.le_refl _) _).setCell (Nat.le_refl _) _).setCell (Nat.le_refl _) _
  obtain ⟨b, o, rfl, -⟩ := hc 0 (by omega)
  have hfr := ByIn.frAt h0
  have HFR := hide hfr
  clear hc h0
  have PN : Hid (∀ W, Below w.heap.size w W → Calls Try.prog 57 #[.pointer (some ⟨b, o, none⟩), .int .i64 14, .int .i64 16] W fun e w' => e = .returned (.int .i64 (numB (cutB L 14 16) : Nat)) ∧ w' = W) := fun W hW => by
    exact number_any b o L 14 16 W (hfr.below hW) hl (by omega) (by omega) (by omega)
  have PC := hide fun W (hW : Below w.heap.size w W) => check_any b o L W (hfr.below hW) hl
  have PR := hide fun W (hW : Below w.heap.size w W) => report_any b o L W (hfr.below hW) hl
  have PK := hide fun W => implReportOk_any (numB (cutB L 0 1)) (numB (cutB L 1 5)) (fixB (numB (cutB L 5 8))) (fixB (numB (cutB L 8 11))) (numB (cutB L 11 12)) (numB (cutB L 12 13)) W
  have har := run_arrF b o cap
  have h13 := hfr 13 (by omega)
  have Hbad := hide fun h3 h' => readC_bad hl h' h3
  have Hok := hide fun h3 h4 h' => readC_ok hl h' h3 h4
  have Hchk := hide fun h' => readC_chk hl h'
  have HV : Hid (repOf L = vReport (numB (cutB L 0 1)) (numB (cutB L 1 5)) (fixB (numB (cutB L 5 8))) (fixB (numB (cutB L 8 11))) (numB (cutB L 11 12)) (numB (cutB L 12 13))) := rfl
  have HRB : Hid (repBOf L = repB (numB (cutB L 0 1)) (numB (cutB L 1 5)) (fixB (numB (cutB L 5 8))) (fixB (numB (cutB L 8 11))) (numB (cutB L 11 12)) (numB (cutB L 12 13))) := rfl
  rw [unhide HV] at PR
  rw [hl]
  clear hfr hl
  generalize numB (cutB L 0 1) = n0 at PR PK HV HRB
  generalize numB (cutB L 1 5) = n1 at PR PK HV HRB
  generalize fixB (numB (cutB L 5 8)) = n2 at PR PK HV HRB
  generalize fixB (numB (cutB L 8 11)) = n3 at PR PK HV HRB
  generalize numB (cutB L 11 12) = n4 at PR PK HV HRB
  generalize numB (cutB L 12 13) = n5 at PR PK HV HRB
  unfold vReport at PR PK
  generalize numB (cutB L 14 16) = nn at *
  generalize crcL (L.take 14) = cc at *
  generalize L.getD 13 default = z13 at *
  unfold eB at h13
  generalize z13.val = z at *
  clear z13
  go_enter Try.func18, Try.ntmps18
  go_wp2_with fail
  refine (unhide PN _ (unhide HB)).mono ?_
  rintro e w1 ⟨rfl, h9⟩
  have hB := unhide HB
  have hO := unhide HO
  rw [← h9] at hB hO
  clear h9 HB HO
  have HB := hide hB
  have HO := hide hO
  clear hB hO PN har
  go_wp2_with fail
  refine (unhide PC _ (unhide HB)).mono ?_
  rintro e w2 ⟨rfl, h9⟩
  have h8 := h9.symm
  subst h8
  clear h9 PC
  by_cases hch : nn = cc
  case neg =>
    have HN := hide (unhide Hchk hch)
    have hne : ((nn : Int) != (cc : Int)) = true := by rw [bne_iff_ne]; omega
    clear Hchk Hok Hbad PR PK HV HRB h13 hch HFR
    have d0 := (unhide HO).cell (i := 0) rfl
    have df0 := (unhide HO).frozen 0
    have d1 := (unhide HO).cell (i := 1) rfl
    have df1 := (unhide HO).frozen 1
    have d2 := (unhide HO).cell (i := 2) rfl
    have df2 := (unhide HO).frozen 2
    have d3 := (unhide HO).cell (i := 3) rfl
    have df3 := (unhide HO).frozen 3
    have d4 := (unhide HO).cell (i := 4) rfl
    have df4 := (unhide HO).frozen 4
    have d5 := (unhide HO).cell (i := 5) rfl
    have df5 := (unhide HO).frozen 5
    have HW := hide (((((((unhide HB).setCell (p := ⟨w.heap.size, 0, none⟩) (Nat.le_refl _) (.int .i64 0)).setCell (p := ⟨w.heap.size, 1, none⟩) (Nat.le_refl _) (.int .i64 0)).setCell (p := ⟨w.heap.size, 2, none⟩) (Nat.le_refl _) (.int .i64 0)).setCell (p := ⟨w.heap.size, 3, none⟩) (Nat.le_refl _) (.int .i64 0)).setCell (p := ⟨w.heap.size, 4, none⟩) (Nat.le_refl _) (.int .i64 0)).setCell (p := ⟨w.heap.size, 5, none⟩) (Nat.le_refl _) (.int .i64 0))
    go_wp2
    refine bodyPost_ret (v := .tuple #[vReport 0 0 0 0 0 0, .int .i64 2]) (by simp [results, Try.results18, go_sem, vReport, d0, d1, d2, d3, d4, d5]) rfl ⟨by rw [readV_not (unhide HN) (by omega), unhide HN], unhide HW⟩
  have HCH := hide hch
  have hne : ((nn : Int) != (cc : Int)) = false := by rw [bne_eq_false_iff_eq]; omega
  clear hch
  go_wp2_with fail
  refine (unhide PR _ (unhide HB)).mono ?_
  rintro e w2 ⟨rfl, hb⟩
  have hA := Below.step hb (Below.alloc1 w2 (.cells #[.int .i64 n0, .int .i64 n1, .int .i64 n2, .int .i64 n3, .int .i64 n4, .int .i64 n5] 25))
  have h13' := ((Below.step (unhide HB) hb).cell (lt_of_cell h13)).trans h13
  replace HB := hide (Below.step (unhide HB) hb)
  replace HO := hide ((unhide HO).step hb)
  clear hb PR h13 hne hA
  have hAll := Below.alloc1 w2 (.cells #[.int .i64 n0, .int .i64 n1, .int .i64 n2, .int .i64 n3, .int .i64 n4, .int .i64 n5] 25)
  have h13a := (hAll.cell (lt_of_cell h13')).trans h13'
  have HBa := hide (Below.step (unhide HB) hAll)
  have HOa := hide ((unhide HO).step hAll)
  have HOn := hide (ownV_alloc w2 #[.int .i64 n0, .int .i64 n1, .int .i64 n2, .int .i64 n3, .int .i64 n4, .int .i64 n5] 25)
  have hl2 := (unhide HO).lt
  clear hAll HB HO h13'
  by_cases hz : z = 0
  case neg =>
    have HN := hide (unhide Hbad (Or.inl hz) (unhide HCH))
    have hzn : ((z : Int) != 0) = true := by rw [bne_iff_ne]; omega
    clear Hbad Hok Hchk HV HRB HFR PK HOn hz HCH
    have d0 := (unhide HOa).cell (i := 0) rfl
    have df0 := (unhide HOa).frozen 0
    have d1 := (unhide HOa).cell (i := 1) rfl
    have df1 := (unhide HOa).frozen 1
    have d2 := (unhide HOa).cell (i := 2) rfl
    have df2 := (unhide HOa).frozen 2
    have d3 := (unhide HOa).cell (i := 3) rfl
    have df3 := (unhide HOa).frozen 3
    have d4 := (unhide HOa).cell (i := 4) rfl
    have df4 := (unhide HOa).frozen 4
    have d5 := (unhide HOa).cell (i := 5) rfl
    have df5 := (unhide HOa).frozen 5
    have HW := hide (((((((unhide HBa).setCell (p := ⟨w.heap.size, 0, none⟩) (Nat.le_refl _) (.int .i64 0)).setCell (p := ⟨w.heap.size, 1, none⟩) (Nat.le_refl _) (.int .i64 0)).setCell (p := ⟨w.heap.size, 2, none⟩) (Nat.le_refl _) (.int .i64 0)).setCell (p := ⟨w.heap.size, 3, none⟩) (Nat.le_refl _) (.int .i64 0)).setCell (p := ⟨w.heap.size, 4, none⟩) (Nat.le_refl _) (.int .i64 0)).setCell (p := ⟨w.heap.size, 5, none⟩) (Nat.le_refl _) (.int .i64 0))
    generalize hV : w2.alloc (.cells #[.int .i64 n0, .int .i64 n1, .int .i64 n2, .int .i64 n3, .int .i64 n4, .int .i64 n5] 25) = V at *
    go_wp2
    refine bodyPost_ret (v := .tuple #[vReport 0 0 0 0 0 0, .int .i64 3]) (by simp [results, Try.results18, go_sem, vReport, d0, d1, d2, d3, d4, d5]) rfl ⟨by rw [readV_not (unhide HN) (by omega), unhide HN], unhide HW⟩
  subst hz
  have h00 : (((0 : Nat) : Int) != 0) = false := rfl
  have e0 := (unhide HOn).cell (i := 0) rfl
  have e1 := (unhide HOn).cell (i := 1) rfl
  have e2 := (unhide HOn).cell (i := 2) rfl
  have e3 := (unhide HOn).cell (i := 3) rfl
  have e4 := (unhide HOn).cell (i := 4) rfl
  have e5 := (unhide HOn).cell (i := 5) rfl
  generalize hV : w2.alloc (.cells #[.int .i64 n0, .int .i64 n1, .int .i64 n2, .int .i64 n3, .int .i64 n4, .int .i64 n5] 25) = V at *
  go_wp2_with fail
  refine (unhide PK _).mono ?_
  rintro e w3 ⟨rfl, hb⟩
  replace HBa := hide (Below.step (unhide HBa) hb)
  replace HOa := hide ((unhide HOa).step hb)
  replace HOn := hide ((unhide HOn).step hb)
  clear hb PK h13a e0 e1 e2 e3 e4 e5 h00 hV
  cases hr : repB n0 n1 n2 n3 n4 n5
  · rw [hr] at HRB
    have HN := hide (unhide Hbad (Or.inr (unhide HRB)) (unhide HCH))
    clear Hbad Hok Hchk HV HRB HFR HOn HCH hr
    have d0 := (unhide HOa).cell (i := 0) rfl
    have df0 := (unhide HOa).frozen 0
    have d1 := (unhide HOa).cell (i := 1) rfl
    have df1 := (unhide HOa).frozen 1
    have d2 := (unhide HOa).cell (i := 2) rfl
    have df2 := (unhide HOa).frozen 2
    have d3 := (unhide HOa).cell (i := 3) rfl
    have df3 := (unhide HOa).frozen 3
    have d4 := (unhide HOa).cell (i := 4) rfl
    have df4 := (unhide HOa).frozen 4
    have d5 := (unhide HOa).cell (i := 5) rfl
    have df5 := (unhide HOa).frozen 5
    have HW := hide (((((((unhide HBa).setCell (p := ⟨w.heap.size, 0, none⟩) (Nat.le_refl _) (.int .i64 0)).setCell (p := ⟨w.heap.size, 1, none⟩) (Nat.le_refl _) (.int .i64 0)).setCell (p := ⟨w.heap.size, 2, none⟩) (Nat.le_refl _) (.int .i64 0)).setCell (p := ⟨w.heap.size, 3, none⟩) (Nat.le_refl _) (.int .i64 0)).setCell (p := ⟨w.heap.size, 4, none⟩) (Nat.le_refl _) (.int .i64 0)).setCell (p := ⟨w.heap.size, 5, none⟩) (Nat.le_refl _) (.int .i64 0))
    go_wp2
    refine bodyPost_ret (v := .tuple #[vReport 0 0 0 0 0 0, .int .i64 3]) (by simp [results, Try.results18, go_sem, vReport, d0, d1, d2, d3, d4, d5]) rfl ⟨by rw [readV_not (unhide HN) (by omega), unhide HN], unhide HW⟩
  rw [hr] at HRB
  have HN := hide (unhide Hok (by simp) (unhide HRB) (unhide HCH))
  clear Hbad Hok Hchk HRB HFR HCH hr
  have d0 := (unhide HOa).cell (i := 0) rfl
  have df0 := (unhide HOa).frozen 0
  have e0 := (unhide HOn).cell (i := 0) rfl
  have d1 := (unhide HOa).cell (i := 1) rfl
  have df1 := (unhide HOa).frozen 1
  have e1 := (unhide HOn).cell (i := 1) rfl
  have d2 := (unhide HOa).cell (i := 2) rfl
  have df2 := (unhide HOa).frozen 2
  have e2 := (unhide HOn).cell (i := 2) rfl
  have d3 := (unhide HOa).cell (i := 3) rfl
  have df3 := (unhide HOa).frozen 3
  have e3 := (unhide HOn).cell (i := 3) rfl
  have d4 := (unhide HOa).cell (i := 4) rfl
  have df4 := (unhide HOa).frozen 4
  have e4 := (unhide HOn).cell (i := 4) rfl
  have d5 := (unhide HOa).cell (i := 5) rfl
  have df5 := (unhide HOa).frozen 5
  have e5 := (unhide HOn).cell (i := 5) rfl
  have HW := hide (((((((unhide HBa).setCell (p := ⟨w.heap.size, 0, none⟩) (Nat.le_refl _) (.int .i64 n0)).setCell (p := ⟨w.heap.size, 1, none⟩) (Nat.le_refl _) (.int .i64 n1)).setCell (p := ⟨w.heap.size, 2, none⟩) (Nat.le_refl _) (.int .i64 n2)).setCell (p := ⟨w.heap.size, 3, none⟩) (Nat.le_refl _) (.int .i64 n3)).setCell (p := ⟨w.heap.size, 4, none⟩) (Nat.le_refl _) (.int .i64 n4)).setCell (p := ⟨w.heap.size, 5, none⟩) (Nat.le_refl _) (.int .i64 n5))
  go_wp2
  refine bodyPost_ret (v := .tuple #[vReport n0 n1 n2 n3 n4 n5, .int .i64 0]) (by simp [results, Try.results18, go_sem, vReport, d0, d1, d2, d3, d4, d5]) rfl ⟨by rw [readV_ok (unhide HN), unhide HN, unhide HV], unhide HW⟩

end Go.Proofs.Ytkjikjeecjendaa
